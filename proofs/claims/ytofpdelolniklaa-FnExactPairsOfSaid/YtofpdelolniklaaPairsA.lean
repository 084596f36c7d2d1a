/- PairsOf of program and model at any levels (chapter 4). Conditions: the levels lie in rows; they are few. -/
import Derived.Test.YtofpdelolniklaaPairsS
set_option linter.unusedVariables false
set_option linter.unusedSimpArgs false
namespace Go.Proofs.Ytofpdelolniklaa
open Go.RowKit Go.ChangeShapes Go.WideShapes

def pairsR (L : List (List It)) : List Pr := if levB L = true then pairL (flatL L) else []
theorem iPairsA_any (A : Option Addr) (n c : Nat) (L : List (List It)) (w : World) (hr : LvC w w.heap.size A L) (hn : n = L.length) (hs : n ≤ 1048576) (hw : ∀ r ∈ L, r.length ≤ 1048576 ∧ WfIt r) :
    Calls Try.prog 17 #[.slice A n c] w (PrsPost (pairsR L) w) := by
  cases hv : levB L
  · have HV := Lib.hid (iLev_any A n c L w hr.lv hn hs hw)
    have HE := Lib.hid (show pairsR L = [] by unfold pairsR; rw [hv]; rfl)
    rw [hv] at HV
    rw [HE.out]
    clear hr hn hw hv
    go_enter Try.func17, Try.ntmps17
    go_wp2_with fail
    refine (HV.out).mono ?_
    rintro e w2 ⟨rfl, hb2⟩
    have HB2 := Lib.hid hb2; clear hb2
    go_wp2_with fail
    refine bodyPost_ret (v := .slice none 0 0) (by simp [results, Try.results17, go_sem]) rfl ?_
    exact ⟨_, rfl, ⟨none, 0, rfl, World.ownsRow_nil _ _ _ _⟩, HB2.out⟩
  · rw [show pairsR L = pairL (flatL L) by unfold pairsR; rw [hv]; rfl]
    exact iPairs_any A n c L w hr hn hs hw hv
theorem sPairsA_any (A : Option Addr) (n c : Nat) (L : List (List It)) (w : World) (hr : LvAt w w.heap.size A L) (hn : n = L.length) (hs : n ≤ 1048576) (hw : ∀ r ∈ L, r.length ≤ 1048576 ∧ WfIt r) :
    Calls Try.prog 24 #[.slice A n c] w (PrsPost (pairsR L) w) := by
  cases hv : levB L
  · have HV := Lib.hid (sLev_any A n c L w hr hn hs hw)
    have HE := Lib.hid (show pairsR L = [] by unfold pairsR; rw [hv]; rfl)
    rw [hv] at HV
    rw [HE.out]
    clear hr hn hw hv
    go_enter Try.func24, Try.ntmps24
    go_wp2_with fail
    refine (HV.out).mono ?_
    rintro e w2 ⟨rfl, hb2⟩
    have HB2 := Lib.hid hb2; clear hb2
    go_wp2_with fail
    refine bodyPost_ret (v := .slice none 0 0) (by simp [results, Try.results24, go_sem]) rfl ?_
    exact ⟨_, rfl, ⟨none, 0, rfl, World.ownsRow_nil _ _ _ _⟩, HB2.out⟩
  · rw [show pairsR L = pairL (flatL L) by unfold pairsR; rw [hv]; rfl]
    exact sPairs_any A n c L w hr hn hs hw hv
/-- a pair of levels is an item's -/
theorem pairsR_good {L : List (List It)} (h : ∀ r ∈ L, WfIt r) : (pairsR L).length ≤ 1048576 ∧ ∀ p ∈ pairsR L, GoodPr p := by
  unfold pairsR
  split
  · rename_i hv
    refine ⟨?_, fun p hp => ?_⟩
    · have h1 := flat_few (levB_run hv).1 (fun r hr => run_len40 ((levB_run hv).2 r hr)) L.length (Nat.le_refl _)
      rw [List.take_length] at h1
      have h2 : (heldL (flatL L)).length ≤ (flatL L).length := List.length_filter_le _ _
      have h3 := (levB_run hv).1
      unfold pairL; rw [List.length_map]; omega
    · unfold pairL at hp
      obtain ⟨x, hx, rfl⟩ := List.mem_map.1 hp
      rcases flat_mem L [] x (List.mem_filter.1 hx).1 with h4 | ⟨r, hr, h4⟩
      · cases h4
      · exact h r hr x h4
  · exact ⟨by simp, fun p hp => by cases hp⟩
end Go.Proofs.Ytofpdelolniklaa
