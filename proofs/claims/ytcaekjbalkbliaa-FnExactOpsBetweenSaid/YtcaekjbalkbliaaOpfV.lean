/- Contract of OpsFor of the model (chapter 5). Conditions: the pairs lie in rows; they are few; their texts are no longer than memory. -/
import Derived.Test.YtcaekjbalkbliaaOpfS
import Derived.Test.YtcaekjbalkbliaaPairsC
set_option linter.unusedVariables false
set_option linter.unusedSimpArgs false
namespace Go.Proofs.Ytcaekjbalkbliaa
open Go.RowKit Go.ChangeShapes Go.WideShapes

def opfR (f t : List Pr) : List Cg := if (pairsB f && pairsB t) = true then opsF f t else []
theorem opfR_yes {f t : List Pr} (h1 : pairsB f = true) (h2 : pairsB t = true) : opfR f t = opsF f t := by unfold opfR; rw [if_pos (by rw [h1, h2]; rfl)]
theorem opfR_no {f t : List Pr} (h : (pairsB f && pairsB t) = false) : opfR f t = [] := by unfold opfR; rw [if_neg (by rw [h]; simp)]
theorem own_leF {w : World} {B B' n z : Nat} {e : TypeId} {v : Value} {xs : List Value} (h : w.ownsRow B e z v n xs) (hB : B' ≤ B) : w.ownsRow B' e z v n xs := by
  refine ⟨h.1, ?_⟩
  rcases h.2 with h | ⟨g, cap, cur, hv, hg, r⟩
  · exact .inl h
  · exact .inr ⟨g, cap, cur, hv, by omega, r⟩
def OpfPost (L : List Cg) (w : World) (e : Ending) (w' : World) : Prop := ∃ v, e = .returned v ∧ OwnCg w.heap.size L v w' ∧ Below w.heap.size w w'
set_option maxRecDepth 100000 in
set_option maxHeartbeats 2000000 in
theorem sOpfV_any (A1 : Option Addr) (n1 c1 : Nat) (l1 : List Pr) (A2 : Option Addr) (n2 c2 : Nat) (l2 : List Pr) (w : World) (hr1 : RowAt w w.heap.size A1 (prsC l1)) (hn1 : n1 = l1.length) (hs1 : n1 ≤ 1048576) (hw1 : WfPr l1) (hr2 : RowAt w w.heap.size A2 (prsC l2)) (hn2 : n2 = l2.length) (hs2 : n2 ≤ 1048576) (hw2 : WfPr l2) :
    Calls Try.prog 8 #[.slice A1 n1 c1, .slice A2 n2 c2] w (OpfPost (opfR l1 l2) w) := by
  have H1 := Lib.hid (sPairs_any A1 n1 c1 l1 w hr1 hn1 hs1 hw1)
  have H2 := Lib.hid (fun W (hb : Below w.heap.size w W) => sPairs_any A2 n2 c2 l2 W ((hr2.below hb).mono hb.size) hn2 hs2 hw2)
  have HO := Lib.hid (fun W (hb : Below w.heap.size w W) => sOpf_any A1 n1 c1 l1 A2 n2 c2 l2 W ((hr1.below hb).mono hb.size) hn1 hs1 ((hr2.below hb).mono hb.size) hn2 hs2)
  have HY := Lib.hid (fun h1 h2 => opfR_yes (f := l1) (t := l2) h1 h2)
  have HN := Lib.hid (fun h => opfR_no (f := l1) (t := l2) h)
  clear hr1 hr2 hn1 hn2 hw1 hw2
  go_enter Try.func8, Try.ntmps8
  go_wp2_with fail
  refine (H1.out).mono ?_
  rintro e w2 ⟨rfl, hb2⟩
  have HB2 := Lib.hid hb2; clear hb2
  cases h1 : pairsB l1
  · have HE := Lib.hid (HN.out (by rw [h1]; rfl))
    clear h1
    go_wp2_with fail
    go_ret
    rw [HE.out]
    exact ⟨_, rfl, ⟨none, 0, rfl, World.ownsRow_nil _ _ _ _⟩, HB2.out⟩
  · go_wp2_with fail
    refine (H2.out _ HB2.out).mono ?_
    rintro e w3 ⟨rfl, hb3⟩
    have HB3 := Lib.hid (HB2.out.trans (hb3.mono HB2.out.size)); clear hb3
    cases h2 : pairsB l2
    · have HE := Lib.hid (HN.out (by rw [h1, h2]; rfl))
      clear h1 h2
      go_wp2_with fail
      go_ret
      rw [HE.out]
      exact ⟨_, rfl, ⟨none, 0, rfl, World.ownsRow_nil _ _ _ _⟩, HB3.out⟩
    · have HE := Lib.hid (HY.out h1 h2)
      clear h1 h2
      go_wp2_with fail
      refine (HO.out _ HB3.out).mono ?_
      rintro e w4 ⟨A4, c4, rfl, ho4⟩
      have HO4 := Lib.hid ho4; clear ho4 HO
      rw [← HE.out] at HO4
      rw [← HE.out]
      generalize opfR l1 l2 = L at *
      obtain ⟨n4, hn4⟩ : ∃ n4, L.length = n4 := ⟨_, rfl⟩
      have HP := Lib.hid (show OpfPost L w (.returned (.slice A4 n4 c4)) w4 from by
        rw [← hn4]
        exact ⟨_, rfl, ⟨A4, c4, rfl, own_leF HO4.out.1 HB3.out.size⟩, HB3.out.trans (HO4.out.2.mono HB3.out.size)⟩)
      rw [hn4]
      clear hn4 HO4
      go_wp2_with fail
      go_ret
      exact HP.out
end Go.Proofs.Ytcaekjbalkbliaa
