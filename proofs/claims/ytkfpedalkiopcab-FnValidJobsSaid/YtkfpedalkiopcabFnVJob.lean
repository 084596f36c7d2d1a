/- The walk of the law FnValidJobs. Condition: the code lies in a row. -/
import Derived.Test.YtkfpedalkiopcabDrawJd
import Derived.Test.YtkfpedalkiopcabMark
import Derived.Test.YtkfpedalkiopcabJobC
import Derived.Test.YtkfpedalkiopcabJobS
set_option linter.unusedVariables false
set_option linter.unusedSimpArgs false
namespace Go.Proofs.Ytkfpedalkiopcab
open Go.RowKit Go.ChangeShapes Go.WideShapes

theorem jobsB_take {l : List JbT} (h : jobsB l = true) (k : Nat) : jobsB (l.take k) = true := by
  obtain ⟨h1, h2, h3⟩ := jobsB_iff.1 h
  refine jobsB_iff.2 ⟨by rw [List.length_take]; omega, fun i hi => ?_, fun i k hi hk => ?_⟩
  · rw [List.getElem_take]; exact h2 _ _
  · rw [List.getElem_take, List.getElem_take]; exact h3 _ _ _ hk
theorem own_atJb {w : World} {B n c z : Nat} {e : TypeId} {A : Option Addr} {xs : List Value} (h : w.ownsRow B e z (.slice A n c) n xs) (h0 : 0 < n) : ∃ g, A = some ⟨g, 0, none⟩ ∧ n ≤ c ∧ c ≤ maxLen ∧ B ≤ g := by
  rcases h.2 with ⟨hv, hn⟩ | ⟨g, cap, cur, hv, hg, _, h1, h2, _⟩
  · omega
  · injection hv with h3 _ h4
    subst h3 h4
    exact ⟨g, rfl, h1, h2, hg⟩
set_option maxRecDepth 100000 in
set_option maxHeartbeats 2000000 in
theorem walk_FnValidJobs (A : Option Addr) (n c : Nat) (w : World) (h : BytesIn w A n c) :
    Calls Try.prog 9 #[.slice A n c] w fun e w' => e = .returned (.bool true) ∧ Below w.heap.size w w' := by
  have HD := Lib.hid (drawValidJobs_any A n c w h)
  obtain ⟨hc, hm, _⟩ := h
  unfold maxLen at hm
  by_cases hb : n ≤ 1048576
  · go_enter Try.func9, Try.ntmps9
    go_wp2_with fail
    refine (HD.out).mono ?_
    rintro e w1 ⟨l, A1, m, c1, rfl, hml, hm25, hf, ho, hb1⟩
    have HB1 := Lib.hid hb1
    have hwf := hf
    have HI := Lib.hid (fun W (hb : Below w1.heap.size w1 W) => iJobs_any A1 m c1 l W (((RowAt.of_own ho).below hb).mono hb.size) hml (by omega) (own_caps ho).1 (own_caps ho).2)
    have HS := Lib.hid (fun W (hb : Below w1.heap.size w1 W) => sJobsV_any A1 m c1 l W (((RowAt.of_own ho).below hb).mono hb.size) hml (by omega))
    have HL := Lib.hid (fun (k : Nat) (hk : k ≤ m) W (hb : Below w1.heap.size w1 W) => iJobs_any A1 k c1 (l.take k) W (row_takeJb (((RowAt.of_own ho).below hb).mono hb.size) k) (by rw [List.length_take]; omega) (by omega) (Nat.le_trans hk (own_caps ho).1) (own_caps ho).2)
    have HT := Lib.hid (fun (h : jobsB l = true) (k : Nat) => jobsB_take h k)
    have HAT := Lib.hid (fun h0 => own_atJb ho h0)
    clear hb1 hwf hf ho hml
    go_wp2_with fail
    refine (HI.out _ (Below.refl _ _)).mono ?_
    rintro e w2 ⟨rfl, hb2⟩
    have HB2 := Lib.hid hb2; clear hb2
    cases hv : jobsB l
    · rw [hv] at HS
      clear hv HT
      go_wp2_with fail
      refine (HS.out _ HB2.out).mono ?_
      rintro e w3 ⟨rfl, hb3⟩
      have HB3 := Lib.hid (HB2.out.trans (hb3.mono HB2.out.size)); clear hb3
      go_wp2_with fail
      refine (HS.out _ HB3.out).mono ?_
      rintro e w4 ⟨rfl, hb4⟩
      have HB4 := Lib.hid (HB3.out.trans (hb4.mono HB3.out.size)); clear hb4
      go_wp2_with fail
      go_ret
      exact ⟨rfl, HB1.out.trans (HB4.out.mono HB1.out.size)⟩
    · have HT2 := Lib.hid (fun k => HT.out hv k)
      rw [hv] at HS
      clear hv HT
      go_wp2_with fail
      refine (HS.out _ HB2.out).mono ?_
      rintro e w3 ⟨rfl, hb3⟩
      have HB3 := Lib.hid (HB2.out.trans (hb3.mono HB2.out.size)); clear hb3
      cases m with
      | zero =>
        go_wp2_with fail
        go_ret
        exact ⟨rfl, HB1.out.trans (HB3.out.mono HB1.out.size)⟩
      | succ k =>
        obtain ⟨g, hA, hkc, hcm, _⟩ := HAT.out (by omega)
        subst hA
        unfold maxLen at hcm
        have HK := Lib.hid (HL.out k (by omega) _ HB3.out)
        rw [HT2.out k] at HK
        have h1 : (((k + 1 : Nat) : Int) - 1) = (k : Int) := by omega
        have h2 : (((k + 1 : Nat) : Int) == 0) = false := by simp; omega
        have h3 : ¬ (c1 : Int) < (k : Int) := by omega
        have h4 : (k : Int) ≤ (c1 : Int) := by omega
        have h5 : k ≤ c1 := by omega
        go_wp2_with fail
        refine (HK.out).mono ?_
        rintro e w4 ⟨rfl, hb4⟩
        have HB4 := Lib.hid (HB3.out.trans (hb4.mono HB3.out.size)); clear hb4
        go_wp2_with fail
        go_ret
        exact ⟨rfl, HB1.out.trans (HB4.out.mono HB1.out.size)⟩
  · go_enter Try.func9, Try.ntmps9
    go_wp2
    go_ret
    exact ⟨rfl, Below.refl _ _⟩
end Go.Proofs.Ytkfpedalkiopcab
