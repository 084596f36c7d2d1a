/- Contract of OpsFor of the program at any pairs (chapter 5). Conditions: the pairs lie in rows; they are few; their texts are no longer than memory. -/
import Derived.Test.YtcaekjbalkbliaaOpfI
set_option linter.unusedVariables false
set_option linter.unusedSimpArgs false
namespace Go.Proofs.Ytcaekjbalkbliaa
open Go.RowKit Go.ChangeShapes Go.WideShapes

set_option maxRecDepth 100000 in
set_option maxHeartbeats 2000000 in
theorem iOpfA_any (A1 : Option Addr) (n1 c1 : Nat) (l1 : List Pr) (A2 : Option Addr) (n2 c2 : Nat) (l2 : List Pr) (w : World) (hr1 : RowAt w w.heap.size A1 (prsC l1)) (hn1 : n1 = l1.length) (hs1 : n1 ≤ 1048576) (hw1 : WfPr l1) (hr2 : RowAt w w.heap.size A2 (prsC l2)) (hn2 : n2 = l2.length) (hs2 : n2 ≤ 1048576) (hw2 : WfPr l2) :
    Calls Try.prog 10 #[.slice A1 n1 c1, .slice A2 n2 c2] w (OpfPost (opfR l1 l2) w) := by
  by_cases hv : (pairsB l1 && pairsB l2) = true
  · rw [Bool.and_eq_true] at hv
    exact iOpf_any A1 n1 c1 l1 A2 n2 c2 l2 w hr1 hn1 hs1 hw1 hr2 hn2 hs2 hw2 hv.1 hv.2
  · have HE := Lib.hid (opfR_no (f := l1) (t := l2) (by simpa using hv))
    have H1 := Lib.hid (fun W (hb : Below w.heap.size w W) => iPairs_any A1 n1 c1 l1 W ((hr1.below hb).mono hb.size) hn1 hs1 hw1)
    have H2 := Lib.hid (fun W (hb : Below w.heap.size w W) => iPairs_any A2 n2 c2 l2 W ((hr2.below hb).mono hb.size) hn2 hs2 hw2)
    have HB0 := Lib.hid ((Below.refl w.heap.size w).alloc (Nat.le_refl _) (.cells #[.slice A1 n1 c1] 26))
    have HV := Lib.hid hv
    clear hr1 hr2 hn1 hn2 hw1 hw2 hv
    go_enter Try.func10, Try.ntmps10
    go_wp2_with fail
    refine (H1.out _ HB0.out).mono ?_
    rintro e w2 ⟨rfl, hb2⟩
    have HB2 := Lib.hid (HB0.out.trans (hb2.mono HB0.out.size))
    clear hb2
    cases h1 : pairsB l1
    · clear h1 HV
      go_wp2_with fail
      go_ret
      rw [HE.out]
      exact ⟨_, rfl, ⟨none, 0, rfl, World.ownsRow_nil _ _ _ _⟩, HB2.out⟩
    · have h2 : pairsB l2 = false := by have h := HV.out; rw [h1] at h; simpa using h
      clear h1 HV
      go_wp2_with fail
      refine (H2.out _ HB2.out).mono ?_
      rintro e w3 ⟨rfl, hb3⟩
      have HB3 := Lib.hid (HB2.out.trans (hb3.mono HB2.out.size))
      rw [h2]
      clear hb3 h2
      go_wp2_with fail
      go_ret
      rw [HE.out]
      exact ⟨_, rfl, ⟨none, 0, rfl, World.ownsRow_nil _ _ _ _⟩, HB3.out⟩
end Go.Proofs.Ytcaekjbalkbliaa
