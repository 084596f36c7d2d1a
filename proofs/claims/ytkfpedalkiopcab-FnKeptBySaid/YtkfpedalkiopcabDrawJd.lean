/- The draws of the laws on jobs. Condition: the code lies in a row. -/
import Derived.Test.YtkfpedalkiopcabDrawJb
set_option linter.unusedVariables false
set_option linter.unusedSimpArgs false
namespace Go.Proofs.Ytkfpedalkiopcab
open Go.RowKit Go.ChangeShapes Go.WideShapes

def JbsGot (w : World) (e : Ending) (w' : World) : Prop := ∃ (l : List Jb) (A : Option Addr) (m c : Nat), e = .returned (.slice A m c) ∧ m = l.length ∧ m ≤ 6 ∧ WfJb l ∧ w'.ownsRow w.heap.size 46 4 (.slice A m c) m (jbsC l) ∧ Below w.heap.size w w'
theorem drawValidJobs_any (A : Option Addr) (n c : Nat) (w : World) (h : BytesIn w A n c) :
    Calls Try.prog 34 #[.slice A n c] w (JbsGot w) := by
  have HP := Lib.hid (newReader_any A n c w h)
  go_enter Try.func34, Try.ntmps34
  go_wp2_with fail
  refine (HP.out).mono ?_
  rintro e w1 ⟨rfl, hr1, hb1⟩
  have HB := Lib.hid hb1; clear hb1
  have HK := Lib.hid (someJobs_any w.heap.size 0 w1 hr1 (by omega)); clear hr1
  go_wp2_with fail
  refine (HK.out).mono ?_
  rintro e w2 ⟨l, A2, m2, c2, rfl, hm, hm2, hf, hr⟩
  have HG := Lib.hid hr; clear hr
  have HM := Lib.hid hm; clear hm
  have HF := Lib.hid hf; clear hf
  go_wp2_with fail
  go_ret
  exact ⟨l, A2, m2, c2, rfl, HM.out, hm2, HF.out, own_le HG.out.own HB.out.size, HB.out.trans (below_of_grown HG.out.gr (Nat.le_refl _) HB.out.size)⟩
end Go.Proofs.Ytkfpedalkiopcab
