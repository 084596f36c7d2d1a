/- The drawn changes as arguments (the model's generators DrawValidOps, DrawShortOps, DrawLogText), and the log drawn for SumOf. Condition: the code lies in a row. -/
import Derived.Test.YtpjepcfdlinfdaaDrawRn
import Derived.Test.YtpjepcfdlinfdaaExOp
set_option linter.unusedVariables false
set_option linter.unusedSimpArgs false
namespace Go.Proofs.Ytpjepcfdlinfdaa
open Go.RowKit Go.ChangeShapes Go.WideShapes

def FewC (l : List Cg) : Prop := ∀ p ∈ l, p.1.size ≤ 16 ∧ p.2.1.size ≤ 16
theorem FewC.wf {l : List Cg} (h : FewC l) : WfCg l := fun p hp => ⟨by have := (h p hp).1; unfold maxLen; omega, by have := (h p hp).2; unfold maxLen; omega⟩
def CgsGot (w : World) (e : Ending) (w' : World) : Prop := ∃ (l : List Cg) (A : Option Addr) (m c : Nat), e = .returned (.slice A m c) ∧ m = l.length ∧ m ≤ 13 ∧ FewC l ∧ w'.ownsRow w.heap.size 38 3 (.slice A m c) m (cgsC l) ∧ Below w.heap.size w w'
set_option maxRecDepth 100000 in
theorem drawValidOps_any (A : Option Addr) (n c : Nat) (w : World) (h : BytesIn w A n c) :
    Calls Try.prog 18 #[.slice A n c] w (CgsGot w) := by
  have HP := Lib.hid (newReader_any A n c w h)
  go_enter Try.func18, Try.ntmps18
  go_wp2_with fail
  refine (HP.out).mono ?_
  rintro e w1 ⟨rfl, hr1, hb1⟩
  have HB := Lib.hid hb1; clear hb1
  have HK := Lib.hid (someOps_any w.heap.size 0 w1 hr1 (by omega)); clear hr1
  go_wp2_with fail
  refine (HK.out).mono ?_
  rintro e w2 ⟨l, A2, m2, c2, rfl, hm, hm2, hf, hr⟩
  have HG := Lib.hid hr; clear hr
  have HM := Lib.hid hm; clear hm
  have HF := Lib.hid hf; clear hf
  go_wp2_with fail
  go_ret
  exact ⟨l, A2, m2, c2, rfl, HM.out, hm2, HF.out, own_le HG.out.own HB.out.size, HB.out.trans (below_of_grown HG.out.gr (Nat.le_refl _) HB.out.size)⟩
set_option maxRecDepth 100000 in
theorem drawShortOps_any (A : Option Addr) (n c : Nat) (w : World) (h : BytesIn w A n c) :
    Calls Try.prog 26 #[.slice A n c] w (CgsGot w) := by
  have HP := Lib.hid (newReader_any A n c w h)
  go_enter Try.func26, Try.ntmps26
  go_wp2_with fail
  refine (HP.out).mono ?_
  rintro e w1 ⟨rfl, hr1, hb1⟩
  have HB := Lib.hid hb1; clear hb1
  have HK := Lib.hid (someOps_any w.heap.size 0 w1 hr1 (by omega)); clear hr1
  go_wp2_with fail
  refine (HK.out).mono ?_
  rintro e w2 ⟨l, A2, m2, c2, rfl, hm, hm2, hf, hr⟩
  have HG := Lib.hid hr; clear hr
  have HM := Lib.hid hm; clear hm
  have HF := Lib.hid hf; clear hf
  go_wp2_with fail
  go_ret
  exact ⟨l, A2, m2, c2, rfl, HM.out, hm2, HF.out, own_le HG.out.own HB.out.size, HB.out.trans (below_of_grown HG.out.gr (Nat.le_refl _) HB.out.size)⟩
end Go.Proofs.Ytpjepcfdlinfdaa
