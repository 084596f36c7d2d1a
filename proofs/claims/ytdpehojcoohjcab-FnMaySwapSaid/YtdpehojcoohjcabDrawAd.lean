/- The draws of the laws on acts. Condition: the code lies in a row. -/
import Derived.Test.YtdpehojcoohjcabDrawAc
set_option linter.unusedVariables false
set_option linter.unusedSimpArgs false
namespace Go.Proofs.Ytdpehojcoohjcab
open Go.RowKit Go.ChangeShapes Go.WideShapes

def AcsGot (w : World) (e : Ending) (w' : World) : Prop := ∃ (l : List Ac) (A : Option Addr) (m c : Nat), e = .returned (.slice A m c) ∧ m = l.length ∧ m ≤ 10 ∧ WfAc l ∧ w'.ownsRow w.heap.size 47 3 (.slice A m c) m (acsC l) ∧ Below w.heap.size w w'
theorem drawMaySwap_any (A : Option Addr) (n c : Nat) (w : World) (h : BytesIn w A n c) :
    Calls Try.prog 34 #[.slice A n c] w (AcsGot w) := by
  have HP := Lib.hid (newReader_any A n c w h)
  go_enter Try.func34, Try.ntmps34
  go_wp2_with fail
  refine (HP.out).mono ?_
  rintro e w1 ⟨rfl, hr1, hb1⟩
  have HB := Lib.hid hb1; clear hb1
  have HK := Lib.hid (someActs_any w.heap.size 0 w1 hr1 (by omega)); clear hr1
  go_wp2_with fail
  refine (HK.out).mono ?_
  rintro e w2 ⟨l, A2, m2, c2, rfl, hm, hm2, hf, hr⟩
  have HG := Lib.hid hr; clear hr
  have HM := Lib.hid hm; clear hm
  have HF := Lib.hid hf; clear hf
  go_wp2_with fail
  go_ret
  exact ⟨l, A2, m2, c2, rfl, HM.out, hm2, HF.out, own_le HG.out.own HB.out.size, HB.out.trans (below_of_grown HG.out.gr (Nat.le_refl _) HB.out.size)⟩
theorem drawReadsOf_any (A : Option Addr) (n c : Nat) (w : World) (h : BytesIn w A n c) :
    Calls Try.prog 27 #[.slice A n c] w (AcsGot w) := by
  have HP := Lib.hid (newReader_any A n c w h)
  go_enter Try.func27, Try.ntmps27
  go_wp2_with fail
  refine (HP.out).mono ?_
  rintro e w1 ⟨rfl, hr1, hb1⟩
  have HB := Lib.hid hb1; clear hb1
  have HK := Lib.hid (someActs_any w.heap.size 0 w1 hr1 (by omega)); clear hr1
  go_wp2_with fail
  refine (HK.out).mono ?_
  rintro e w2 ⟨l, A2, m2, c2, rfl, hm, hm2, hf, hr⟩
  have HG := Lib.hid hr; clear hr
  have HM := Lib.hid hm; clear hm
  have HF := Lib.hid hf; clear hf
  go_wp2_with fail
  go_ret
  exact ⟨l, A2, m2, c2, rfl, HM.out, hm2, HF.out, own_le HG.out.own HB.out.size, HB.out.trans (below_of_grown HG.out.gr (Nat.le_refl _) HB.out.size)⟩
theorem drawViewOrder_any (A : Option Addr) (n c : Nat) (w : World) (h : BytesIn w A n c) :
    Calls Try.prog 33 #[.slice A n c] w (AcsGot w) := by
  have HP := Lib.hid (newReader_any A n c w h)
  go_enter Try.func33, Try.ntmps33
  go_wp2_with fail
  refine (HP.out).mono ?_
  rintro e w1 ⟨rfl, hr1, hb1⟩
  have HB := Lib.hid hb1; clear hb1
  have HK := Lib.hid (someActs_any w.heap.size 0 w1 hr1 (by omega)); clear hr1
  go_wp2_with fail
  refine (HK.out).mono ?_
  rintro e w2 ⟨l, A2, m2, c2, rfl, hm, hm2, hf, hr⟩
  have HG := Lib.hid hr; clear hr
  have HM := Lib.hid hm; clear hm
  have HF := Lib.hid hf; clear hf
  go_wp2_with fail
  go_ret
  exact ⟨l, A2, m2, c2, rfl, HM.out, hm2, HF.out, own_le HG.out.own HB.out.size, HB.out.trans (below_of_grown HG.out.gr (Nat.le_refl _) HB.out.size)⟩
end Go.Proofs.Ytdpehojcoohjcab
