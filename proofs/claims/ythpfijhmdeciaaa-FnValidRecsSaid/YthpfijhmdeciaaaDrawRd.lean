/- The draws of chapter 6's laws (DrawValidRecs, DrawRunRecs, DrawDiskAfter, DrawRedoRecs). Condition: the code lies in a row. -/
import Derived.Test.YthpfijhmdeciaaaDrawRc
import Derived.Test.YthpfijhmdeciaaaKept
set_option linter.unusedVariables false
set_option linter.unusedSimpArgs false
namespace Go.Proofs.Ythpfijhmdeciaaa
open Go.RowKit Go.ChangeShapes Go.WideShapes

def RecsGot (w : World) (e : Ending) (w' : World) : Prop := ∃ (l : List Rc) (A : Option Addr) (m c : Nat), e = .returned (.slice A m c) ∧ m = l.length ∧ m ≤ 14 ∧ m ≤ c ∧ WfRc l ∧ w'.ownsRow w.heap.size 31 5 (.slice A m c) m (rcsC l) ∧ Below w.heap.size w w'
def RecsKeptGot (w : World) (e : Ending) (w' : World) : Prop := ∃ (l : List Rc) (A : Option Addr) (m c : Nat) (ks : List Int) (Ak : Option Addr) (mk ck : Nat), e = .returned (.tuple #[.slice A m c, .slice Ak mk ck]) ∧ m = l.length ∧ m ≤ 14 ∧ m ≤ c ∧ WfRc l ∧ w'.ownsRow w.heap.size 31 5 (.slice A m c) m (rcsC l) ∧ mk = ks.length ∧ mk ≤ 3 ∧ WfIn ks ∧ (Ak = none → ck = 0) ∧ RowAt w' w'.heap.size Ak (intC ks) ∧ Below w.heap.size w w'
set_option maxRecDepth 100000 in
theorem drawValidRecs_any (A : Option Addr) (n c : Nat) (w : World) (h : BytesIn w A n c) :
    Calls Try.prog 7 #[.slice A n c] w (RecsGot w) := by
  have HP := Lib.hid (newReader_any A n c w h)
  go_enter Try.func7, Try.ntmps7
  go_wp2_with fail
  refine (HP.out).mono ?_
  rintro e w1 ⟨rfl, hr1, hb1⟩
  have HB := Lib.hid hb1; clear hb1
  have HK := Lib.hid (someRecs_any w.heap.size 0 w1 hr1 (by omega)); clear hr1
  go_wp2_with fail
  refine (HK.out).mono ?_
  rintro e w2 ⟨l, A2, m2, c2, rfl, hm, hm2, hmc, hf, hr⟩
  have HG := Lib.hid hr; clear hr
  have HM := Lib.hid hm; clear hm
  have HF := Lib.hid hf; clear hf
  go_wp2_with fail
  go_ret
  exact ⟨l, A2, m2, c2, rfl, HM.out, hm2, hmc, HF.out, own_le HG.out.own HB.out.size, HB.out.trans (below_of_grown HG.out.gr (Nat.le_refl _) HB.out.size)⟩
set_option maxRecDepth 100000 in
theorem drawRunRecs_any (A : Option Addr) (n c : Nat) (w : World) (h : BytesIn w A n c) :
    Calls Try.prog 10 #[.slice A n c] w (RecsGot w) := by
  have HP := Lib.hid (newReader_any A n c w h)
  go_enter Try.func10, Try.ntmps10
  go_wp2_with fail
  refine (HP.out).mono ?_
  rintro e w1 ⟨rfl, hr1, hb1⟩
  have HB := Lib.hid hb1; clear hb1
  have HK := Lib.hid (someRecs_any w.heap.size 0 w1 hr1 (by omega)); clear hr1
  go_wp2_with fail
  refine (HK.out).mono ?_
  rintro e w2 ⟨l, A2, m2, c2, rfl, hm, hm2, hmc, hf, hr⟩
  have HG := Lib.hid hr; clear hr
  have HM := Lib.hid hm; clear hm
  have HF := Lib.hid hf; clear hf
  go_wp2_with fail
  go_ret
  exact ⟨l, A2, m2, c2, rfl, HM.out, hm2, hmc, HF.out, own_le HG.out.own HB.out.size, HB.out.trans (below_of_grown HG.out.gr (Nat.le_refl _) HB.out.size)⟩
set_option maxRecDepth 100000 in
theorem drawDiskAfter_any (A : Option Addr) (n c : Nat) (w : World) (h : BytesIn w A n c) :
    Calls Try.prog 14 #[.slice A n c] w (RecsKeptGot w) := by
  have HP := Lib.hid (newReader_any A n c w h)
  go_enter Try.func14, Try.ntmps14
  go_wp2_with fail
  refine (HP.out).mono ?_
  rintro e w1 ⟨rfl, hr1, hb1⟩
  have HB := Lib.hid hb1; clear hb1
  have hrl := hr1.lt
  have HK := Lib.hid (someRecs_any w.heap.size 0 w1 hr1 (by omega)); clear hr1
  go_wp2_with fail
  refine (HK.out).mono ?_
  rintro e w2 ⟨l, A2, m2, c2, rfl, hm, hm2, hmc, hf, hr⟩
  have HG := Lib.hid hr; clear hr
  have HM := Lib.hid hm; clear hm
  have HF := Lib.hid hf; clear hf
  have HK3 := Lib.hid (someKept_any w.heap.size _ m2 w2 HG.out.rd (by omega) (by omega))
  go_wp2_with fail
  refine (HK3.out).mono ?_
  rintro e w3 ⟨ks, A3, m3, c3, rfl, hm3, hm33, hwk, hn3, hrow3, hrd3, hg3⟩
  have HG3 := Lib.hid (HG.out.grow hrl hg3 hrd3)
  have HX := Lib.hid (And.intro hm3 (And.intro hwk (And.intro hn3 hrow3)))
  clear hm3 hwk hn3 hrow3 hrd3 hg3
  go_wp2_with fail
  go_ret2
  exact ⟨l, A2, m2, c2, ks, A3, m3, c3, rfl, HM.out, hm2, hmc, HF.out, own_le HG3.out.own HB.out.size, HX.out.1, hm33, HX.out.2.1, HX.out.2.2.1, HX.out.2.2.2, HB.out.trans (below_of_grown HG3.out.gr (Nat.le_refl _) HB.out.size)⟩
set_option maxRecDepth 100000 in
theorem drawRedoRecs_any (A : Option Addr) (n c : Nat) (w : World) (h : BytesIn w A n c) :
    Calls Try.prog 17 #[.slice A n c] w (RecsKeptGot w) := by
  have HP := Lib.hid (newReader_any A n c w h)
  go_enter Try.func17, Try.ntmps17
  go_wp2_with fail
  refine (HP.out).mono ?_
  rintro e w1 ⟨rfl, hr1, hb1⟩
  have HB := Lib.hid hb1; clear hb1
  have hrl := hr1.lt
  have HK := Lib.hid (someRecs_any w.heap.size 0 w1 hr1 (by omega)); clear hr1
  go_wp2_with fail
  refine (HK.out).mono ?_
  rintro e w2 ⟨l, A2, m2, c2, rfl, hm, hm2, hmc, hf, hr⟩
  have HG := Lib.hid hr; clear hr
  have HM := Lib.hid hm; clear hm
  have HF := Lib.hid hf; clear hf
  have HK3 := Lib.hid (someKept_any w.heap.size _ m2 w2 HG.out.rd (by omega) (by omega))
  go_wp2_with fail
  refine (HK3.out).mono ?_
  rintro e w3 ⟨ks, A3, m3, c3, rfl, hm3, hm33, hwk, hn3, hrow3, hrd3, hg3⟩
  have HG3 := Lib.hid (HG.out.grow hrl hg3 hrd3)
  have HX := Lib.hid (And.intro hm3 (And.intro hwk (And.intro hn3 hrow3)))
  clear hm3 hwk hn3 hrow3 hrd3 hg3
  go_wp2_with fail
  go_ret2
  exact ⟨l, A2, m2, c2, ks, A3, m3, c3, rfl, HM.out, hm2, hmc, HF.out, own_le HG3.out.own HB.out.size, HX.out.1, hm33, HX.out.2.1, HX.out.2.2.1, HX.out.2.2.2, HB.out.trans (below_of_grown HG3.out.gr (Nat.le_refl _) HB.out.size)⟩
end Go.Proofs.Ythpfijhmdeciaaa
