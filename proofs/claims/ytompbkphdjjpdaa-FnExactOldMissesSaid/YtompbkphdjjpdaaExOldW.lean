/- The walk of the exact law of OldMisses. No condition. -/
import Derived.Test.YtompbkphdjjpdaaExInts
import Derived.Test.YtompbkphdjjpdaaMissO
set_option linter.unusedVariables false
set_option linter.unusedSimpArgs false
namespace Go.Proofs.Ytompbkphdjjpdaa
open Go.RowKit Go.ChangeShapes Go.WideShapes

set_option maxRecDepth 100000 in
set_option maxHeartbeats 4000000 in
theorem walk_FnExactOldMisses (m : Int) (A : Option Addr) (n c : Nat) (l : List Int) (w : World) (g : IntsArg w A n c l) :
    Calls Try.prog 4 #[.int .i64 m, .slice A n c] w fun e w' => e = .returned (.bool true) ∧ Below w.heap.size w w' := by
  obtain ⟨hn, hnc, hcm, hrow, hwf⟩ := g
  unfold maxLen at hcm
  have HR := Lib.hid hrow; clear hrow
  have HN := Lib.hid hn; clear hn
  clear hwf
  by_cases hn20 : n ≤ 1048576
  · have hl20 : l.length ≤ 1048576 := by have := HN.out; omega
    have HT := Lib.hid (fun W (hb : Below w.heap.size w W) => toIntS_any A n c l W ((HR.out.below hb).mono hb.size) HN.out hn20)
    obtain ⟨q, hq⟩ : ∃ q, missR oldCh m l = q := ⟨_, rfl⟩
    have HQ := Lib.hid hq; clear hq
    have q0 : (q != q) = false := by simp
    have q1 : (q == q) = true := by simp
    go_enter Try.func4, Try.ntmps4
    go_wp2_with fail
    refine (HT.out _ (Below.refl _ _)).mono ?_
    rintro e w1 ⟨v1, rfl, ⟨A1, c1, rfl, ho1⟩, hb1⟩
    have HV1 := Lib.hid (sOld_any m A1 l.length c1 l w1 (RowAt.of_own ho1) rfl hl20)
    rw [HQ.out] at HV1
    have HB1 := Lib.hid hb1; clear hb1 ho1
    go_wp2_with fail
    refine (HV1.out).mono ?_
    rintro e w2 ⟨rfl, hb2⟩
    have HB2 := Lib.hid (HB1.out.trans (hb2.mono HB1.out.size)); clear hb2
    go_wp2_with fail
    refine (HT.out _ HB2.out).mono ?_
    rintro e w3 ⟨v3, rfl, ⟨Ax, cx, rfl, ho3⟩, hb3⟩
    obtain ⟨hx1, hx2⟩ := own_cap ho3
    have HO3 := Lib.hid ho3
    have HB3 := Lib.hid (HB2.out.trans (hb3.mono HB2.out.size)); clear hb3 ho3
    have HV3 := Lib.hid (iOld_any m Ax l.length cx l w3 (RowAt.of_own HO3.out) rfl hl20 hx1)
    rw [HQ.out] at HV3
    clear hx1 hx2
    go_wp2_with fail
    refine (HV3.out).mono ?_
    rintro e w4 ⟨rfl, hb4⟩
    have HB34 := Lib.hid hb4
    have HB4 := Lib.hid (HB3.out.trans (hb4.mono HB3.out.size)); clear hb4
    go_wp2_with fail
    refine (HT.out _ HB4.out).mono ?_
    rintro e w5 ⟨v5, rfl, ⟨A5, c5, rfl, ho5⟩, hb5⟩
    have hb35 := HB34.out.trans (hb5.mono HB34.out.size)
    have HE5 := Lib.hid (eqIntS_same Ax A5 l.length cx c5 l w5 (((RowAt.of_own HO3.out).below hb35).mono hb35.size) (RowAt.of_own ho5) rfl hl20)
    have HB5 := Lib.hid (HB4.out.trans (hb5.mono HB4.out.size)); clear hb5 ho5 hb35
    go_wp2_with fail
    refine (HE5.out).mono ?_
    rintro e w6 ⟨rfl, hb6⟩
    have HB6 := Lib.hid (HB5.out.trans (hb6.mono HB5.out.size)); clear hb6
    go_wp2_with fail
    go_ret
    exact ⟨rfl, HB6.out⟩
  · go_enter Try.func4, Try.ntmps4
    go_wp2_with fail
    go_ret
    exact ⟨rfl, Below.refl _ _⟩
end Go.Proofs.Ytompbkphdjjpdaa
