/- The draws of DrawSeenAt, DrawSweepTo and DrawReadAt (the model's generators). Condition: the code lies in a row. -/
import Derived.Test.YtokmofkpjohlmaaDrawV
set_option linter.unusedVariables false
set_option linter.unusedSimpArgs false
namespace Go.Proofs.Ytokmofkpjohlmaa
open Go.RowKit Go.ChangeShapes Go.WideShapes

theorem ints_six {a b : Int} (h1 : 0 ≤ a) (h2 : a ≤ 21) (h3 : 0 ≤ b) (h4 : b ≤ 21) : intsIn (-1) 21 (#[.int .i64 a, .int .i64 b, .int .i64 0, .int .i64 20, .int .i64 21, .int .i64 (-1)] : Array Value).toList = true := by
  simp [intsIn]; omega
theorem strs_four {a b : ByteArray} (h1 : a.size ≤ 16) (h2 : b.size ≤ 16) : strsB (#[.string a, .string b, .string ⟨#[]⟩, .string ⟨#[122, 122]⟩] : Array Value).toList = true := by
  simp only [strsB, List.all_cons, List.all_nil, Bool.and_eq_true, decide_eq_true_iff]
  exact ⟨h1, h2, by decide, by decide, trivial⟩
def VrsAtGot (w : World) (e : Ending) (w' : World) : Prop := ∃ (l : List Vr) (A : Option Addr) (m c : Nat) (x : Int), e = .returned (.tuple #[.slice A m c, .int .i64 x]) ∧ m = l.length ∧ m ≤ 30 ∧ FewV l ∧ -1 ≤ x ∧ x ≤ 21 ∧ w'.ownsRow w.heap.size 57 4 (.slice A m c) m (vrsC l) ∧ Below w.heap.size w w'
def VrsKeyGot (w : World) (e : Ending) (w' : World) : Prop := ∃ (l : List Vr) (A : Option Addr) (m c : Nat) (key : ByteArray) (x : Int), e = .returned (.tuple #[.slice A m c, .string key, .int .i64 x]) ∧ m = l.length ∧ m ≤ 30 ∧ FewV l ∧ key.size ≤ 16 ∧ -1 ≤ x ∧ x ≤ 21 ∧ w'.ownsRow w.heap.size 57 4 (.slice A m c) m (vrsC l) ∧ Below w.heap.size w w'
set_option maxRecDepth 100000 in
set_option maxHeartbeats 1000000 in
theorem drawSeenAt_any (A : Option Addr) (n c : Nat) (w : World) (h : BytesIn w A n c) :
    Calls Try.prog 55 #[.slice A n c] w (VrsAtGot w) := by
  have HP := Lib.hid (newReader_any A n c w h)
  go_enter Try.func55, Try.ntmps55
  go_wp2_with fail
  refine (HP.out).mono ?_
  rintro e w1 ⟨rfl, hr1, hb1⟩
  have HB := Lib.hid hb1; clear hb1
  have hrl := hr1.lt
  have HK := Lib.hid (someVersions_any w.heap.size 0 w1 hr1 (by omega)); clear hr1
  go_wp2_with fail
  refine (HK.out).mono ?_
  rintro e w2 ⟨l, A2, m2, c2, rfl, hm, hm2, hf, hr⟩
  have HG := Lib.hid hr; clear hr
  have HM := Lib.hid hm; clear hm
  have HF := Lib.hid hf; clear hf
  have HG2 := HG
  have HP3 := Lib.hid (pick_any w.heap.size _ 21 w2 HG2.out.rd (by omega) (by omega))
  go_wp2_with fail
  refine (HP3.out).mono ?_
  rintro e w3 ⟨x1, rfl, hx1, hx2, hr3, hg3⟩
  have HG3 := Lib.hid (HG2.out.grow hrl hg3 hr3); clear hr3 hg3
  have HP4 := Lib.hid (pick_any w.heap.size _ 12 w3 HG3.out.rd (by omega) (by omega))
  go_wp2_with fail
  refine (HP4.out).mono ?_
  rintro e w4 ⟨x3, rfl, hx3, hx4, hr4, hg4⟩
  have HG4 := Lib.hid (HG3.out.grow hrl hg4 hr4); clear hr4 hg4
  have HO := Lib.hid (oneNew_any (-1) 21 w.heap.size _ 6 6 #[.int .i64 x1, .int .i64 x3, .int .i64 0, .int .i64 20, .int .i64 21, .int .i64 (-1)] 3 w4 HG4.out.rd (by omega) (by rfl) (by omega) (by omega) (ints_six hx1 (by omega) hx3 (by omega)))
  go_wp2_with fail
  refine (HO.out).mono ?_
  rintro e w5 ⟨x, rfl, hx5, hx6, hr5, hg5⟩
  have HG5 := Lib.hid (HG4.out.grow hrl hg5 hr5); clear hr5 hg5
  go_wp2_with fail
  go_ret2
  exact ⟨l, A2, m2, c2, x, rfl, HM.out, hm2, HF.out, hx5, hx6, own_le HG5.out.own HB.out.size, HB.out.trans (below_of_grown HG5.out.gr (Nat.le_refl _) HB.out.size)⟩
set_option maxRecDepth 100000 in
set_option maxHeartbeats 1000000 in
theorem drawSweepTo_any (A : Option Addr) (n c : Nat) (w : World) (h : BytesIn w A n c) :
    Calls Try.prog 54 #[.slice A n c] w (VrsAtGot w) := by
  have HP := Lib.hid (newReader_any A n c w h)
  go_enter Try.func54, Try.ntmps54
  go_wp2_with fail
  refine (HP.out).mono ?_
  rintro e w1 ⟨rfl, hr1, hb1⟩
  have HB := Lib.hid hb1; clear hb1
  have hrl := hr1.lt
  have HK := Lib.hid (someVersions_any w.heap.size 0 w1 hr1 (by omega)); clear hr1
  go_wp2_with fail
  refine (HK.out).mono ?_
  rintro e w2 ⟨l, A2, m2, c2, rfl, hm, hm2, hf, hr⟩
  have HG := Lib.hid hr; clear hr
  have HM := Lib.hid hm; clear hm
  have HF := Lib.hid hf; clear hf
  have HG2 := HG
  have HP3 := Lib.hid (pick_any w.heap.size _ 21 w2 HG2.out.rd (by omega) (by omega))
  go_wp2_with fail
  refine (HP3.out).mono ?_
  rintro e w3 ⟨x1, rfl, hx1, hx2, hr3, hg3⟩
  have HG3 := Lib.hid (HG2.out.grow hrl hg3 hr3); clear hr3 hg3
  have HP4 := Lib.hid (pick_any w.heap.size _ 12 w3 HG3.out.rd (by omega) (by omega))
  go_wp2_with fail
  refine (HP4.out).mono ?_
  rintro e w4 ⟨x3, rfl, hx3, hx4, hr4, hg4⟩
  have HG4 := Lib.hid (HG3.out.grow hrl hg4 hr4); clear hr4 hg4
  have HO := Lib.hid (oneNew_any (-1) 21 w.heap.size _ 6 6 #[.int .i64 x1, .int .i64 x3, .int .i64 0, .int .i64 20, .int .i64 21, .int .i64 (-1)] 3 w4 HG4.out.rd (by omega) (by rfl) (by omega) (by omega) (ints_six hx1 (by omega) hx3 (by omega)))
  go_wp2_with fail
  refine (HO.out).mono ?_
  rintro e w5 ⟨x, rfl, hx5, hx6, hr5, hg5⟩
  have HG5 := Lib.hid (HG4.out.grow hrl hg5 hr5); clear hr5 hg5
  go_wp2_with fail
  go_ret2
  exact ⟨l, A2, m2, c2, x, rfl, HM.out, hm2, HF.out, hx5, hx6, own_le HG5.out.own HB.out.size, HB.out.trans (below_of_grown HG5.out.gr (Nat.le_refl _) HB.out.size)⟩
set_option maxRecDepth 100000 in
set_option maxHeartbeats 1000000 in
theorem drawReadAt_any (A : Option Addr) (n c : Nat) (w : World) (h : BytesIn w A n c) :
    Calls Try.prog 47 #[.slice A n c] w (VrsKeyGot w) := by
  have HP := Lib.hid (newReader_any A n c w h)
  go_enter Try.func47, Try.ntmps47
  go_wp2_with fail
  refine (HP.out).mono ?_
  rintro e w1 ⟨rfl, hr1, hb1⟩
  have HB := Lib.hid hb1; clear hb1
  have hrl := hr1.lt
  have HK := Lib.hid (someVersions_any w.heap.size 0 w1 hr1 (by omega)); clear hr1
  go_wp2_with fail
  refine (HK.out).mono ?_
  rintro e w2 ⟨l, A2, m2, c2, rfl, hm, hm2, hf, hr⟩
  have HG := Lib.hid hr; clear hr
  have HM := Lib.hid hm; clear hm
  have HF := Lib.hid hf; clear hf
  have HS1 := Lib.hid (goodKey_any w.heap.size _ w2 HG.out.rd (by omega))
  go_wp2_with fail
  refine (HS1.out).mono ?_
  rintro e w21 ⟨s1, rfl, hs1, hr21, hg21⟩
  have HG21 := Lib.hid (HG.out.grow hrl hg21 hr21); clear hr21 hg21
  have HS2 := Lib.hid (goodKey_any w.heap.size _ w21 HG21.out.rd (by omega))
  go_wp2_with fail
  refine (HS2.out).mono ?_
  rintro e w22 ⟨s2, rfl, hs2, hr22, hg22⟩
  have HG22 := Lib.hid (HG21.out.grow hrl hg22 hr22); clear hr22 hg22
  have HS3 := Lib.hid (ofNew_any w.heap.size _ 4 4 #[.string s1, .string s2, .string ⟨#[]⟩, .string ⟨#[122, 122]⟩] 9 w22 HG22.out.rd (by omega) (by rfl) (by omega) (by omega) (strs_four hs1 hs2))
  go_wp2_with fail
  refine (HS3.out).mono ?_
  rintro e w23 ⟨key, rfl, hkey, hr23, hg23⟩
  have HG2 := Lib.hid (HG22.out.grow hrl hg23 hr23); clear hr23 hg23
  have HP3 := Lib.hid (pick_any w.heap.size _ 21 w23 HG2.out.rd (by omega) (by omega))
  go_wp2_with fail
  refine (HP3.out).mono ?_
  rintro e w3 ⟨x1, rfl, hx1, hx2, hr3, hg3⟩
  have HG3 := Lib.hid (HG2.out.grow hrl hg3 hr3); clear hr3 hg3
  have HP4 := Lib.hid (pick_any w.heap.size _ 12 w3 HG3.out.rd (by omega) (by omega))
  go_wp2_with fail
  refine (HP4.out).mono ?_
  rintro e w4 ⟨x3, rfl, hx3, hx4, hr4, hg4⟩
  have HG4 := Lib.hid (HG3.out.grow hrl hg4 hr4); clear hr4 hg4
  have HO := Lib.hid (oneNew_any (-1) 21 w.heap.size _ 6 6 #[.int .i64 x1, .int .i64 x3, .int .i64 0, .int .i64 20, .int .i64 21, .int .i64 (-1)] 3 w4 HG4.out.rd (by omega) (by rfl) (by omega) (by omega) (ints_six hx1 (by omega) hx3 (by omega)))
  go_wp2_with fail
  refine (HO.out).mono ?_
  rintro e w5 ⟨x, rfl, hx5, hx6, hr5, hg5⟩
  have HG5 := Lib.hid (HG4.out.grow hrl hg5 hr5); clear hr5 hg5
  go_wp2_with fail
  refine bodyPost_ret (v := .tuple #[.slice A2 m2 c2, .string key, .int .i64 x]) (by simp [results, Try.results47, go_sem]) rfl ?_
  exact ⟨l, A2, m2, c2, key, x, rfl, HM.out, hm2, HF.out, hkey, hx5, hx6, own_le HG5.out.own HB.out.size, HB.out.trans (below_of_grown HG5.out.gr (Nat.le_refl _) HB.out.size)⟩
end Go.Proofs.Ytokmofkpjohlmaa
