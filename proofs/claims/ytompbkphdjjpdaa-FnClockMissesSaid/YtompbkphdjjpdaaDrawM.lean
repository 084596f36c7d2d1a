/- The drawn arguments of the laws on misses. Condition: the code lies in a row. -/
import Derived.Test.YtompbkphdjjpdaaFnDep
import Derived.Test.YtompbkphdjjpdaaMissD
set_option linter.unusedVariables false
set_option linter.unusedSimpArgs false
namespace Go.Proofs.Ytompbkphdjjpdaa
open Go.RowKit Go.ChangeShapes Go.WideShapes

def MissDrawn (w : World) (e : Ending) (w' : World) : Prop :=
  ∃ (s : Int) (l : List Int) (m : Nat) (A : Option Addr) (c : Nat), e = .returned (.tuple #[.int .i64 s, .slice A m c]) ∧ m = l.length ∧ 0 ≤ s ∧ s ≤ 6 ∧ l.length ≤ 31 ∧ w'.ownsRow w.heap.size 3 1 (.slice A m c) m (intC l) ∧ Below w.heap.size w w'

set_option maxRecDepth 100000 in
set_option maxHeartbeats 1000000 in
theorem drawClock_any (A : Option Addr) (n c : Nat) (w : World) (h : BytesIn w A n c) :
    Calls Try.prog 36 #[.slice A n c] w (MissDrawn w) := by
  have HP := Lib.hid (newReader_any A n c w h)
  go_enter Try.func36, Try.ntmps36
  go_wp2_with fail
  refine (HP.out).mono ?_
  rintro e w1 ⟨rfl, hr1, hb1⟩
  have HB := Lib.hid hb1; clear hb1
  have HR := Lib.hid hr1; clear hr1
  go_wp2_with fail
  refine (oneNew_any 0 6 w.heap.size 0 7 7 #[.int .i64 3, .int .i64 2, .int .i64 4, .int .i64 1, .int .i64 5, .int .i64 0, .int .i64 6] 3 w1 HR.out (by omega) rfl (by omega) (by omega) (by decide)).mono ?_
  rintro e w2 ⟨s, rfl, hs0, hs6, hr2, hg⟩
  have HG := Lib.hid hg; have HR2 := Lib.hid hr2; clear hg hr2
  go_wp2_with fail
  refine (someTrace_any w.heap.size 1 w2 HR2.out (by omega)).mono ?_
  rintro e w3 ⟨l, A3, c3, rfl, hl31, hwf, ho3, hr3, hg3⟩
  have HO3 := Lib.hid ho3; have HG3 := Lib.hid hg3; clear ho3 hr3 hg3
  have HL := Lib.hid hl31; clear hwf hl31
  have hs2 := HB.out.size
  have hs3 := HG.out.size
  go_wp2_with fail
  go_ret2
  exact ⟨s, l, l.length, A3, c3, rfl, rfl, hs0, hs6, HL.out, own_monoI HO3.out (by omega), HB.out.trans (below_of_grown (HG.out.trans' HG3.out) (Nat.le_refl _) HB.out.size)⟩

set_option maxRecDepth 100000 in
set_option maxHeartbeats 1000000 in
theorem drawOld_any (A : Option Addr) (n c : Nat) (w : World) (h : BytesIn w A n c) :
    Calls Try.prog 40 #[.slice A n c] w (MissDrawn w) := by
  have HP := Lib.hid (newReader_any A n c w h)
  go_enter Try.func40, Try.ntmps40
  go_wp2_with fail
  refine (HP.out).mono ?_
  rintro e w1 ⟨rfl, hr1, hb1⟩
  have HB := Lib.hid hb1; clear hb1
  have HR := Lib.hid hr1; clear hr1
  go_wp2_with fail
  refine (oneNew_any 0 6 w.heap.size 0 7 7 #[.int .i64 3, .int .i64 2, .int .i64 4, .int .i64 1, .int .i64 5, .int .i64 0, .int .i64 6] 3 w1 HR.out (by omega) rfl (by omega) (by omega) (by decide)).mono ?_
  rintro e w2 ⟨s, rfl, hs0, hs6, hr2, hg⟩
  have HG := Lib.hid hg; have HR2 := Lib.hid hr2; clear hg hr2
  go_wp2_with fail
  refine (someTrace_any w.heap.size 1 w2 HR2.out (by omega)).mono ?_
  rintro e w3 ⟨l, A3, c3, rfl, hl31, hwf, ho3, hr3, hg3⟩
  have HO3 := Lib.hid ho3; have HG3 := Lib.hid hg3; clear ho3 hr3 hg3
  have HL := Lib.hid hl31; clear hwf hl31
  have hs2 := HB.out.size
  have hs3 := HG.out.size
  go_wp2_with fail
  go_ret2
  exact ⟨s, l, l.length, A3, c3, rfl, rfl, hs0, hs6, HL.out, own_monoI HO3.out (by omega), HB.out.trans (below_of_grown (HG.out.trans' HG3.out) (Nat.le_refl _) HB.out.size)⟩

set_option maxRecDepth 100000 in
set_option maxHeartbeats 1000000 in
theorem drawBest_any (A : Option Addr) (n c : Nat) (w : World) (h : BytesIn w A n c) :
    Calls Try.prog 42 #[.slice A n c] w (MissDrawn w) := by
  have HP := Lib.hid (newReader_any A n c w h)
  go_enter Try.func42, Try.ntmps42
  go_wp2_with fail
  refine (HP.out).mono ?_
  rintro e w1 ⟨rfl, hr1, hb1⟩
  have HB := Lib.hid hb1; clear hb1
  have HR := Lib.hid hr1; clear hr1
  go_wp2_with fail
  refine (oneNew_any 0 6 w.heap.size 0 7 7 #[.int .i64 3, .int .i64 2, .int .i64 4, .int .i64 1, .int .i64 5, .int .i64 0, .int .i64 6] 3 w1 HR.out (by omega) rfl (by omega) (by omega) (by decide)).mono ?_
  rintro e w2 ⟨s, rfl, hs0, hs6, hr2, hg⟩
  have HG := Lib.hid hg; have HR2 := Lib.hid hr2; clear hg hr2
  go_wp2_with fail
  refine (someTrace_any w.heap.size 1 w2 HR2.out (by omega)).mono ?_
  rintro e w3 ⟨l, A3, c3, rfl, hl31, hwf, ho3, hr3, hg3⟩
  have HO3 := Lib.hid ho3; have HG3 := Lib.hid hg3; clear ho3 hr3 hg3
  have HL := Lib.hid hl31; clear hwf hl31
  have hs2 := HB.out.size
  have hs3 := HG.out.size
  go_wp2_with fail
  go_ret2
  exact ⟨s, l, l.length, A3, c3, rfl, rfl, hs0, hs6, HL.out, own_monoI HO3.out (by omega), HB.out.trans (below_of_grown (HG.out.trans' HG3.out) (Nat.le_refl _) HB.out.size)⟩

theorem missR_cases (ch : List Int → Nat → List Int → Nat) (s : Int) (l : List Int) : missR ch s l = -1 ∨ ∃ S : Nat, s = S ∧ 1 ≤ S ∧ S ≤ 5 ∧ traceB l = true ∧ missR ch s l = (missI ch S l : Int) := by
  unfold missR
  split
  · rename_i h
    rw [Bool.and_eq_true] at h
    obtain ⟨hc, ht⟩ := h
    obtain ⟨h1, h5⟩ : 1 ≤ s ∧ s ≤ 5 := by
      unfold countB at hc
      simpa only [Bool.and_eq_true, decide_eq_true_eq] using hc
    exact .inr ⟨s.toNat, by omega, by omega, by omega, ht, rfl⟩
  · exact .inl rfl
theorem missR_of {ch : List Int → Nat → List Int → Nat} {S : Nat} {l : List Int} (h1 : 1 ≤ S) (h5 : S ≤ 5) (ht : traceB l = true) : missR ch (S : Int) l = (missI ch S l : Int) := by
  unfold missR countB
  rw [ht, if_pos (by simp; omega), Int.toNat_natCast]
theorem missR_le {ch : List Int → Nat → List Int → Nat} {S : Nat} {l : List Int} (h : ∀ l, missI ch (S + 1) l ≤ missI ch S l) : missR ch ((S : Int) + 1) l ≤ (missI ch S l : Int) := by
  rcases missR_cases ch ((S : Int) + 1) l with h1 | ⟨T, e, _, _, _, h2⟩
  · omega
  · rw [h2]
    obtain rfl : T = S + 1 := by omega
    have := h l
    omega
theorem traceB_take {l : List Int} (h : traceB l = true) (k : Nat) : traceB (l.take k) = true := by
  unfold traceB at *
  simp only [Bool.and_eq_true, decide_eq_true_eq] at *
  refine ⟨by rw [List.length_take]; omega, ?_⟩
  rw [List.all_eq_true] at *
  exact fun x hx => h.2 x (List.mem_of_mem_take hx)
theorem missI_le (ch : List Int → Nat → List Int → Nat) (S : Nat) (l : List Int) (h1 : 1 ≤ S) (hch : ∀ k t, t ≠ [] → ch l k t < t.length) : missI ch S l ≤ l.length := (missS_len (ch l) S l h1 hch l.length).2.2
end Go.Proofs.Ytompbkphdjjpdaa
