/- Contracts of historyOf and ValidRecs of the program (chapter 6). Conditions: the records lie in a row; they are few. -/
import Derived.Test.YthpfijhmdeciaaaRecL
import Derived.Test.YthpfijhmdeciaaaRecB
set_option linter.unusedVariables false
set_option linter.unusedSimpArgs false
namespace Go.Proofs.Ythpfijhmdeciaaa
open Go.RowKit Go.ChangeShapes Go.WideShapes

theorem add_any (B hb wb : Nat) (A : Option Addr) (n c : Nat) (sv : Nat → Value) (l : List Rc) (k : Nat) (h : HP) (w : World) (m : HAt B hb wb (.slice A n c) sv h w) (I : Inv l k h)
    (hr : RowAt w B A (rcsC l)) (hn : n = l.length) (hs : n ≤ 1048576) (hk : k < n) (hm : mayP l h (l.getD k rc0) = true) :
    Calls Try.prog 35 #[.pointer (some ⟨hb, 0, none⟩), .int .i64 (k : Int)] w fun e w' => e = .returned (.tuple #[]) ∧ (∃ sv', HAt B hb wb (.slice A n c) sv' (addP h k (l.getD k rc0)) w') ∧ Below B w w' := by
  unfold mayP at hm
  simp only [Bool.and_eq_true, decide_eq_true_eq] at hm
  obtain ⟨⟨⟨ht1, ht4⟩, hfin⟩, hK⟩ := hm
  generalize he : l.getD k rc0 = r at *
  obtain ⟨x0, x1, x2, x3, x4⟩ := r
  simp only at *
  obtain ⟨t, rfl⟩ : ∃ t : Nat, x1 = (t : Int) := ⟨x1.toNat, by omega⟩
  have ht : t < 5 := by omega
  unfold mayK at hK
  simp only at hK
  by_cases k1 : x0 = 1
  · subst k1
    rw [if_pos rfl] at hK
    unfold mayW at hK
    simp only [Bool.and_eq_true, decide_eq_true_eq] at hK
    have h1 := hK.1.1.1.1.1
    obtain ⟨q, rfl⟩ : ∃ q : Nat, x2 = (q : Int) := ⟨x2.toNat, by omega⟩
    exact add1_any B hb wb A n c sv l k h t q x3 x4 w m I hr hn hs hk he ht (by omega)
  · rw [if_neg k1] at hK
    by_cases k2 : x0 = 2
    · subst k2
      rw [if_pos rfl] at hK
      unfold mayB at hK
      simp only [Int.toNat_natCast] at hK
      cases hl : (h.t t).st.getLast? with
      | none => rw [hl] at hK; cases hK
      | some i =>
        rw [hl] at hK
        simp only [decide_eq_true_eq] at hK
        have hK' : ((2 : Int), (t : Int), x2, x3, x4) = ((2 : Int), tn l i, pl l i, af l i, bf l i) := hK
        simp only [Prod.mk.injEq, true_and] at hK'
        have him : i ∈ (h.t t).st := List.mem_of_getLast? hl
        obtain ⟨s1, s2, s3, s4, s5, s6, s7⟩ := I.stk t i him
        obtain ⟨q, rfl⟩ : ∃ q : Nat, x2 = (q : Int) := ⟨x2.toNat, by omega⟩
        exact add2_any B hb wb A n c sv l k h t q x3 x4 w m I hr hn hs hk he ht (by omega) (List.ne_nil_of_mem him)
    · rw [if_neg k2] at hK
      have k34 : x0 = 3 ∨ x0 = 4 := by
        by_cases hh : x0 = 3 ∨ x0 = 4
        · exact hh
        · rw [if_neg hh] at hK; cases hK
      exact add3_any B hb wb A n c sv l k h t x0 x2 x3 x4 w m I hr hn hs hk he ht k34

theorem hist_more (l : List Rc) (k : Nat) (h : HP) (hh : histP l k = some h) (hm : mayP l h (l.getD k rc0) = true) : histP l (k + 1) = some (addP h k (l.getD k rc0)) := by
  unfold histP; rw [hh]; simp only; rw [if_pos hm]
def HistPost (A : Option Addr) (n c : Nat) (l : List Rc) (w : World) (e : Ending) (w' : World) : Prop :=
  ((histP l n = none ∧ e = .returned (.pointer none)) ∨ ∃ h hb wb sv, histP l n = some h ∧ e = .returned (.pointer (some ⟨hb, 0, none⟩)) ∧ HAt w.heap.size hb wb (.slice A n c) sv h w') ∧ Below w.heap.size w w'

theorem hist_start (w w1 : World) (A : Option Addr) (n c : Nat) (h1 : RowG w1 w.heap.size 3 w.heap.size 3 (fun _ => .int .i64 0)) :
    HAt w.heap.size w1.heap.size w.heap.size (.slice A n c) (fun _ => .slice none 0 0) h0 (w1.alloc (.cells #[.slice A n c, .slice (some ⟨w.heap.size, 0, none⟩) 3 3, .int .i64 0, .int .i64 0, .int .i64 0,
      .slice none 0 0, .bool false, .bool false, .int .i64 0, .slice none 0 0, .bool false, .bool false, .int .i64 0, .slice none 0 0, .bool false, .bool false, .int .i64 0, .slice none 0 0, .bool false, .bool false, .int .i64 0, .slice none 0 0, .bool false, .bool false, .int .i64 0] 45)) := by
  have hl := h1.lt.2
  refine ⟨?_, ?_, fun t ht => ?_, fun t t' _ _ _ => .inl rfl, by omega, fun t _ => by simp [Value.ownBlock], fun t _ => by simp [Value.ownBlock]⟩
  · refine ⟨by simp [mcells], .inr ⟨w1.heap.size, 25, _, rfl, by omega, heap_alloc_new w1 _, Nat.le_refl _, by simp [maxLen], rfl, ?_⟩⟩
    rfl
  · exact ((h1.keep ((Below.refl _ _).alloc (Nat.le_refl _) _))).congr (fun q hq => by
      match q, hq with
      | 0, _ => rfl
      | 1, _ => rfl
      | 2, _ => rfl)
  · rw [h0t]
    exact World.ownsRow_nil _ _ _ _

set_option maxRecDepth 100000 in
set_option maxHeartbeats 8000000 in
theorem hist_any (A : Option Addr) (n c : Nat) (l : List Rc) (w : World) (hr : RowAt w w.heap.size A (rcsC l)) (hn : n = l.length) (hs : n ≤ 1048576) :
    Calls Try.prog 22 #[.slice A n c] w (HistPost A n c l w) := by
  have HR := Lib.hid hr; clear hr
  have HN := Lib.hid hn; clear hn
  obtain ⟨i0, hi0, hz0, hz1, hz2⟩ := info_parts intInfo
  have HI := Lib.hid (And.intro hi0 (And.intro hz0 (And.intro hz1 hz2))); clear hi0 hz0 hz1 hz2
  have hb3 : i0.bytes * 3 ≤ 281474976710656 := by rw [HI.out.2.2.2]; omega
  go_enter Try.func22, Try.ntmps22
  go_wp2_with ((refine wpList_make_full _ rfl _ _ 27 rfl w.heap.size 3 i0 (.int .i64 0) 1 Try.underlying27 HI.out.1 HI.out.2.1 HI.out.2.2.1 .i64 .i64 _ _ 3 rfl rfl rfl rfl hb3 (by unfold maxLen; omega) (Nat.le_refl _) ?_
                intro w1 hown hg1
                have HA1 := Lib.hid (RowG.start hown rfl)
                have HG1 := Lib.hid (Below.grown (Below.refl w.heap.size w) hg1 (Nat.le_refl _) (by simp))
                clear hown hg1))
  have HS := Lib.hid (hist_start w w1 A n c HA1.out)
  have HB0 := Lib.hid (show Below w.heap.size w _ from HG1.out.trans ((Below.refl w1.heap.size w1).alloc (Nat.le_refl _) (.cells #[.slice A n c, .slice (some ⟨w.heap.size, 0, none⟩) 3 3, .int .i64 0, .int .i64 0, .int .i64 0,
      .slice none 0 0, .bool false, .bool false, .int .i64 0, .slice none 0 0, .bool false, .bool false, .int .i64 0, .slice none 0 0, .bool false, .bool false, .int .i64 0, .slice none 0 0, .bool false, .bool false, .int .i64 0, .slice none 0 0, .bool false, .bool false, .int .i64 0] 45) |>.mono HG1.out.size))
  go_loopw [12] (fun i wr => ∃ (k : Nat) (h : HP) (sv : Nat → Value), i = .int .i64 k ∧ k ≤ n ∧ histP l k = some h ∧ HAt w.heap.size w1.heap.size w.heap.size (.slice A n c) sv h wr ∧ Below w.heap.size w wr) (fun i _ => n - (intOf i).toNat)
  case atStart => exact ⟨0, h0, _, rfl, by omega, rfl, HS.out, HB0.out⟩
  case round =>
    clear HS HB0
    obtain ⟨k, h, sv, rfl, hk, hh, hm, hb⟩ := hrel
    have HH := Lib.hid hh; clear hh
    have HM := Lib.hid hm; clear hm
    have HB1 := Lib.hid hb; clear hb
    by_cases hlt : k < n
    · have hkl : k < l.length := by have := HN.out; omega
      have HV := Lib.hid (hist_inv l k h HH.out)
      obtain ⟨b, off, rfl, hbw, e0, e1, e2, e3, e4⟩ := rc_cells_at (HR.out.below HB1.out) hkl
      have hbw2 : b < wr.heap.size := Nat.lt_of_lt_of_le hbw HB1.out.size
      have HNEXT := Lib.hid (hist_more l k h HH.out)
      have HNONE := Lib.hid (fun (hm : mayP l h (l.getD k rc0) = false) => (show histP l n = none from hist_none l (k + 1) (by unfold histP; rw [HH.out]; simp only; rw [if_neg (by rw [hm]; simp)]) n (by omega)))
      have HADD := Lib.hid (fun W (m : HAt w.heap.size w1.heap.size w.heap.size (.slice (some ⟨b, off, none⟩) n c) sv h W) (hb : Below w.heap.size w W) hm => add_any w.heap.size w1.heap.size w.heap.size (some ⟨b, off, none⟩) n c sv l k h W m HV.out (HR.out.below hb) HN.out hs hlt hm)
      have HMAY := Lib.hid (fun W (m : HAt w.heap.size w1.heap.size w.heap.size (.slice (some ⟨b, off, none⟩) n c) sv h W) (hb : Below w.heap.size w W) => may_any w.heap.size w1.heap.size w.heap.size (some ⟨b, off, none⟩) n c sv l k h (l.getD k rc0).1 (l.getD k rc0).2.1 (l.getD k rc0).2.2.1 (l.getD k rc0).2.2.2.1 (l.getD k rc0).2.2.2.2 W m HV.out ((HR.out.below hb).mono hb.size) HN.out hs hk)
      unfold kd at e0
      unfold tn at e1
      unfold pl at e2
      unfold bf at e3
      unfold af at e4
      have hkn : (k : Int) < (n : Int) := by omega
      generalize l.getD k rc0 = r at *
      obtain ⟨x0, x1, x2, x3, x4⟩ := r
      simp only at e0 e1 e2 e3 e4 HMAY
      have HB2 := Lib.hid (HB1.out.alloc HB1.out.size (.cells #[.int .i64 x0, .int .i64 x1, .int .i64 x2, .int .i64 x3, .int .i64 x4] 31))
      have HM2 := Lib.hid (HM.out.keep ((Below.refl _ _).alloc (Nat.le_refl _) (.cells #[.int .i64 x0, .int .i64 x1, .int .i64 x2, .int .i64 x3, .int .i64 x4] 31)))
      cases hmv : mayP l h (x0, x1, x2, x3, x4) with
      | false =>
        rw [hmv] at HMAY
        have HF := Lib.hid (HNONE.out hmv)
        clear hmv
        go_wp2_with fail
        refine (HMAY.out _ HM2.out HB2.out).mono ?_
        rintro e w4 ⟨rfl, hb4⟩
        have HB4 := Lib.hid (HB2.out.trans (hb4.mono HB2.out.size))
        clear hb4
        go_wp2_with fail
        go_ret
        exact ⟨.inl ⟨HF.out, rfl⟩, HB4.out⟩
      | true =>
        rw [hmv] at HMAY
        have HTR := Lib.hid hmv
        clear hmv
        go_wp2_with fail
        refine (HMAY.out _ HM2.out HB2.out).mono ?_
        rintro e w4 ⟨rfl, hb4⟩
        have HB4 := Lib.hid (HB2.out.trans (hb4.mono HB2.out.size))
        have HM4 := Lib.hid (HM2.out.keep hb4)
        clear hb4
        go_wp2_with fail
        refine (HADD.out _ HM4.out HB4.out HTR.out).mono ?_
        rintro e w5 ⟨rfl, ⟨sv5, hm5⟩, hb5⟩
        have HM5 := Lib.hid hm5; clear hm5
        have HB5 := Lib.hid (HB4.out.trans hb5); clear hb5
        go_wp2_with fail
        go_roundw
        case rel => exact ⟨k + 1, _, sv5, by go_num, by omega, HNEXT.out HTR.out, HM5.out, HB5.out⟩
        case measure => simp [intOf]; omega
    · obtain rfl : k = n := by omega
      go_wp2_with fail
      go_ret
      exact ⟨.inr ⟨h, _, _, sv, HH.out, rfl, HM.out⟩, HB1.out⟩

set_option maxRecDepth 100000 in
set_option maxHeartbeats 4000000 in
theorem iValid_any (A : Option Addr) (n c : Nat) (l : List Rc) (w : World) (hr : RowAt w w.heap.size A (rcsC l)) (hn : n = l.length) (hs : n ≤ 1048576) :
    Calls Try.prog 8 #[.slice A n c] w fun e w' => e = .returned (.bool (validP l)) ∧ Below w.heap.size w w' := by
  have HC := Lib.hid (hist_any A n c l w hr hn hs)
  have HF := Lib.hid (show validP l = (decide (n ≤ 24) && (histP l n).isSome) by unfold validP; rw [hn])
  have HN := Lib.hid hn; clear hn
  by_cases h24 : n ≤ 24
  · have h24i : (n : Int) ≤ 24 := by omega
    have HF2 := Lib.hid (show validP l = (histP l n).isSome by rw [HF.out, show decide (n ≤ 24) = true by simpa using h24, Bool.true_and])
    go_enter Try.func8, Try.ntmps8
    go_wp2_with fail
    refine (HC.out).mono ?_
    rintro e w2 ⟨hp, hb⟩
    rcases hp with ⟨h1, rfl⟩ | ⟨h, hb9, wb9, sv, h1, rfl, _⟩
    · go_wp2_with fail
      go_ret
      exact ⟨by rw [HF2.out, h1]; rfl, hb⟩
    · go_wp2_with fail
      go_ret
      exact ⟨by rw [HF2.out, h1]; rfl, hb⟩
  · have h24i : ¬ ((n : Int) ≤ 24) := by omega
    have HF2 := Lib.hid (show validP l = false by rw [HF.out, show decide (n ≤ 24) = false by simpa using h24, Bool.false_and])
    go_enter Try.func8, Try.ntmps8
    go_wp2_with fail
    go_ret
    exact ⟨by rw [HF2.out]; rfl, Below.refl _ _⟩
end Go.Proofs.Ythpfijhmdeciaaa
