/- The contract of the model's ClockMisses (chapter 2). Conditions: the trace lies in a row. -/
import Derived.Test.YtompbkphdjjpdaaClockC
import Derived.Test.YtompbkphdjjpdaaPoolI
set_option linter.unusedVariables false
set_option linter.unusedSimpArgs false
namespace Go.Proofs.Ytompbkphdjjpdaa
open Go.RowKit Go.ChangeShapes Go.WideShapes

set_option maxRecDepth 100000 in
set_option maxHeartbeats 20000000 in
theorem sClock_any (m : Int) (A : Option Addr) (n c : Nat) (l : List Int) (w : World) (hr : RowAt w w.heap.size A (intC l)) (hn : n = l.length) (hs : n ≤ 1048576) :
    Calls Try.prog 38 #[.int .i64 m, .slice A n c] w fun e w' => e = .returned (.int .i64 (clockI m l)) ∧ Below w.heap.size w w' := by
  have HT := Lib.hid (sTrace_any m A n c l w hr hn hs)
  cases hct : (countB m && traceB l)
  · rw [hct] at HT
    have HF := Lib.hid (show clockI m l = -1 by unfold clockI; rw [hct]; rfl)
    clear hr hn hct
    go_enter Try.func38, Try.ntmps38
    go_wp2_with fail
    refine (HT.out).mono ?_
    rintro e w3 ⟨rfl, hw3⟩
    obtain rfl := hw3.symm
    go_wp2_with fail
    go_ret
    exact ⟨by rw [HF.out]; rfl, Below.refl _ _⟩
  · rw [hct] at HT
    have HF0 := Lib.hid (show clockI m l = (clkN m.toNat l l.length : Int) by unfold clockI; rw [hct]; rfl)
    rw [Bool.and_eq_true] at hct
    obtain ⟨hc, ht⟩ := hct
    obtain ⟨h1, h5⟩ : 1 ≤ m ∧ m ≤ 5 := by
      unfold countB at hc
      simpa only [Bool.and_eq_true, decide_eq_true_eq] using hc
    obtain ⟨M, rfl⟩ := Int.eq_ofNat_of_zero_le (show 0 ≤ m by omega)
    have HP := Lib.hid (show l.all pageI = true by
      unfold traceB at ht
      simp only [Bool.and_eq_true] at ht
      exact ht.2)
    have HF := Lib.hid (show clockI (M : Int) l = (clkN M l l.length : Int) from HF0.out)
    clear HF0
    have HPL := Lib.hid (show poolN (M : Int) = (clkS M l 0).1 by unfold poolN; rw [hc]; simp [clkS])
    have HINV := Lib.hid (fun k (hk : k ≤ l.length) => clkS_inv (m := M) (by omega) (by omega) HP.out hk)
    have HI := Lib.hid (sNewPool_any (M : Int) w)
    rw [HPL.out] at HI
    have hl0 : (clkS M l 0).1.length = M := (HINV.out 0 (by omega)).len
    have HL0 := Lib.hid hl0; clear hl0
    have HR := Lib.hid hr; clear hr
    have HN := Lib.hid hn; clear hn
    clear hc ht
    go_enter Try.func38, Try.ntmps38
    go_wp2_with fail
    refine (HT.out).mono ?_
    rintro e w3 ⟨rfl, hw3⟩
    obtain rfl := hw3.symm
    go_wp2_with fail
    refine (HI.out).mono ?_
    rintro e w4 ⟨v4, rfl, ⟨A4, c4, rfl, ho4⟩, hb4⟩
    rw [HL0.out] at ho4
    rw [HL0.out]
    have H0 := Lib.hid (show ClkI w w4.heap.size M (clkS M l 0).1 (clkS M l 0).2 (w4.alloc (.cells #[.slice A4 M c4, .int .i64 0] 28)) from
      { row := ⟨A4, c4, by simp, RowAt.of_own (ho4.alloc _)⟩, c1 := by simp [clkS], f0 := by simp [go_sem], f1 := by simp [go_sem], lt := by simp, le := hb4.size, hb := hb4.alloc hb4.size _ })
    clear ho4 hb4
    go_wp2_with fail
    go_loopw [6, 7] (fun q i wr => ∃ k : Nat, k ≤ n ∧ i = .int .i64 k ∧ q = .int .i64 (clkN M l k : Int) ∧ ClkI w w4.heap.size M (clkS M l k).1 (clkS M l k).2 wr) (fun _ i _ => n - (intOf i).toNat)
    case atStart => exact ⟨0, by omega, rfl, rfl, H0.out⟩
    case round =>
      obtain ⟨k, hk, rfl, rfl, hck⟩ := hrel
      have HK := Lib.hid hck; clear hck
      have hle := clkN_le M l k
      by_cases hlt : k < n
      · have hkl : k < l.length := by have := HN.out; omega
        have i1 : (k : Int) < (n : Int) := by omega
        have i3 : (0 : Int) ≤ (k : Int) := by omega
        obtain ⟨pb, off, rfl, hbw, e0⟩ := ints_at (HR.out.below HK.out.hb) hkl
        have hbr : pb < wr.heap.size := Nat.lt_of_lt_of_le hbw HK.out.hb.size
        have hpg : pageI l[k] = true := List.all_eq_true.1 HP.out _ (List.getElem_mem _)
        have hget : l.getD k 0 = l[k] := by simp [List.getD_eq_getElem?_getD, hkl]
        obtain ⟨L, h', x, L', s1, s2, s3, s4, s5, s6, s7, s8, s9⟩ := clock_step (m := M) (p := l[k]) (by omega) (by omega) hpg (HINV.out k (by omega))
        have hN1 : clkN M l (k + 1) = clkN M l k + if x = 0 then 0 else 1 := by rw [clkN, hget, s1]
        have hS1 : clkS M l (k + 1) = (L', h') := by rw [clkS, hget, s1]; simp [s7]
        have hix : frameIx L l[k] < L.length := by omega
        have hfr : L[frameIx L l[k]] = (l[k], 1, true) := by rw [← getD_get hix]; exact s5
        have HL3 := Lib.hid s3
        have HX := Lib.hid s2
        have HN1 := Lib.hid hN1
        have HS1 := Lib.hid hS1
        obtain ⟨Ag, cg, a0, hra⟩ := HK.out.row
        have a1 := HK.out.c1
        have f0 := HK.out.f0
        have f1 := HK.out.f1
        have hlb := HK.out.lt
        have hinv := HINV.out k (by omega)
        obtain ⟨ad, rfl⟩ : ∃ ad, Ag = some ad := by
          obtain ⟨b, off, e, _⟩ := hra (by intro h0; have := frsC_len (clkS M l k).1; rw [h0, hinv.len] at this; simp at this; omega)
          exact ⟨_, e⟩
        have HFE := Lib.hid (fun W (hb : Below wr.heap.size wr W) => sFetchW_any ad M cg (clkS M l k).2 (clkS M l k).1 l[k] W ((hra.below hb).mono hb.size) hinv.len.symm (by omega) hinv.hand (fun f hf => (hinv.idle f hf).1))
        unfold FetchW at HFE
        rw [s1] at HFE
        have HLE := Lib.hid (fun ad c' W (hr : RowAt W W.heap.size (some ad) (frsC L)) => sLeaveW_any ad M c' L h' l[k] W hr s3.symm (by omega) hix (by rw [hfr]; exact ⟨by simp, by simp⟩))
        have hLL : L.set (frameIx L l[k]) (L[frameIx L l[k]].1, L[frameIx L l[k]].2.1 - 1, L[frameIx L l[k]].2.2) = L' := by rw [hfr, s8]; rfl
        rw [hLL] at HLE
        clear hra hinv s1 s3 s4 s5 s6 s7 s8 s9 hN1 hS1 hpg hget hLL hfr hix s2
        generalize l[k] = p at *
        generalize hhk : (clkS M l k).2 = hk0 at *
        go_wp2_with fail
        go_region_with (go_at_call 79
                        first
                        | (refine (HFE.out (wr.alloc (.cells #[.slice none 0 0, .int .i64 0] 28)).drew ?_).mono ?_
                           · exact Below.drew ((Below.refl _ _).alloc (Nat.le_refl _) _)
                           rintro e w5 ⟨g5, c5, rfl, ho5, hb5⟩
                           have hb15 : Below wr.heap.size wr w5 := (Below.drew ((Below.refl wr.heap.size wr).alloc (Nat.le_refl _) _)).trans (hb5.mono (by simp))
                           have z0 : w5.cell? ⟨wr.heap.size, 0, none⟩ = some (.slice none 0 0) := (hb5.cell (p := ⟨wr.heap.size, 0, none⟩) (by simp)).trans (by simp)
                           have z1 : w5.cell? ⟨wr.heap.size, 1, none⟩ = some (.int .i64 0) := (hb5.cell (p := ⟨wr.heap.size, 1, none⟩) (by simp)).trans (by simp)
                           have zf0 : w5.frozen? ⟨wr.heap.size, 0, none⟩ = false := (hb5.frozen (p := ⟨wr.heap.size, 0, none⟩) (by simp)).trans (by simp [go_sem])
                           have zf1 : w5.frozen? ⟨wr.heap.size, 1, none⟩ = false := (hb5.frozen (p := ⟨wr.heap.size, 1, none⟩) (by simp)).trans (by simp [go_sem])
                           have HB15 := Lib.hid hb15
                           have HO5 := Lib.hid (show RowF w5 (wr.heap.size + 1) g5 M c5 L from RowF.mono ho5 (by simp))
                           have hs5 : wr.heap.size + 1 ≤ w5.heap.size := by have := hb5.size; simpa using this
                           clear hb5 ho5 hb15)
                        | (refine (HFE.out wr.drew ?_).mono ?_
                           · exact Below.drew (Below.refl _ _)
                           rintro e w5 ⟨g5, c5, rfl, ho5, hb5⟩
                           have hb15 : Below wr.heap.size wr w5 := (Below.drew (Below.refl wr.heap.size wr)).trans (hb5.mono (Nat.le_refl _))
                           have HB15 := Lib.hid hb15
                           have HO5 := Lib.hid (show RowF w5 wr.heap.size g5 M c5 L from ho5)
                           have hs5 : wr.heap.size ≤ w5.heap.size := hb15.size
                           clear hb5 ho5 hb15))
        all_goals
          first
          | (have hA := z0
             clear hA
             obtain ⟨W6, hW6⟩ : ∃ W6, (w5.setCell ⟨wr.heap.size, 0, none⟩ (.slice (some ⟨g5, 0, none⟩) M c5)).setCell ⟨wr.heap.size, 1, none⟩ (.int .i64 (h' : Int)) = W6 := ⟨_, rfl⟩
             rw [hW6]
             have t0 : W6.cell? ⟨wr.heap.size, 0, none⟩ = some (.slice (some ⟨g5, 0, none⟩) M c5) := by rw [← hW6]; simp [go_sem, z0, z1]
             have t1 : W6.cell? ⟨wr.heap.size, 1, none⟩ = some (.int .i64 (h' : Int)) := by rw [← hW6]; simp [go_sem, z0, z1]
             have HB16 := Lib.hid (show Below wr.heap.size wr W6 by rw [← hW6]; exact ((HB15.out).setCell (by simp) _).setCell (by simp) _)
             have HR6 := Lib.hid (show RowF W6 wr.heap.size g5 M c5 L by rw [← hW6]; exact RowF.mono (RowF.low (RowF.low HO5.out (by omega) _) (by omega) _) (by omega))
             have hs6 : wr.heap.size ≤ W6.heap.size := HB16.out.size
             clear z0 z1 zf0 zf1 hW6 HB15 HO5 hs5)
          | (obtain ⟨W6, hW6⟩ : ∃ W6, w5.alloc (.cells #[.slice (some ⟨g5, 0, none⟩) M c5, .int .i64 (h' : Int)] 28) = W6 := ⟨_, rfl⟩
             rw [hW6]
             have t0 : W6.cell? ⟨w5.heap.size, 0, none⟩ = some (.slice (some ⟨g5, 0, none⟩) M c5) := by rw [← hW6]; simp
             have t1 : W6.cell? ⟨w5.heap.size, 1, none⟩ = some (.int .i64 (h' : Int)) := by rw [← hW6]; simp
             have HB16 := Lib.hid (show Below wr.heap.size wr W6 by rw [← hW6]; exact HB15.out.alloc hs5 _)
             have HR6 := Lib.hid (show RowF W6 wr.heap.size g5 M c5 L by rw [← hW6]; exact RowF.alloc HO5.out _)
             have hs6 : wr.heap.size ≤ W6.heap.size := HB16.out.size
             clear hW6 HB15 HO5 hs5)
        all_goals
          have e6 := (HB16.out.cell (p := ⟨pb, off + k, none⟩) hbr).trans e0
          by_cases hx : 0 < x
          · have HM := Lib.hid (show clkN M l (k + 1) = clkN M l k + 1 by rw [HN1.out, if_neg (by omega)])
            go_wp2_with fail
            go_region_with (go_at_call 57
                            refine (HLE.out _ c5 _ ?_).mono ?_
                            · exact (RowAt.of_own (RowF.keep HR6.out (Below.drew (Below.refl _ _))).2)
                            rintro e w7 ⟨g7, c7, rfl, ho7, hb7⟩
                            have hb17 : Below wr.heap.size wr w7 := HB16.out.trans ((Below.drew (Below.refl wr.heap.size W6)).trans (hb7.mono (by simp; omega)))
                            have HK7 := Lib.hid (HK.out.next hb17 (h' := h') ho7.2 (by simp; omega))
                            have a70 : w7.cell? ⟨w4.heap.size, 0, none⟩ = some (.slice (some ad) M cg) := (hb17.cell (p := ⟨w4.heap.size, 0, none⟩) hlb).trans a0
                            have a71 : w7.cell? ⟨w4.heap.size, 1, none⟩ = some (.int .i64 hk0) := (hb17.cell (p := ⟨w4.heap.size, 1, none⟩) hlb).trans a1
                            have f70 : w7.frozen? ⟨w4.heap.size, 0, none⟩ = false := (hb17.frozen (p := ⟨w4.heap.size, 0, none⟩) hlb).trans f0
                            have f71 : w7.frozen? ⟨w4.heap.size, 1, none⟩ = false := (hb17.frozen (p := ⟨w4.heap.size, 1, none⟩) hlb).trans f1
                            clear hb7 hb17 ho7)
            all_goals
              go_wp2_with fail
              go_roundw
              case rel => exact ⟨k + 1, by omega, by go_num, by rw [HM.out]; try go_num, by rw [HS1.out]; exact HK7.out⟩
              case measure => simp [intOf]; omega
          · have HM := Lib.hid (show clkN M l (k + 1) = clkN M l k by rw [HN1.out, if_pos (by have := HX.out; omega)]; rfl)
            go_wp2_with fail
            go_region_with (go_at_call 57
                            refine (HLE.out _ c5 _ ?_).mono ?_
                            · exact (RowAt.of_own (RowF.keep HR6.out (Below.drew (Below.refl _ _))).2)
                            rintro e w7 ⟨g7, c7, rfl, ho7, hb7⟩
                            have hb17 : Below wr.heap.size wr w7 := HB16.out.trans ((Below.drew (Below.refl wr.heap.size W6)).trans (hb7.mono (by simp; omega)))
                            have HK7 := Lib.hid (HK.out.next hb17 (h' := h') ho7.2 (by simp; omega))
                            have a70 : w7.cell? ⟨w4.heap.size, 0, none⟩ = some (.slice (some ad) M cg) := (hb17.cell (p := ⟨w4.heap.size, 0, none⟩) hlb).trans a0
                            have a71 : w7.cell? ⟨w4.heap.size, 1, none⟩ = some (.int .i64 hk0) := (hb17.cell (p := ⟨w4.heap.size, 1, none⟩) hlb).trans a1
                            have f70 : w7.frozen? ⟨w4.heap.size, 0, none⟩ = false := (hb17.frozen (p := ⟨w4.heap.size, 0, none⟩) hlb).trans f0
                            have f71 : w7.frozen? ⟨w4.heap.size, 1, none⟩ = false := (hb17.frozen (p := ⟨w4.heap.size, 1, none⟩) hlb).trans f1
                            clear hb7 hb17 ho7)
            all_goals
              go_wp2_with fail
              go_roundw
              case rel => exact ⟨k + 1, by omega, by go_num, by rw [HM.out]; try go_num, by rw [HS1.out]; exact HK7.out⟩
              case measure => simp [intOf]; omega
      · obtain rfl : k = n := by omega
        go_wp2_with fail
        go_ret
        exact ⟨by rw [HF.out, ← HN.out]; rfl, HK.out.hb⟩
end Go.Proofs.Ytompbkphdjjpdaa
