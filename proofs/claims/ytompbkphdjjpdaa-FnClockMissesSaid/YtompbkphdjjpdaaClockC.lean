/- The contract of the program's ClockMisses (chapter 2). Conditions: the trace lies in a row. -/
import Derived.Test.YtompbkphdjjpdaaClockM
import Derived.Test.YtompbkphdjjpdaaPoolH
import Derived.Test.YtompbkphdjjpdaaTraceC
set_option linter.unusedVariables false
set_option linter.unusedSimpArgs false
namespace Go.Proofs.Ytompbkphdjjpdaa
open Go.RowKit Go.ChangeShapes Go.WideShapes

def clockI (m : Int) (l : List Int) : Int := if (countB m && traceB l) = true then (clkN m.toNat l l.length : Int) else -1
/-- the pool in its variable, between two steps -/
structure ClkI (w : World) (b M : Nat) (lk : List Fr) (hk : Nat) (wr : World) : Prop where
  row : ∃ Ag cg, wr.cell? ⟨b, 0, none⟩ = some (.slice Ag M cg) ∧ RowAt wr wr.heap.size Ag (frsC lk)
  c1 : wr.cell? ⟨b, 1, none⟩ = some (.int .i64 (hk : Int))
  f0 : wr.frozen? ⟨b, 0, none⟩ = false
  f1 : wr.frozen? ⟨b, 1, none⟩ = false
  lt : b < wr.heap.size
  le : w.heap.size ≤ b
  hb : Below w.heap.size w wr
theorem ClkI.next {w wr w7 : World} {b M B : Nat} {lk L' : List Fr} {hk h' : Nat} (h : ClkI w b M lk hk wr) (hb : Below wr.heap.size wr w7) {A' : Option Addr} {c' : Nat}
    (ho : w7.ownsRow B 49 3 (.slice A' M c') M (frsC L')) (hB : b < B) : ClkI w b M L' h' ((w7.setCell ⟨b, 0, none⟩ (.slice A' M c')).setCell ⟨b, 1, none⟩ (.int .i64 (h' : Int))) := by
  obtain ⟨Ag, cg, e0, _⟩ := h.row
  have hlt := h.lt
  have a0 : w7.cell? ⟨b, 0, none⟩ = some (.slice Ag M cg) := (hb.cell (p := ⟨b, 0, none⟩) hlt).trans e0
  have a1 : w7.cell? ⟨b, 1, none⟩ = some (.int .i64 (hk : Int)) := (hb.cell (p := ⟨b, 1, none⟩) hlt).trans h.c1
  have g0 : w7.frozen? ⟨b, 0, none⟩ = false := (hb.frozen (p := ⟨b, 0, none⟩) hlt).trans h.f0
  have g1 : w7.frozen? ⟨b, 1, none⟩ = false := (hb.frozen (p := ⟨b, 1, none⟩) hlt).trans h.f1
  have hs := hb.size
  have hr := RowAt.of_own (ownsRow_setCell_below (a := ⟨b, 1, none⟩) (ownsRow_setCell_below (a := ⟨b, 0, none⟩) ho hB (.slice A' M c')) hB (.int .i64 (h' : Int)))
  exact { row := ⟨A', c', by simp [go_sem, a0, a1], hr⟩, c1 := by simp [go_sem, a0, a1], f0 := by simp [go_sem, g0, g1], f1 := by simp [go_sem, g0, g1], lt := by simp; omega, le := h.le,
          hb := ((h.hb.trans (hb.mono h.hb.size)).setCell h.le _).setCell h.le _ }

set_option maxRecDepth 100000 in
set_option maxHeartbeats 4000000 in
theorem iClock_any (m : Int) (A : Option Addr) (n c : Nat) (l : List Int) (w : World) (hr : RowAt w w.heap.size A (intC l)) (hn : n = l.length) (hs : n ≤ 1048576) (hnc : n ≤ c) :
    Calls Try.prog 37 #[.int .i64 m, .slice A n c] w fun e w' => e = .returned (.int .i64 (clockI m l)) ∧ Below w.heap.size w w' := by
  have HC := Lib.hid (fun w => isCount_any m w)
  have HT := Lib.hid (iTrace_any A n c l w hr hn hs)
  cases hc : countB m
  · rw [hc] at HC
    have HF := Lib.hid (show clockI m l = -1 by unfold clockI; rw [hc]; rfl)
    clear hr hn hc
    go_enter Try.func37, Try.ntmps37
    go_wp2_with fail
    refine (HC.out _).mono ?_
    rintro e w2 ⟨rfl, hw2⟩
    obtain rfl := hw2.symm
    go_wp2_with fail
    go_ret
    exact ⟨by rw [HF.out]; rfl, Below.refl _ _⟩
  · rw [hc] at HC
    cases ht : traceB l
    · rw [ht] at HT
      have HF := Lib.hid (show clockI m l = -1 by unfold clockI; rw [hc, ht]; rfl)
      clear hr hn hc ht
      go_enter Try.func37, Try.ntmps37
      go_wp2_with fail
      refine (HC.out _).mono ?_
      rintro e w2 ⟨rfl, hw2⟩
      obtain rfl := hw2.symm
      go_wp2_with fail
      refine (HT.out).mono ?_
      rintro e w3 ⟨rfl, hw3⟩
      obtain rfl := hw3.symm
      go_wp2_with fail
      go_ret
      exact ⟨by rw [HF.out]; rfl, Below.refl _ _⟩
    · rw [ht] at HT
      obtain ⟨h1, h5⟩ : 1 ≤ m ∧ m ≤ 5 := by
        unfold countB at hc
        simpa only [Bool.and_eq_true, decide_eq_true_eq] using hc
      obtain ⟨M, rfl⟩ := Int.eq_ofNat_of_zero_le (show 0 ≤ m by omega)
      have HP := Lib.hid (show l.all pageI = true by
        unfold traceB at ht
        simp only [Bool.and_eq_true] at ht
        exact ht.2)
      have HF := Lib.hid (show clockI (M : Int) l = (clkN M l l.length : Int) by unfold clockI; rw [hc, ht]; rfl)
      have HPL := Lib.hid (show poolN (M : Int) = (clkS M l 0).1 by unfold poolN; rw [hc]; simp [clkS])
      have HINV := Lib.hid (fun k (hk : k ≤ l.length) => clkS_inv (m := M) (by omega) (by omega) HP.out hk)
      have HI := Lib.hid (iNewPool_any (M : Int) w)
      rw [HPL.out] at HI
      have hl0 : (clkS M l 0).1.length = M := (HINV.out 0 (by omega)).len
      have HL0 := Lib.hid hl0; clear hl0
      have HR := Lib.hid hr; clear hr
      have HN := Lib.hid hn; clear hn
      clear hc ht
      go_enter Try.func37, Try.ntmps37
      go_wp2_with fail
      refine (HC.out _).mono ?_
      rintro e w2 ⟨rfl, hw2⟩
      obtain rfl := hw2.symm
      go_wp2_with fail
      refine (HT.out).mono ?_
      rintro e w3 ⟨rfl, hw3⟩
      obtain rfl := hw3.symm
      go_wp2_with fail
      refine (HI.out).mono ?_
      rintro e w4 ⟨v4, rfl, ⟨A4, c4, rfl, ho4⟩, hb4⟩
      rw [HL0.out] at ho4
      rw [HL0.out]
      have H0 := Lib.hid (show ClkI w w4.heap.size M (clkS M l 0).1 (clkS M l 0).2 (w4.alloc (.cells #[.slice A4 M c4, .int .i64 0] 28)) from
        { row := ⟨A4, c4, by simp, RowAt.of_own (ho4.alloc _)⟩, c1 := by simp [clkS], f0 := by simp [go_sem], f1 := by simp [go_sem], lt := by simp, le := hb4.size, hb := hb4.alloc hb4.size _ })
      clear ho4 hb4
      go_wp2_with fail
      go_loopw [6, 24] (fun q i wr => ∃ k : Nat, k ≤ n ∧ i = .int .i64 k ∧ q = .int .i64 (clkN M l k : Int) ∧ ClkI w w4.heap.size M (clkS M l k).1 (clkS M l k).2 wr) (fun _ i _ => n - (intOf i).toNat)
      case atStart => exact ⟨0, by omega, rfl, rfl, H0.out⟩
      case round =>
        obtain ⟨k, hk, rfl, rfl, hck⟩ := hrel
        have HK := Lib.hid hck; clear hck
        have hle := clkN_le M l k
        by_cases hlt : k < n
        · have hkl : k < l.length := by have := HN.out; omega
          obtain ⟨pb, off, rfl, hbw, e0⟩ := ints_at (HR.out.below HK.out.hb) hkl
          have hpg : pageI l[k] = true := List.all_eq_true.1 HP.out _ (List.getElem_mem _)
          have hget : l.getD k 0 = l[k] := by simp [List.getD_eq_getElem?_getD, hkl]
          obtain ⟨L, h', x, L', s1, s2, s3, s4, s5, s6, s7, s8, s9⟩ := clock_step (m := M) (p := l[k]) (by omega) (by omega) hpg (HINV.out k (by omega))
          have hN1 : clkN M l (k + 1) = clkN M l k + if x = 0 then 0 else 1 := by rw [clkN, hget, s1]
          have hS1 : clkS M l (k + 1) = (L', h') := by rw [clkS, hget, s1]; simp [s7]
          have HFR := Lib.hid (show fetchR (clkS M l k).1 (clkS M l k).2 l[k] = some (L, h', x) by
            unfold fetchR
            rw [(HINV.out k (by omega)).pool (by omega) (by omega), hpg]
            simpa using s1)
          have HLR := Lib.hid (show leaveR L h' l[k] = some L' by unfold leaveR; rw [s6, hpg]; simpa using s7)
          have HL3 := Lib.hid s3
          have HL9 := Lib.hid s9.len
          have HN1 := Lib.hid hN1
          have HS1 := Lib.hid hS1
          obtain ⟨Ag, cg, a0, hra⟩ := HK.out.row
          have a1 := HK.out.c1
          have hlb := HK.out.lt
          have HFE := Lib.hid (iFetch_any Ag M cg (clkS M l k).1 (clkS M l k).2 l[k] wr hra (HINV.out k (by omega)).len.symm (by omega))
          unfold FetchPost at HFE
          rw [HFR.out] at HFE
          have HLE := Lib.hid (fun A' c' W (hr : RowAt W W.heap.size A' (frsC L)) => iLeave_any A' M c' L h' l[k] W hr s3.symm (by omega))
          unfold LeavePost at HLE
          rw [HLR.out] at HLE
          clear hra s1 s3 s4 s5 s6 s7 s8 s9 hN1 hS1 hpg hget
          generalize l[k] = p at *
          generalize (clkS M l k).2 = hk0 at *
          go_wp2_with fail
          refine (HFE.out).mono ?_
          rintro e w5 ⟨v5, rfl, ⟨A5, c5, rfl, ho5⟩, hb5⟩
          rw [HL3.out] at ho5
          rw [HL3.out]
          have hsx := hb5.size
          have HB5 := Lib.hid hb5; clear hb5
          have HO5 := Lib.hid ho5; clear ho5
          by_cases hx : x = 0
          · have hx0 : (x != 0) = false := by simp [hx]
            have HM := Lib.hid (show clkN M l (k + 1) = clkN M l k by rw [HN1.out, if_pos hx]; rfl)
            clear hx
            go_wp2_with fail
            refine (HLE.out A5 c5 _ (RowAt.of_own (HO5.out.alloc _))).mono ?_
            rintro e w7 ⟨v7, rfl, ⟨A7, c7, rfl, ho7⟩, hb7⟩
            rw [HL9.out] at ho7
            rw [HL9.out]
            have hb57 : Below wr.heap.size wr w7 := (HB5.out.alloc hsx _).trans (hb7.mono (by simp; omega))
            have HK7 := Lib.hid (HK.out.next hb57 (h' := h') ho7 (by simp; omega))
            have a70 : w7.cell? ⟨w4.heap.size, 0, none⟩ = some (.slice Ag M cg) := (hb57.cell (p := ⟨w4.heap.size, 0, none⟩) hlb).trans a0
            have a71 : w7.cell? ⟨w4.heap.size, 1, none⟩ = some (.int .i64 hk0) := (hb57.cell (p := ⟨w4.heap.size, 1, none⟩) hlb).trans a1
            have f70 : w7.frozen? ⟨w4.heap.size, 0, none⟩ = false := (hb57.frozen (p := ⟨w4.heap.size, 0, none⟩) hlb).trans HK.out.f0
            have f71 : w7.frozen? ⟨w4.heap.size, 1, none⟩ = false := (hb57.frozen (p := ⟨w4.heap.size, 1, none⟩) hlb).trans HK.out.f1
            clear hb7 hb57 ho7
            go_wp2_with fail
            go_roundw
            case rel => exact ⟨k + 1, by omega, by go_num, by rw [HM.out]; try go_num, by rw [HS1.out]; exact HK7.out⟩
            case measure => simp [intOf]; omega
          · have hx0 : (x != 0) = true := by simpa using hx
            have HM := Lib.hid (show clkN M l (k + 1) = clkN M l k + 1 by rw [HN1.out, if_neg hx])
            clear hx
            go_wp2_with fail
            refine (HLE.out A5 c5 _ (RowAt.of_own (HO5.out.alloc _))).mono ?_
            rintro e w7 ⟨v7, rfl, ⟨A7, c7, rfl, ho7⟩, hb7⟩
            rw [HL9.out] at ho7
            rw [HL9.out]
            have hb57 : Below wr.heap.size wr w7 := (HB5.out.alloc hsx _).trans (hb7.mono (by simp; omega))
            have HK7 := Lib.hid (HK.out.next hb57 (h' := h') ho7 (by simp; omega))
            have a70 : w7.cell? ⟨w4.heap.size, 0, none⟩ = some (.slice Ag M cg) := (hb57.cell (p := ⟨w4.heap.size, 0, none⟩) hlb).trans a0
            have a71 : w7.cell? ⟨w4.heap.size, 1, none⟩ = some (.int .i64 hk0) := (hb57.cell (p := ⟨w4.heap.size, 1, none⟩) hlb).trans a1
            have f70 : w7.frozen? ⟨w4.heap.size, 0, none⟩ = false := (hb57.frozen (p := ⟨w4.heap.size, 0, none⟩) hlb).trans HK.out.f0
            have f71 : w7.frozen? ⟨w4.heap.size, 1, none⟩ = false := (hb57.frozen (p := ⟨w4.heap.size, 1, none⟩) hlb).trans HK.out.f1
            clear hb7 hb57 ho7
            go_wp2_with fail
            go_roundw
            case rel => exact ⟨k + 1, by omega, by go_num, by rw [HM.out]; try go_num, by rw [HS1.out]; exact HK7.out⟩
            case measure => simp [intOf]; omega
        · obtain rfl : k = n := by omega
          go_wp2_with fail
          go_ret
          exact ⟨by rw [HF.out, ← HN.out]; rfl, HK.out.hb⟩
end Go.Proofs.Ytompbkphdjjpdaa
