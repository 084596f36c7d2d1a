/- Contracts of isBehind and MayLead of the program (chapter 10). Conditions: the logs lie in memory; they are few. -/
import Derived.Test.YtgoonccjdoajnabGrS
import Derived.Test.YtgoonccjdoajnabGrO
set_option linter.unusedVariables false
set_option linter.unusedSimpArgs false
namespace Go.Proofs.Ytgoonccjdoajnab
open Go.RowKit Go.ChangeShapes Go.WideShapes

/-- how many of the first k are among the voters -/
def cntV (v : Nat) : Nat → Nat
  | 0 => 0
  | k + 1 => cntV v k + bitN v k
theorem cntV_le (v : Nat) : ∀ k, cntV v k ≤ k
  | 0 => Nat.le_refl _
  | k + 1 => by
    have := cntV_le v k
    unfold cntV bitN
    split <;> omega
theorem bitN_01 (v j : Nat) : bitN v j = 0 ∨ bitN v j = 1 := by
  unfold bitN
  split <;> simp
theorem bitN_out {v n j : Nat} (hv : v < 2 ^ n) (h : n ≤ j) : bitN v j = 0 := by
  unfold bitN
  rw [Nat.testBit_lt_two_pow (Nat.lt_of_lt_of_le hv (Nat.pow_le_pow_right (by omega) h))]
  rfl
theorem cntV_out {v n : Nat} (hv : v < 2 ^ n) : ∀ j, n ≤ j → cntV v j = cntV v n
  | 0, h => by
    obtain rfl : n = 0 := by omega
    rfl
  | j + 1, h => by
    rcases Nat.lt_or_ge j n with q | q
    · obtain rfl : n = j + 1 := by omega
      rfl
    · show cntV v j + bitN v j = cntV v n
      rw [cntV_out hv j q, bitN_out hv q]
      omega
theorem ones5_cnt {v n : Nat} (hv : v < 2 ^ n) (hn : n ≤ 5) : ones5 v = cntV v n := by
  rw [← cntV_out hv 5 hn]
  unfold ones5
  simp only [cntV]
  omega
/-- may x lead by the voters -/
def mayP (L : List (List En)) (x v : Nat) : Prop := v.testBit x = true ∧ L.length < 2 * cntV v L.length ∧ ∀ y (h : y < L.length), v.testBit y = true → ¬ isBeh (L.getD x []) L[y]
instance (L : List (List En)) (x v : Nat) : Decidable (mayP L x v) := by unfold mayP; infer_instance
def mayL (L : List (List En)) (ld tm x v : Int) : Prop := okG L ld tm ∧ (0 ≤ x ∧ x < L.length) ∧ (0 ≤ v ∧ v < (2 ^ L.length : Nat)) ∧ mayP L x.toNat v.toNat
instance (L : List (List En)) (ld tm x v : Int) : Decidable (mayL L ld tm x v) := by unfold mayL; infer_instance
theorem getD_nat {L : List (List En)} {d : Nat} (h : d < L.length) : L.getD d [] = L[d] := by
  rw [List.getD_eq_getElem?_getD, List.getElem?_eq_getElem h]; rfl
theorem ofInt_m {x : Nat} (hx : x < 2 ^ 62) : (BitVec.ofInt 64 (x : Int)).toNat = x := by
  rw [BitVec.ofInt_natCast, BitVec.toNat_ofNat]; exact Nat.mod_eq_of_lt (by omega)
theorem and_m (x y : Nat) (hx : x < 2 ^ 62) (hy : y < 2 ^ 62) : bits .and .i64 (x : Int) (y : Int) = ((x &&& y : Nat) : Int) := by
  have h : x &&& y < 2 ^ 62 := Nat.lt_of_le_of_lt Nat.and_le_left hx
  show IntKind.i64.wrap ((BitVec.ofInt 64 (x : Int) &&& BitVec.ofInt 64 (y : Int)).toNat : Int) = _
  rw [BitVec.toNat_and, ofInt_m hx, ofInt_m hy]
  exact IntWalk.i64_in _ (by omega)
theorem bit_and (v j : Nat) : (v / 2 ^ j) &&& 1 = bitN v j := by
  unfold bitN
  rw [Nat.and_one_is_mod, Nat.testBit_eq_decide_div_mod_eq]
  have := Nat.mod_two_eq_zero_or_one (v / 2 ^ j)
  rcases this with h | h <;> simp [h]
theorem shr_and {v j : Nat} (hv : v < 32) (hj : j ≤ 5) : bits .and .i64 ((v : Int) / 2 ^ min j 64) 1 = (bitN v j : Int) := by
  rw [Nat.min_eq_left (by omega), show ((v : Int) / 2 ^ j) = ((v / 2 ^ j : Nat) : Int) by rw [Int.natCast_ediv, Int.natCast_pow]; rfl, show (1 : Int) = ((1 : Nat) : Int) from rfl, and_m _ _ (by have := Nat.div_le_self v (2 ^ j); omega) (by omega), bit_and]

set_option maxRecDepth 100000 in
set_option maxHeartbeats 1000000 in
theorem iBeh_any (A1 A2 : Option Addr) (n m c1 c2 : Nat) (l k : List En) (w : World) (h1 : RowAt w w.heap.size A1 (ensC l)) (h2 : RowAt w w.heap.size A2 (ensC k)) (hn : n = l.length) (hm : m = k.length) (hs : n ≤ 1048576) (hs2 : m ≤ 1048576) :
    Calls Try.prog 52 #[.slice A1 n c1, .slice A2 m c2] w fun e w' => e = .returned (.bool (decide (isBeh l k))) ∧ w' = w := by
  have H1 := Lib.hid (lastT_any A1 n c1 l w h1 hn hs)
  have H2 := Lib.hid (lastT_any A2 m c2 k w h2 hm hs2)
  have HB := Lib.hid (show decide (isBeh l k) = (decide (lastT l < lastT k) || (lastT l == lastT k && decide ((n : Int) < (m : Int)))) by
    rw [Bool.eq_iff_iff, decide_eq_true_iff]
    unfold isBeh
    rw [hn, hm]
    simp)
  clear h1 h2 hn hm
  generalize lastT l = a at *
  generalize lastT k = b at *
  by_cases q1 : a < b
  · have hv := Lib.hid (show decide (isBeh l k) = true by rw [HB.out]; simp [q1])
    go_enter Try.func52, Try.ntmps52
    go_wp2_with fail
    refine (H1.out).mono ?_
    rintro e w2 ⟨rfl, hw2⟩
    obtain rfl := hw2.symm
    go_wp2_with fail
    refine (H2.out).mono ?_
    rintro e w3 ⟨rfl, hw3⟩
    obtain rfl := hw3.symm
    go_wp2_with fail
    go_ret
    exact ⟨ret_bool hv.out.symm, rfl⟩
  · by_cases q2 : a = b
    · have q3 : (a == b) = true := by simpa using q2
      have hv := Lib.hid (show decide (isBeh l k) = decide ((n : Int) < (m : Int)) by rw [HB.out, q3]; simp [q1])
      clear q2
      go_enter Try.func52, Try.ntmps52
      go_wp2_with fail
      refine (H1.out).mono ?_
      rintro e w2 ⟨rfl, hw2⟩
      obtain rfl := hw2.symm
      go_wp2_with fail
      refine (H2.out).mono ?_
      rintro e w3 ⟨rfl, hw3⟩
      obtain rfl := hw3.symm
      go_wp2_with fail
      go_ret
      exact ⟨ret_bool (by rw [hv.out]; simp; intro h; omega), rfl⟩
    · have q3 : (a == b) = false := by simpa using q2
      have hv := Lib.hid (show decide (isBeh l k) = false by rw [HB.out, q3]; simp [q1])
      clear q2
      go_enter Try.func52, Try.ntmps52
      go_wp2_with fail
      refine (H1.out).mono ?_
      rintro e w2 ⟨rfl, hw2⟩
      obtain rfl := hw2.symm
      go_wp2_with fail
      refine (H2.out).mono ?_
      rintro e w3 ⟨rfl, hw3⟩
      obtain rfl := hw3.symm
      go_wp2_with fail
      go_ret
      exact ⟨ret_bool (by rw [hv.out]; simp [q1]), rfl⟩

set_option maxRecDepth 100000 in
set_option maxHeartbeats 4000000 in
theorem iMay_any (A : Option Addr) (n c : Nat) (L : List (List En)) (ld tm x v : Int) (w : World) (hr : GvAt w w.heap.size A L) (hn : n = L.length) (hs : n ≤ 1048576) (hsm : SmallGv L) :
    Calls Try.prog 18 #[.agg #[.slice A n c, .int .i64 ld, .int .i64 tm], .int .i64 x, .int .i64 v] w fun e w' => e = .returned (.bool (decide (mayL L ld tm x v))) ∧ Below w.heap.size w w' := by
  have HB0 := Lib.hid (fun o => (Below.refl w.heap.size w).alloc (Nat.le_refl _) o)
  have HV := Lib.hid (fun o => iGrp_any A n c L ld tm (w.alloc o) ((hr.below (HB0.out o)).mono (HB0.out o).size) hn hs hsm)
  by_cases g : okG L ld tm
  · rw [decide_eq_true g] at HV
    by_cases g1 : 0 ≤ x ∧ x < (n : Int)
    · have HP := Lib.hid (fun w => isPeer_is (A := A) (c := c) (ld := ld) (tm := tm) (decide_eq_true g1) w)
      by_cases g2 : v < 0
      · have HF := Lib.hid (show decide (mayL L ld tm x v) = false by
          simp only [decide_eq_false_iff_not]; exact fun q => by have := q.2.2.1.1; omega)
        clear hr hn hsm g g1
        go_enter Try.func18, Try.ntmps18
        go_wp2_with fail
        refine (HV.out _).mono ?_
        rintro e w2 ⟨rfl, hb2⟩
        have HX2 := Lib.hid (BoxG.start.keep hb2); clear hb2
        have x0 := HX2.out.c0
        have x1 := HX2.out.c1
        have x2 := HX2.out.c2
        go_wp2_with fail
        refine (HP.out _).mono ?_
        rintro e w3 ⟨rfl, hb3⟩
        have HX3 := Lib.hid (HX2.out.keep hb3); clear hb3
        go_wp2_with fail
        go_ret
        exact ⟨ret_bool HF.out.symm, HX3.out.hb⟩
      · obtain ⟨vn, rfl⟩ : ∃ k : Nat, v = (k : Int) := ⟨v.toNat, by omega⟩
        obtain ⟨xn, rfl⟩ : ∃ k : Nat, x = (k : Int) := ⟨x.toNat, by omega⟩
        have hn5 : n ≤ 5 := by have := g.1.2; omega
        have hpow : 2 ^ n ≤ 32 := Nat.pow_le_pow_right (by omega) hn5
        have hw0 : wrap64 ((2 : Int) ^ n) = ((2 ^ n : Nat) : Int) := by
          rw [show ((2 : Int) ^ n) = ((2 ^ n : Nat) : Int) by rw [Int.natCast_pow]; rfl]
          generalize 2 ^ n = p at *
          unfold wrap64; omega
        have hv0 : decide ((vn : Int) < 0) = false := by simp
        by_cases g3 : vn < 2 ^ n
        · have hg3 : (vn : Int) < ((2 ^ n : Nat) : Int) := by omega
          have hg4 : decide ((((2 ^ n : Nat) : Int)) ≤ (vn : Int)) = false := by rw [decide_eq_false_iff_not]; omega
          have HNB := Lib.hid (show bitN vn xn = 0 → decide (mayL L ld tm (xn : Int) (vn : Int)) = false from fun h => by
            simp only [decide_eq_false_iff_not]
            exact fun q => by
              have h2 := q.2.2.2.1
              simp only [Int.toNat_natCast] at h2
              unfold bitN at h
              rw [h2] at h; simp at h)
          have HON := Lib.hid (fun w => ones_any vn (by omega) w)
          have hxl : xn < L.length := by rw [← hn]; omega
          have hoc := ones5_cnt g3 hn5
          have HFEW := Lib.hid (show ¬ n < 2 * ones5 vn → decide (mayL L ld tm (xn : Int) (vn : Int)) = false from fun h => by
            simp only [decide_eq_false_iff_not]
            exact fun q => by
              have h2 := q.2.2.2.2.1
              simp only [Int.toNat_natCast] at h2
              rw [hoc, hn] at h
              exact h h2)
          have HBADF := Lib.hid (show ∀ k (hk : k < L.length), vn.testBit k = true → isBeh L[xn] L[k] → decide (mayL L ld tm (xn : Int) (vn : Int)) = false from fun k hk h1 h2 => by
            simp only [decide_eq_false_iff_not]
            exact fun q => by
              have h3 := q.2.2.2.2.2 k hk (by simpa using h1)
              simp only [Int.toNat_natCast] at h3
              rw [getD_nat hxl] at h3
              exact h3 h2)
          have HLOOP := Lib.hid (show bitN vn xn = 1 → n < 2 * ones5 vn → (∀ y (h : y < L.length), vn.testBit y = true → ¬ isBeh L[xn] L[y]) → decide (mayL L ld tm (xn : Int) (vn : Int)) = true from fun h1 h2 h3 => by
            rw [decide_eq_true_iff]
            refine ⟨g, by rw [← hn]; exact g1, ⟨by omega, by rw [← hn]; omega⟩, ?_, ?_, ?_⟩
            · simp only [Int.toNat_natCast]
              unfold bitN at h1
              split at h1
              · assumption
              · omega
            · simp only [Int.toNat_natCast]
              rw [hoc, hn] at h2; exact h2
            · simp only [Int.toNat_natCast]
              rw [getD_nat hxl]; exact h3)
          have HR := Lib.hid hr
          have HN := Lib.hid hn
          have HSM := Lib.hid hsm
          clear hoc
          have hones : ones5 vn ≤ 1048576 := by
            rw [ones5_cnt g3 hn5]
            have := cntV_le vn n; omega
          generalize 2 ^ n = pn at *
          clear hr hn hsm g g2
          go_enter Try.func18, Try.ntmps18
          go_wp2_with fail
          refine (HV.out _).mono ?_
          rintro e w2 ⟨rfl, hb2⟩
          have HX2 := Lib.hid (BoxG.start.keep hb2); clear hb2
          have x0 := HX2.out.c0
          have x1 := HX2.out.c1
          have x2 := HX2.out.c2
          go_wp2_with fail
          refine (HP.out _).mono ?_
          rintro e w3 ⟨rfl, hb3⟩
          have HX3 := Lib.hid (HX2.out.keep hb3); clear hb3
          have x0 := HX3.out.c0
          have x1 := HX3.out.c1
          have x2 := HX3.out.c2
          have hsa := shr_and (v := vn) (j := xn) (by omega) (by omega)
          have hsb := hsa
          rw [Nat.min_eq_left (show xn ≤ 64 by omega)] at hsb
          rcases bitN_01 vn xn with hb0 | hb1
          · rw [hb0] at hsa hsb
            have HF := Lib.hid (HNB.out hb0)
            clear hb0
            go_wp2_with fail
            go_quiet (fail)
            go_wp2_with fail
            go_ret
            exact ⟨ret_bool HF.out.symm, (HX3.out.keep (below_drewN _ _)).hb⟩
          · rw [hb1] at hsa hsb
            have hu64 : IntKind.u64.wrap (vn : Int) = (vn : Int) := IntWalk.u64_in _ (by omega)
            have HXD := Lib.hid (HX3.out.keep (W := w3.drew) (below_drewN _ 1))
            by_cases g5 : n < 2 * ones5 vn
            · have HM := Lib.hid (fun w => isMost_is (A := A) (c := c) (ld := ld) (tm := tm) (decide_eq_true g5) w hones)
              have HLP := Lib.hid (HLOOP.out hb1 g5)
              clear g5 hb1
              go_wp2_with fail
              go_still_tail 10, (by kernel_rfl)
              still_call (HON.out _)
              repeat still_step
              try refine wpStill_nil ?_
              change wpList _ _ _ _ _ w3.drew
              clear x0 x1 x2
              generalize w3.drew = W3 at *
              go_wp2_with fail
              refine (HM.out _).mono ?_
              rintro e w5 ⟨rfl, hb5⟩
              have HX5 := Lib.hid (HXD.out.keep hb5); clear hb5
              have x0 := HX5.out.c0
              have x1 := HX5.out.c1
              have x2 := HX5.out.c2
              go_wp2_with fail
              go_loopw [7, 8, 46] (fun _ _ i wr => ∃ k : Nat, i = .int .i64 (k : Int) ∧ k ≤ n ∧ (∀ y (h : y < L.length), y < k → vn.testBit y = true → ¬ isBeh L[xn] L[y]) ∧ BoxG w A n c ld tm wr) (fun _ _ i _ => n - (intOf i).toNat)
              case atStart => exact ⟨0, rfl, by omega, fun y h h2 => by omega, HX5.out⟩
              case round =>
                clear x0 x1 x2
                obtain ⟨k, rfl, hk, hu, hx⟩ := hrel
                have HU := Lib.hid hu; clear hu
                have HX := Lib.hid hx; clear hx
                have x0 := HX.out.c0
                have x1 := HX.out.c1
                have x2 := HX.out.c2
                by_cases hlt : k < n
                · have hkl : k < L.length := by have := HN.out; omega
                  obtain ⟨b, off, A', c', hA, hbw, e0, hrow⟩ := (HR.out.below HX.out.hb).at_ hkl
                  obtain ⟨b2, off2, A2, c2, hA2, hbw2, e1, hrow2⟩ := (HR.out.below HX.out.hb).at_ hxl
                  have HA := Lib.hid hA
                  rw [hA] at hA2
                  injection hA2 with hA2
                  injection hA2 with h1 h2
                  subst h1 h2
                  rw [hA] at x0
                  rw [HA.out]
                  clear hA
                  have hsk := shr_and (v := vn) (j := k) (by omega) (by omega)
                  have hsl := hsk
                  rw [Nat.min_eq_left (show k ≤ 64 by omega)] at hsl
                  have HC := Lib.hid (iBeh_any A2 A' L[xn].length L[k].length c2 c' L[xn] L[k] wr (hrow2.mono HX.out.hb.size) (hrow.mono HX.out.hb.size) rfl rfl (HSM.out _ (List.getElem_mem hxl)) (HSM.out _ (List.getElem_mem hkl)))
                  have HNX := Lib.hid (fun (hq : vn.testBit k = true → ¬ isBeh L[xn] L[k]) => (show ∀ y (h : y < L.length), y < k + 1 → vn.testBit y = true → ¬ isBeh L[xn] L[y] from fun y h h2 => by
                    rcases Nat.lt_or_ge y k with q | q
                    · exact HU.out y h q
                    · obtain rfl : y = k := by omega
                      exact hq))
                  have HBAD := Lib.hid (HBADF.out k hkl)
                  have hi1 : (k : Int) < (n : Int) := by omega
                  have hi4 : (0 : Int) ≤ (k : Int) := by omega
                  clear hrow hrow2
                  obtain ⟨m, hm⟩ : ∃ m, L[k].length = m := ⟨_, rfl⟩
                  obtain ⟨m2, hm2⟩ : ∃ m, L[xn].length = m := ⟨_, rfl⟩
                  rw [hm, hm2] at HC
                  rw [hm] at e0
                  rw [hm2] at e1
                  clear hm hm2
                  generalize hLx : L[xn] = lx at *
                  generalize hLk : L[k] = lk at *
                  clear hLk
                  rcases bitN_01 vn k with hk0 | hk1
                  · rw [hk0] at hsk hsl
                    have HF := Lib.hid (HNX.out (fun q => by unfold bitN at hk0; rw [q] at hk0; simp at hk0))
                    clear hk0 HC
                    go_wp2_with fail
                    go_roundw
                    case rel => exact ⟨k + 1, by go_num, by omega, HF.out, by rw [← HA.out]; exact HX.out⟩
                    case measure => simp [intOf]; omega
                  · rw [hk1] at hsk hsl
                    have hbt : vn.testBit k = true := by
                      unfold bitN at hk1
                      split at hk1
                      · assumption
                      · omega
                    by_cases hb : isBeh lx lk
                    · rw [decide_eq_true hb] at HC
                      have HF := Lib.hid (HBAD.out hbt hb)
                      clear hb hk1 hbt
                      go_wp2_with fail
                      refine (HC.out).mono ?_
                      rintro e w6 ⟨rfl, hw6⟩
                      obtain rfl := hw6.symm
                      go_wp2_with fail
                      go_ret
                      exact ⟨ret_bool HF.out.symm, HX.out.hb⟩
                    · rw [decide_eq_false hb] at HC
                      have HF := Lib.hid (HNX.out (fun _ => hb))
                      clear hb hk1 hbt
                      go_wp2_with fail
                      refine (HC.out).mono ?_
                      rintro e w6 ⟨rfl, hw6⟩
                      obtain rfl := hw6.symm
                      go_wp2_with fail
                      go_roundw
                      case rel => exact ⟨k + 1, by go_num, by omega, HF.out, by rw [← HA.out]; exact HX.out⟩
                      case measure => simp [intOf]; omega
                · obtain rfl : k = n := by omega
                  have HF := Lib.hid (HLP.out (fun y h => HU.out y h (by rw [HN.out]; exact h)))
                  go_wp2_with fail
                  go_ret
                  exact ⟨ret_bool HF.out.symm, HX.out.hb⟩
            · have HM := Lib.hid (fun w => isMost_is (A := A) (c := c) (ld := ld) (tm := tm) (decide_eq_false g5) w hones)
              have HF := Lib.hid (HFEW.out g5)
              clear g5 hb1
              go_wp2_with fail
              go_still_tail 10, (by kernel_rfl)
              still_call (HON.out _)
              repeat still_step
              try refine wpStill_nil ?_
              change wpList _ _ _ _ _ w3.drew
              clear x0 x1 x2
              generalize w3.drew = W3 at *
              go_wp2_with fail
              refine (HM.out _).mono ?_
              rintro e w5 ⟨rfl, hb5⟩
              have HX5 := Lib.hid (HXD.out.keep hb5); clear hb5
              go_wp2_with fail
              go_ret
              exact ⟨ret_bool HF.out.symm, HX5.out.hb⟩
        · have HF := Lib.hid (show decide (mayL L ld tm (xn : Int) (vn : Int)) = false by
            simp only [decide_eq_false_iff_not]; exact fun q => by have := q.2.2.1.2; rw [← hn] at this; omega)
          have hg3 : ¬ ((vn : Int) < ((2 ^ n : Nat) : Int)) := by omega
          have hg4 : decide ((((2 ^ n : Nat) : Int)) ≤ (vn : Int)) = true := by rw [decide_eq_true_iff]; omega
          clear hr hn hsm g g1 g2 g3
          generalize 2 ^ n = pn at *
          go_enter Try.func18, Try.ntmps18
          go_wp2_with fail
          refine (HV.out _).mono ?_
          rintro e w2 ⟨rfl, hb2⟩
          have HX2 := Lib.hid (BoxG.start.keep hb2); clear hb2
          have x0 := HX2.out.c0
          have x1 := HX2.out.c1
          have x2 := HX2.out.c2
          go_wp2_with fail
          refine (HP.out _).mono ?_
          rintro e w3 ⟨rfl, hb3⟩
          have HX3 := Lib.hid (HX2.out.keep hb3); clear hb3
          have x0 := HX3.out.c0
          have x1 := HX3.out.c1
          have x2 := HX3.out.c2
          go_wp2_with fail
          go_ret
          exact ⟨ret_bool HF.out.symm, HX3.out.hb⟩
    · have HP := Lib.hid (fun w => isPeer_is (A := A) (c := c) (ld := ld) (tm := tm) (decide_eq_false g1) w)
      have HF := Lib.hid (show decide (mayL L ld tm x v) = false by
        simp only [decide_eq_false_iff_not]; exact fun q => g1 (by rw [hn]; exact q.2.1))
      clear hr hn hsm g g1
      go_enter Try.func18, Try.ntmps18
      go_wp2_with fail
      refine (HV.out _).mono ?_
      rintro e w2 ⟨rfl, hb2⟩
      have HX2 := Lib.hid (BoxG.start.keep hb2); clear hb2
      have x0 := HX2.out.c0
      have x1 := HX2.out.c1
      have x2 := HX2.out.c2
      go_wp2_with fail
      refine (HP.out _).mono ?_
      rintro e w3 ⟨rfl, hb3⟩
      have HX3 := Lib.hid (HX2.out.keep hb3); clear hb3
      go_wp2_with fail
      go_ret
      exact ⟨ret_bool HF.out.symm, HX3.out.hb⟩
  · rw [decide_eq_false g] at HV
    have HF := Lib.hid (show decide (mayL L ld tm x v) = false by
      simp only [decide_eq_false_iff_not]; exact fun q => g q.1)
    clear hr hn hsm g
    go_enter Try.func18, Try.ntmps18
    go_wp2_with fail
    refine (HV.out _).mono ?_
    rintro e w2 ⟨rfl, hb2⟩
    have HX2 := Lib.hid (BoxG.start.keep hb2); clear hb2
    go_wp2_with fail
    go_ret
    exact ⟨ret_bool HF.out.symm, HX2.out.hb⟩
end Go.Proofs.Ytgoonccjdoajnab
