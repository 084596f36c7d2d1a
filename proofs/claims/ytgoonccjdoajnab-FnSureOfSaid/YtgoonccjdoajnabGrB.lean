/- Contracts of power, bit, behind, mayLead and MayLead of the model (chapter 10). Conditions: the logs lie in memory; they are few. -/
import Derived.Test.YtgoonccjdoajnabGrL
set_option linter.unusedVariables false
set_option linter.unusedSimpArgs false
namespace Go.Proofs.Ytgoonccjdoajnab
open Go.RowKit Go.ChangeShapes Go.WideShapes

theorem pow_any (k p : Nat) (w : World) (hk : k ≤ 40) (hp0 : p = 2 ^ k) :
    Calls Try.prog 63 #[.int .i64 (k : Int)] w fun e w' => e = .returned (.int .i64 (p : Int)) ∧ w' = w := by
  have HP := Lib.hid hp0; clear hp0
  go_enter Try.func63, Try.ntmps63
  go_wp2
  go_loop [0, 3] (fun i p => ∃ j : Nat, j ≤ k ∧ i = .int .i64 (j : Int) ∧ p = .int .i64 ((2 ^ (k - j) : Nat) : Int)) (fun i _ => (intOf i).toNat)
  case atStart => exact ⟨k, by omega, rfl, by simp⟩
  case round =>
    obtain ⟨j, hj, rfl, rfl⟩ := hrel
    have hp : (2 ^ (k - j) : Nat) ≤ 2 ^ 40 := Nat.pow_le_pow_right (by omega) (by omega)
    have hp2 : 2 ^ (k - j) ≤ 1099511627776 := hp
    cases j with
    | zero =>
      have e : (2 ^ (k - 0) : Nat) = p := by rw [HP.out]; simp
      rw [e] at hp2
      rw [e]
      clear hp e HP
      go_wp2
      go_ret
      exact ⟨rfl, rfl⟩
    | succ j =>
      have e : (2 ^ (k - j) : Nat) = 2 * 2 ^ (k - (j + 1)) := by
        rw [show k - j = (k - (j + 1)) + 1 by omega, Nat.pow_succ, Nat.mul_comm]
      have HE := Lib.hid e
      clear e hp
      generalize hq : 2 ^ (k - (j + 1)) = q at *
      have hj0 : (0 : Int) < ((j + 1 : Nat) : Int) := by omega
      go_wp2
      go_round
      case rel => exact ⟨j, by omega, by go_num, by rw [HE.out, Int.natCast_mul]; rfl⟩
      case measure => simp [intOf]
theorem bit_vl (x j : Nat) : x / 2 ^ j % 2 = bitN x j := by
  unfold bitN
  rw [Nat.testBit_eq_decide_div_mod_eq]
  have := Nat.mod_two_eq_zero_or_one (x / 2 ^ j)
  rcases this with h | h <;> simp [h]
theorem bitS_any (x j : Nat) (w : World) (hx : x ≤ 1048576) (hj : j ≤ 40) :
    Calls Try.prog 73 #[.int .i64 (x : Int), .int .i64 (j : Int)] w fun e w' => e = .returned (.int .i64 (bitN x j : Int)) ∧ w' = w := by
  have HP := Lib.hid (pow_any j _ w hj rfl)
  have hp : (2 ^ j : Nat) ≤ 2 ^ 40 := Nat.pow_le_pow_right (by omega) (by omega)
  have hp2 : 2 ^ j ≤ 1099511627776 := hp
  have hp0 : 0 < 2 ^ j := Nat.two_pow_pos j
  have HV := Lib.hid (show (((x / 2 ^ j % 2 : Nat) : Int)) = (bitN x j : Int) by rw [bit_vl])
  clear hp
  generalize (bitN x j : Int) = r at *
  generalize 2 ^ j = q at *
  have hq0 : ¬ ((q : Int) = 0) := by omega
  have d1 : (x : Int).tdiv (q : Int) = ((x / q : Nat) : Int) := by rw [Int.ofNat_tdiv]
  have d2 : ((x / q : Nat) : Int).tmod 2 = ((x / q % 2 : Nat) : Int) := by rw [show (2 : Int) = ((2 : Nat) : Int) from rfl, Int.ofNat_tmod]
  have hle : x / q ≤ x := Nat.div_le_self _ _
  have HZ := Lib.hid (show ((x : Int) / (q : Int)) = ((x / q : Nat) : Int) from (Int.natCast_ediv x q).symm)
  go_enter Try.func73, Try.ntmps73
  go_wp2_with fail
  refine HP.out.mono ?_
  rintro e w2 ⟨rfl, hw2⟩
  obtain rfl := hw2.symm
  go_wp2_with fail
  go_ret
  refine ⟨?_, rfl⟩
  rw [← HV.out]
  simp only [HZ.out]
  generalize x / q = z at *
  rw [show wrap64 (z : Int) = (z : Int) from by unfold wrap64; omega]
  simp only [d2]
  rfl

/-- the term of the last entry as the model finds it -/
theorem last_at {A : Option Addr} {l : List En} {w : World} {B j : Nat} (hr : RowAt w B A (ensC l)) (hj : j + 1 = l.length) : ∃ b off, A = some ⟨b, off, none⟩ ∧ b < B ∧ w.cell? ⟨b, off + j * 2, none⟩ = some (.int .i64 (lastT l)) := by
  have hjl : j < l.length := by omega
  obtain ⟨b, off, hA, hb, e0, e1⟩ := ens_at hr hjl
  refine ⟨b, off, hA, hb, ?_⟩
  rw [lastT_pos (by omega)]
  have : l.length - 1 = j := by omega
  simp only [this]
  exact e0
set_option maxRecDepth 100000 in
set_option maxHeartbeats 2000000 in
theorem sBeh_any (A1 A2 : Option Addr) (n m c1 c2 : Nat) (l k : List En) (w : World) (h1 : RowAt w w.heap.size A1 (ensC l)) (h2 : RowAt w w.heap.size A2 (ensC k)) (hn : n = l.length) (hm : m = k.length) (hs : n ≤ 1048576) (hs2 : m ≤ 1048576) :
    Calls Try.prog 74 #[.slice A1 n c1, .slice A2 m c2] w fun e w' => e = .returned (.bool (decide (isBeh l k))) ∧ w' = w := by
  have HB := Lib.hid (show decide (isBeh l k) = (decide (lastT l < lastT k) || (lastT l == lastT k && decide ((n : Int) < (m : Int)))) by
    rw [Bool.eq_iff_iff, decide_eq_true_iff]
    unfold isBeh
    rw [hn, hm]
    simp)
  have H1 := Lib.hid (fun j (hj : j + 1 = l.length) => last_at h1 hj)
  have H2 := Lib.hid (fun j (hj : j + 1 = k.length) => last_at h2 hj)
  have HZ1 := Lib.hid (show l.length = 0 → lastT l = 0 from fun h => by rw [List.eq_nil_of_length_eq_zero h]; rfl)
  have HZ2 := Lib.hid (show k.length = 0 → lastT k = 0 from fun h => by rw [List.eq_nil_of_length_eq_zero h]; rfl)
  have HN := Lib.hid hn
  have HM := Lib.hid hm
  clear h1 h2 hn hm
  cases n with
  | zero =>
    have HA := Lib.hid (HZ1.out HN.out.symm)
    rw [HA.out] at HB
    cases m with
    | zero =>
      have HBB := Lib.hid (HZ2.out HM.out.symm)
      rw [HBB.out] at HB
      go_enter Try.func74, Try.ntmps74
      go_wp2_with fail
      go_ret
      exact ⟨ret_bool (by rw [HB.out]; rfl), rfl⟩
    | succ j2 =>
      obtain ⟨b2, off2, hA2, hb2, d0⟩ := H2.out j2 HM.out
      subst hA2
      generalize lastT k = y at *
      have g0j2 : (0 : Int) < ((j2 + 1 : Nat) : Int) := by omega
      have g1j2 : ((j2 + 1 : Nat) : Int) - 1 = (j2 : Int) := by omega
      have g2j2 : IntKind.i64.wrap (j2 : Int) = (j2 : Int) := IntWalk.i64_in _ (by omega)
      have g3j2 : (j2 : Int) < ((j2 + 1 : Nat) : Int) := by omega
      have g4j2 : (0 : Int) ≤ (j2 : Int) := by omega
      by_cases q1 : (0 : Int) < y
      · rw [decide_eq_true q1] at HB
        go_enter Try.func74, Try.ntmps74
        go_wp2_with fail
        go_ret
        exact ⟨ret_bool (by rw [HB.out]; simp), rfl⟩
      · by_cases q2 : (0 : Int) = y
        · have q3 : ((0 : Int) == y) = true := by simpa using q2
          rw [decide_eq_false q1, q3] at HB
          clear q2
          go_enter Try.func74, Try.ntmps74
          go_wp2_with fail
          go_ret
          exact ⟨ret_bool (by rw [HB.out]; simp), rfl⟩
        · have q3 : ((0 : Int) == y) = false := by simpa using q2
          rw [decide_eq_false q1, q3] at HB
          clear q2
          go_enter Try.func74, Try.ntmps74
          go_wp2_with fail
          go_ret
          exact ⟨ret_bool (by rw [HB.out]; simp), rfl⟩
  | succ j1 =>
    obtain ⟨b1, off1, hA1, hb1, e0⟩ := H1.out j1 HN.out
    subst hA1
    generalize lastT l = x at *
    have g0j1 : (0 : Int) < ((j1 + 1 : Nat) : Int) := by omega
    have g1j1 : ((j1 + 1 : Nat) : Int) - 1 = (j1 : Int) := by omega
    have g2j1 : IntKind.i64.wrap (j1 : Int) = (j1 : Int) := IntWalk.i64_in _ (by omega)
    have g3j1 : (j1 : Int) < ((j1 + 1 : Nat) : Int) := by omega
    have g4j1 : (0 : Int) ≤ (j1 : Int) := by omega
    cases m with
    | zero =>
      have HBB := Lib.hid (HZ2.out HM.out.symm)
      rw [HBB.out] at HB
      by_cases q1 : x < (0 : Int)
      · rw [decide_eq_true q1] at HB
        go_enter Try.func74, Try.ntmps74
        go_wp2_with fail
        go_ret
        exact ⟨ret_bool (by rw [HB.out]; simp), rfl⟩
      · by_cases q2 : x = (0 : Int)
        · have q3 : (x == (0 : Int)) = true := by simpa using q2
          rw [decide_eq_false q1, q3] at HB
          clear q2
          go_enter Try.func74, Try.ntmps74
          go_wp2_with fail
          go_ret
          exact ⟨ret_bool (by rw [HB.out]; simp), rfl⟩
        · have q3 : (x == (0 : Int)) = false := by simpa using q2
          rw [decide_eq_false q1, q3] at HB
          clear q2
          go_enter Try.func74, Try.ntmps74
          go_wp2_with fail
          go_ret
          exact ⟨ret_bool (by rw [HB.out]; simp), rfl⟩
    | succ j2 =>
      obtain ⟨b2, off2, hA2, hb2, d0⟩ := H2.out j2 HM.out
      subst hA2
      generalize lastT k = y at *
      have g0j2 : (0 : Int) < ((j2 + 1 : Nat) : Int) := by omega
      have g1j2 : ((j2 + 1 : Nat) : Int) - 1 = (j2 : Int) := by omega
      have g2j2 : IntKind.i64.wrap (j2 : Int) = (j2 : Int) := IntWalk.i64_in _ (by omega)
      have g3j2 : (j2 : Int) < ((j2 + 1 : Nat) : Int) := by omega
      have g4j2 : (0 : Int) ≤ (j2 : Int) := by omega
      by_cases q1 : x < y
      · rw [decide_eq_true q1] at HB
        go_enter Try.func74, Try.ntmps74
        go_wp2_with fail
        go_ret
        exact ⟨ret_bool (by rw [HB.out]; simp), rfl⟩
      · by_cases q2 : x = y
        · have q3 : (x == y) = true := by simpa using q2
          rw [decide_eq_false q1, q3] at HB
          clear q2
          go_enter Try.func74, Try.ntmps74
          go_wp2_with fail
          go_ret
          exact ⟨ret_bool (by rw [HB.out]; simp), rfl⟩
        · have q3 : (x == y) = false := by simpa using q2
          rw [decide_eq_false q1, q3] at HB
          clear q2
          go_enter Try.func74, Try.ntmps74
          go_wp2_with fail
          go_ret
          exact ⟨ret_bool (by rw [HB.out]; simp), rfl⟩

set_option maxRecDepth 100000 in
set_option maxHeartbeats 4000000 in
theorem sMayP_any (A : Option Addr) (n c : Nat) (L : List (List En)) (ld tm : Int) (xn vn : Nat) (w : World) (hr : GvAt w w.heap.size A L) (hn : n = L.length) (hs : n ≤ 5) (hsm : SmallGv L) (hx : xn < L.length) (hv : vn < 32) :
    Calls Try.prog 64 #[.agg #[.slice A n c, .int .i64 ld, .int .i64 tm], .int .i64 (xn : Int), .int .i64 (vn : Int)] w fun e w' => e = .returned (.bool (decide (mayP L xn vn))) ∧ Below w.heap.size w w' := by
  have HR := Lib.hid hr; clear hr
  have HN := Lib.hid hn; clear hn
  have HSM := Lib.hid hsm; clear hsm
  have hx1 : (xn : Int) < (n : Int) := by have := HN.out; omega
  have hx2 : (0 : Int) ≤ (xn : Int) := by omega
  have HBADF := Lib.hid (show ∀ k (hk : k < L.length), vn.testBit k = true → isBeh L[xn] L[k] → decide (mayP L xn vn) = false from fun k hk h1 h2 => by
    simp only [decide_eq_false_iff_not]
    exact fun q => by
      have h3 := q.2.2 k hk h1
      rw [getD_nat hx] at h3
      exact h3 h2)
  go_enter Try.func64, Try.ntmps64
  go_wp2_with fail
  go_loopw [7, 8] (fun q i wr => ∃ k : Nat, i = .int .i64 (k : Int) ∧ q = .int .i64 (cntV vn k : Int) ∧ k ≤ n ∧ (∀ y (h : y < L.length), y < k → vn.testBit y = true → ¬ isBeh L[xn] L[y]) ∧ BoxG w A n c ld tm wr) (fun _ i _ => n - (intOf i).toNat)
  case atStart => exact ⟨0, rfl, rfl, by omega, fun y h h2 => by omega, BoxG.start⟩
  case round =>
    obtain ⟨k, rfl, rfl, hk, hu, hx9⟩ := hrel
    have HU := Lib.hid hu; clear hu
    have HX := Lib.hid hx9; clear hx9
    have x0 := HX.out.c0
    have x1 := HX.out.c1
    have x2 := HX.out.c2
    have hbs := HX.out.sz
    have hck := cntV_le vn k
    by_cases hlt : k < n
    · have hkl : k < L.length := by have := HN.out; omega
      obtain ⟨b, off, A', c', hA, hbw, e0, hrow⟩ := (HR.out.below HX.out.hb).at_ hkl
      obtain ⟨b2, off2, A2, c2, hA2, hbw2, e1, hrow2⟩ := (HR.out.below HX.out.hb).at_ hx
      have HBT := Lib.hid (fun W => bitS_any vn k W (by omega) (by omega))
      have HC := Lib.hid (fun q => sBeh_any A2 A' L[xn].length L[k].length c2 c' L[xn] L[k] (wr.drewN q) ((hrow2.mono HX.out.hb.size).below (below_drewN _ _)) ((hrow.mono HX.out.hb.size).below (below_drewN _ _)) rfl rfl (HSM.out _ (List.getElem_mem hx)) (HSM.out _ (List.getElem_mem hkl)))
      have HNX := Lib.hid (fun (hq : vn.testBit k = true → ¬ isBeh L[xn] L[k]) => (show ∀ y (h : y < L.length), y < k + 1 → vn.testBit y = true → ¬ isBeh L[xn] L[y] from fun y h h2 => by
        rcases Nat.lt_or_ge y k with q | q
        · exact HU.out y h q
        · obtain rfl : y = k := by omega
          exact hq))
      have HBAD := Lib.hid (HBADF.out k hkl)
      have HCV := Lib.hid (show cntV vn (k + 1) = cntV vn k + bitN vn k from rfl)
      rw [hA] at hA2
      injection hA2 with hA2
      injection hA2 with h1 h2
      subst h1 h2
      subst hA
      have hi1 : (k : Int) < (n : Int) := by omega
      have hi4 : (0 : Int) ≤ (k : Int) := by omega
      have hbw3 : b < wr.heap.size := Nat.lt_of_lt_of_le hbw HX.out.hb.size
      clear hrow hrow2 hbw2
      obtain ⟨m, hm⟩ : ∃ m, L[k].length = m := ⟨_, rfl⟩
      obtain ⟨m2, hm2⟩ : ∃ m, L[xn].length = m := ⟨_, rfl⟩
      rw [hm, hm2] at HC
      rw [hm] at e0
      rw [hm2] at e1
      clear hm hm2
      generalize hLx : L[xn] = lx at *
      generalize hLk : L[k] = lk at *
      clear hLk
      rcases bitN_01 vn k with hk0 | hk1
      · rw [hk0] at HBT HCV
        have HF := Lib.hid (HNX.out (fun q => by unfold bitN at hk0; rw [q] at hk0; simp at hk0))
        clear hk0 HC
        go_wp2_with fail
        refine (HBT.out _).mono ?_
        rintro e w6 ⟨rfl, hw6⟩
        obtain rfl := hw6.symm
        go_wp2_with fail
        go_roundw
        case rel => exact ⟨k + 1, by go_num, by rw [HCV.out]; simp, by omega, HF.out, HX.out⟩
        case measure => simp [intOf]; omega
      · rw [hk1] at HBT HCV
        have hbt : vn.testBit k = true := by
          unfold bitN at hk1
          split at hk1
          · assumption
          · omega
        by_cases hb : isBeh lx lk
        · rw [decide_eq_true hb] at HC
          have HF := Lib.hid (HBAD.out hbt hb)
          clear hb hk1 hbt
          go_wp2_with fail
          refine (HBT.out _).mono ?_
          rintro e w6 ⟨rfl, hw6⟩
          obtain rfl := hw6.symm
          go_wp2_with fail
          go_quiet (exact Calls.quiet_of_same (HC.out _))
          go_wp2_with fail
          go_ret
          exact ⟨ret_bool HF.out.symm, (HX.out.keep (below_drewN _ _)).hb⟩
        · rw [decide_eq_false hb] at HC
          have HF := Lib.hid (HNX.out (fun _ => hb))
          clear hb hk1 hbt
          go_wp2_with fail
          refine (HBT.out _).mono ?_
          rintro e w6 ⟨rfl, hw6⟩
          obtain rfl := hw6.symm
          go_wp2_with fail
          go_quiet (exact Calls.quiet_of_same (HC.out _))
          go_wp2_with fail
          go_roundw
          case rel => exact ⟨k + 1, by go_num, by rw [HCV.out]; go_num, by omega, HF.out, HX.out.keep (below_drewN _ _)⟩
          case measure => simp [intOf]; omega
    · obtain rfl : k = n := by omega
      have HBT := Lib.hid (fun W => bitS_any vn xn W (by omega) (by omega))
      have HP := Lib.hid (show decide (mayP L xn vn) = (((bitN vn xn : Int) == 1) && decide ((k : Int) < 2 * (cntV vn k : Int))) by
        have h1 := HN.out
        have h2 : ∀ y (h : y < L.length), vn.testBit y = true → ¬ isBeh L[xn] L[y] := fun y h => HU.out y h (by rw [h1]; exact h)
        rw [Bool.eq_iff_iff, decide_eq_true_iff]
        simp only [Bool.and_eq_true, decide_eq_true_eq, beq_iff_eq]
        have hc : cntV vn L.length = cntV vn k := by rw [← h1]
        unfold mayP
        rw [getD_nat hx]
        constructor
        · rintro ⟨a, b, _⟩
          rw [hc] at b
          exact ⟨by unfold bitN; rw [a]; rfl, by omega⟩
        · rintro ⟨a, b⟩
          refine ⟨?_, by rw [hc]; omega, h2⟩
          unfold bitN at a
          split at a
          · assumption
          · simp at a)
      have hw9 : IntKind.i64.wrap (2 * (cntV vn k : Int)) = 2 * (cntV vn k : Int) := IntWalk.i64_in _ (by omega)
      rcases bitN_01 vn xn with hk0 | hk1
      · rw [hk0] at HBT HP
        clear hk0
        go_wp2_with fail
        refine (HBT.out _).mono ?_
        rintro e w6 ⟨rfl, hw6⟩
        obtain rfl := hw6.symm
        go_wp2_with fail
        go_ret
        exact ⟨ret_bool (by rw [HP.out]; rfl), HX.out.hb⟩
      · rw [hk1] at HBT HP
        clear hk1
        go_wp2_with fail
        refine (HBT.out _).mono ?_
        rintro e w6 ⟨rfl, hw6⟩
        obtain rfl := hw6.symm
        go_wp2_with fail
        go_ret
        exact ⟨ret_bool (by rw [HP.out]; simp), HX.out.hb⟩

set_option maxRecDepth 100000 in
set_option maxHeartbeats 4000000 in
theorem sMay_any (A : Option Addr) (n c : Nat) (L : List (List En)) (ld tm x v : Int) (w : World) (hr : GvAt w w.heap.size A L) (hn : n = L.length) (hs : n ≤ 1048576) (hsm : SmallGv L) :
    Calls Try.prog 31 #[.agg #[.slice A n c, .int .i64 ld, .int .i64 tm], .int .i64 x, .int .i64 v] w fun e w' => e = .returned (.bool (decide (mayL L ld tm x v))) ∧ Below w.heap.size w w' := by
  have HB0 := Lib.hid (fun o => (Below.refl w.heap.size w).alloc (Nat.le_refl _) o)
  have HV := Lib.hid (fun o => sGrp_any A n c L ld tm (w.alloc o) ((hr.below (HB0.out o)).mono (HB0.out o).size) hn hs hsm)
  by_cases g : okG L ld tm
  · rw [decide_eq_true g] at HV
    have hn5 : n ≤ 5 := by have := g.1.2; omega
    have hn1 : 1 ≤ n := by have := g.1.1; omega
    have hpow : 2 ^ n ≤ 32 := Nat.pow_le_pow_right (by omega) hn5
    have hpow0 : 0 < 2 ^ n := Nat.two_pow_pos n
    by_cases g1 : 0 ≤ x ∧ x ≤ (n : Int) - 1
    · have HP := Lib.hid (fun w => inRg_any (n := x) (lo := 0) (hi := (n : Int) - 1) (b := true) (by simpa using g1) w)
      have HPW := Lib.hid (fun w => pow_any n _ w (by omega) rfl)
      by_cases g2 : 0 ≤ v ∧ v ≤ ((2 ^ n : Nat) : Int) - 1
      · have HQ := Lib.hid (fun w => inRg_any (n := v) (lo := 0) (hi := ((2 ^ n : Nat) : Int) - 1) (b := true) (by simp only [Bool.and_eq_true, decide_eq_true_eq]; exact g2) w)
        obtain ⟨vn, rfl⟩ : ∃ k : Nat, v = (k : Int) := ⟨v.toNat, by omega⟩
        obtain ⟨xn, rfl⟩ : ∃ k : Nat, x = (k : Int) := ⟨x.toNat, by omega⟩
        have HF := Lib.hid (show decide (mayL L ld tm (xn : Int) (vn : Int)) = decide (mayP L xn vn) by
          rw [decide_eq_decide]
          unfold mayL
          simp only [Int.toNat_natCast]
          exact ⟨fun q => q.2.2.2, fun q => ⟨g, ⟨by omega, by rw [← hn]; omega⟩, ⟨by omega, by rw [← hn]; omega⟩, q⟩⟩)
        have HM := Lib.hid (fun W (hb : Below w.heap.size w W) => sMayP_any A n c L ld tm xn vn W ((hr.below hb).mono hb.size) hn hn5 hsm (by omega) (by omega))
        generalize 2 ^ n = pn at *
        have hp64 : ((pn : Int) - 1) ≤ 31 := by omega
        clear hr hn hsm g g1 g2
        go_enter Try.func31, Try.ntmps31
        go_wp2_with fail
        refine (HV.out _).mono ?_
        rintro e w2 ⟨rfl, hb2⟩
        have HX2 := Lib.hid (BoxG.start.keep hb2); clear hb2
        have x0 := HX2.out.c0
        have x1 := HX2.out.c1
        have x2 := HX2.out.c2
        go_wp2_with fail
        refine (HP.out _).mono ?_
        rintro e w3 ⟨rfl, hw3⟩
        obtain rfl := hw3.symm
        go_wp2_with fail
        refine (HPW.out _).mono ?_
        rintro e w3 ⟨rfl, hw3⟩
        obtain rfl := hw3.symm
        go_wp2_with fail
        refine (HQ.out _).mono ?_
        rintro e w3 ⟨rfl, hw3⟩
        obtain rfl := hw3.symm
        go_wp2_with fail
        refine (HM.out _ HX2.out.hb).mono ?_
        rintro e w5 ⟨rfl, hb5⟩
        have HX5 := Lib.hid (HX2.out.keep hb5); clear hb5
        go_wp2_with fail
        go_ret
        exact ⟨ret_bool (by rw [HF.out]), HX5.out.hb⟩
      · have HQ := Lib.hid (fun w => inRg_any (n := v) (lo := 0) (hi := ((2 ^ n : Nat) : Int) - 1) (b := false) (by
          rw [Bool.eq_false_iff]; simp only [ne_eq, Bool.and_eq_true, decide_eq_true_eq]; exact g2) w)
        have HF := Lib.hid (show decide (mayL L ld tm x v) = false by
          simp only [decide_eq_false_iff_not]
          exact fun q => g2 (by have h1 := q.2.2.1; rw [← hn] at h1; omega))
        generalize 2 ^ n = pn at *
        have hp64 : ((pn : Int) - 1) ≤ 31 := by omega
        clear hr hn hsm g g1 g2
        go_enter Try.func31, Try.ntmps31
        go_wp2_with fail
        refine (HV.out _).mono ?_
        rintro e w2 ⟨rfl, hb2⟩
        have HX2 := Lib.hid (BoxG.start.keep hb2); clear hb2
        have x0 := HX2.out.c0
        have x1 := HX2.out.c1
        have x2 := HX2.out.c2
        go_wp2_with fail
        refine (HP.out _).mono ?_
        rintro e w3 ⟨rfl, hw3⟩
        obtain rfl := hw3.symm
        go_wp2_with fail
        refine (HPW.out _).mono ?_
        rintro e w3 ⟨rfl, hw3⟩
        obtain rfl := hw3.symm
        go_wp2_with fail
        refine (HQ.out _).mono ?_
        rintro e w3 ⟨rfl, hw3⟩
        obtain rfl := hw3.symm
        go_wp2_with fail
        go_ret
        exact ⟨ret_bool HF.out.symm, HX2.out.hb⟩
    · have HP := Lib.hid (fun w => inRg_any (n := x) (lo := 0) (hi := (n : Int) - 1) (b := false) (by
        rw [Bool.eq_false_iff]; simp only [ne_eq, Bool.and_eq_true, decide_eq_true_eq]; exact g1) w)
      have HF := Lib.hid (show decide (mayL L ld tm x v) = false by
        simp only [decide_eq_false_iff_not]
        exact fun q => g1 (by have h1 := q.2.1; rw [← hn] at h1; omega))
      clear hr hn hsm g g1
      go_enter Try.func31, Try.ntmps31
      go_wp2_with fail
      refine (HV.out _).mono ?_
      rintro e w2 ⟨rfl, hb2⟩
      have HX2 := Lib.hid (BoxG.start.keep hb2); clear hb2
      have x0 := HX2.out.c0
      have x1 := HX2.out.c1
      have x2 := HX2.out.c2
      go_wp2_with fail
      refine (HP.out _).mono ?_
      rintro e w3 ⟨rfl, hw3⟩
      obtain rfl := hw3.symm
      go_wp2_with fail
      go_ret
      exact ⟨ret_bool HF.out.symm, HX2.out.hb⟩
  · rw [decide_eq_false g] at HV
    have HF := Lib.hid (show decide (mayL L ld tm x v) = false by
      simp only [decide_eq_false_iff_not]; exact fun q => g q.1)
    clear hr hn hsm g
    go_enter Try.func31, Try.ntmps31
    go_wp2_with fail
    refine (HV.out _).mono ?_
    rintro e w2 ⟨rfl, hb2⟩
    have HX2 := Lib.hid (BoxG.start.keep hb2); clear hb2
    go_wp2_with fail
    go_ret
    exact ⟨ret_bool HF.out.symm, HX2.out.hb⟩
end Go.Proofs.Ytgoonccjdoajnab
