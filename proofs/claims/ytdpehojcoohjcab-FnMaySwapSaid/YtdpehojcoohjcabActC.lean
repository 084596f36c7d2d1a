/- Contracts of clashes, isWhole and ValidActs of the program, of clash, power, bit and validActs of the model (chapter 8). Conditions: the acts lie in a row; they are few. -/
import Derived.Test.YtdpehojcoohjcabSerM
import Derived.Test.YtdpehojcoohjcabExAct
import Derived.BigRegion
import Derived.Deep.RegionWith
import Derived.BigQuiet
set_option linter.unusedVariables false
set_option linter.unusedSimpArgs false
namespace Go.Proofs.Ytdpehojcoohjcab
open Go.RowKit Go.ChangeShapes Go.WideShapes

theorem retb {a b : Bool} (h : a = b) : Ending.returned (.bool a) = Ending.returned (.bool b) := by rw [h]
theorem iClash_any (x0 x1 : Int) (x2 : Bool) (y0 y1 : Int) (y2 : Bool) (w : World) :
    Calls Try.prog 89 #[.agg #[.int .i64 x0, .int .i64 x1, .bool x2], .agg #[.int .i64 y0, .int .i64 y1, .bool y2]] w fun e w' => e = .returned (.bool (clashB (x0, x1, x2) (y0, y1, y2))) ∧ Below w.heap.size w w' := by
  have HB := Lib.hid (((Below.refl w.heap.size w).alloc (Nat.le_refl _) (.cells #[.int .i64 x0, .int .i64 x1, .bool x2] 47)).alloc (by simp) (.cells #[.int .i64 y0, .int .i64 y1, .bool y2] 47))
  by_cases h0 : x0 = y0
  · subst h0
    go_enter Try.func89, Try.ntmps89
    go_wp2
    go_ret
    exact ⟨retb (by simp [clashB]), HB.out⟩
  · have b0 : (x0 != y0) = true := by simpa using h0
    by_cases h1 : x1 = y1
    · subst h1
      cases x2
      · go_enter Try.func89, Try.ntmps89
        go_wp2
        go_ret
        exact ⟨retb (by simp [clashB, h0]), HB.out⟩
      · go_enter Try.func89, Try.ntmps89
        go_wp2
        go_ret
        exact ⟨retb (by simp [clashB, h0]), HB.out⟩
    · have b1 : (x1 == y1) = false := by simpa using h1
      go_enter Try.func89, Try.ntmps89
      go_wp2
      go_ret
      exact ⟨retb (by simp [clashB, h0, h1]), HB.out⟩
theorem sClash_any (x0 x1 : Int) (x2 : Bool) (y0 y1 : Int) (y2 : Bool) (w : World) :
    Calls Try.prog 90 #[.agg #[.int .i64 x0, .int .i64 x1, .bool x2], .agg #[.int .i64 y0, .int .i64 y1, .bool y2]] w fun e w' => e = .returned (.bool (clashB (x0, x1, x2) (y0, y1, y2))) ∧ Below w.heap.size w w' := by
  have HB := Lib.hid (((Below.refl w.heap.size w).alloc (Nat.le_refl _) (.cells #[.int .i64 x0, .int .i64 x1, .bool x2] 47)).alloc (by simp) (.cells #[.int .i64 y0, .int .i64 y1, .bool y2] 47))
  by_cases h0 : x0 = y0
  · subst h0
    go_enter Try.func90, Try.ntmps90
    go_wp2
    go_ret
    exact ⟨retb (by simp [clashB]), HB.out⟩
  · have b0 : (x0 != y0) = true := by simpa using h0
    by_cases h1 : x1 = y1
    · subst h1
      cases x2
      · go_enter Try.func90, Try.ntmps90
        go_wp2
        go_ret
        exact ⟨retb (by simp [clashB, h0]), HB.out⟩
      · go_enter Try.func90, Try.ntmps90
        go_wp2
        go_ret
        exact ⟨retb (by simp [clashB, h0]), HB.out⟩
    · have b1 : (x1 == y1) = false := by simpa using h1
      go_enter Try.func90, Try.ntmps90
      go_wp2
      go_ret
      exact ⟨retb (by simp [clashB, h0, h1]), HB.out⟩
theorem iWholeA_any (x0 x1 : Int) (x2 : Bool) (w : World) :
    Calls Try.prog 60 #[.agg #[.int .i64 x0, .int .i64 x1, .bool x2]] w fun e w' => e = .returned (.bool (okAc (x0, x1, x2))) ∧ Below w.heap.size w w' := by
  have HB := Lib.hid ((Below.refl w.heap.size w).alloc (Nat.le_refl _) (.cells #[.int .i64 x0, .int .i64 x1, .bool x2] 47))
  by_cases h0 : 0 ≤ x0
  · by_cases h1 : x0 < 4
    · by_cases h2 : 0 ≤ x1
      · by_cases h3 : x1 < 3
        · go_enter Try.func60, Try.ntmps60
          go_wp2
          go_ret
          exact ⟨retb (by simp [okAc]; omega), HB.out⟩
        · go_enter Try.func60, Try.ntmps60
          go_wp2
          go_ret
          exact ⟨retb (by simp [okAc]; omega), HB.out⟩
      · go_enter Try.func60, Try.ntmps60
        go_wp2
        go_ret
        exact ⟨retb (by simp [okAc]; omega), HB.out⟩
    · go_enter Try.func60, Try.ntmps60
      go_wp2
      go_ret
      exact ⟨retb (by simp [okAc]; omega), HB.out⟩
  · go_enter Try.func60, Try.ntmps60
    go_wp2
    go_ret
    exact ⟨retb (by simp [okAc]; omega), HB.out⟩
theorem actsB_long {l : List AcT} (h : 10 < l.length) : actsB l = false := by
  unfold actsB
  rw [decide_eq_false (by omega), Bool.false_and]
theorem actsB_no {l : List AcT} {k : Nat} (h : k < l.length) (hb : okAc l[k] = false) : actsB l = false := by
  unfold actsB
  have : l.all okAc = false := List.all_eq_false.2 ⟨l[k], List.getElem_mem h, by simp [hb]⟩
  rw [this, Bool.and_false]
theorem actsB_yes {l : List AcT} (h : l.length ≤ 10) (hu : (l.take l.length).all okAc = true) : actsB l = true := by
  rw [List.take_length] at hu
  unfold actsB
  rw [hu, decide_eq_true h]; rfl
theorem actsB_ok {l : List AcT} (h : actsB l = true) : l.length ≤ 10 ∧ ∀ x ∈ l, okAc x = true := by
  unfold actsB at h
  simp only [Bool.and_eq_true, List.all_eq_true, decide_eq_true_eq] at h
  exact h
theorem upA_succ {l : List AcT} {k : Nat} (h : k < l.length) (hu : (l.take k).all okAc = true) (hk : okAc l[k] = true) : (l.take (k + 1)).all okAc = true := by
  rw [List.take_succ_eq_append_getElem h, List.all_append, hu]
  simp [hk]
set_option maxRecDepth 100000 in
set_option maxHeartbeats 2000000 in
theorem iActs_any (A : Option Addr) (n c : Nat) (l : List Ac) (w : World) (hr : RowAt w w.heap.size A (acsC l)) (hn : n = l.length) (hs : n ≤ 1048576) :
    Calls Try.prog 29 #[.slice A n c] w fun e w' => e = .returned (.bool (actsB l)) ∧ Below w.heap.size w w' := by
  have HR := Lib.hid hr; clear hr
  have HN := Lib.hid hn; clear hn
  by_cases hlong : 10 < n
  · have HF := Lib.hid (show actsB l = false from actsB_long (by rw [← HN.out]; exact hlong))
    go_enter Try.func29, Try.ntmps29
    go_wp2_with fail
    go_ret
    exact ⟨retb HF.out.symm, Below.refl _ _⟩
  go_enter Try.func29, Try.ntmps29
  go_wp2_with fail
  go_loopw [10] (fun i wr => ∃ k : Nat, i = .int .i64 k ∧ k ≤ n ∧ (l.take k).all okAc = true ∧ Below w.heap.size w wr) (fun i _ => n - (intOf i).toNat)
  case atStart => exact ⟨0, rfl, by omega, rfl, Below.refl _ _⟩
  case round =>
    obtain ⟨k, rfl, hk, hu, hb⟩ := hrel
    have HU := Lib.hid hu; clear hu
    have HB := Lib.hid hb; clear hb
    by_cases hlt : k < n
    · have hkl : k < l.length := by have := HN.out; omega
      obtain ⟨b, off, hA, hbw, e0, e1, e2⟩ := acs_at (HR.out.below HB.out) hkl
      subst hA
      have HK := Lib.hid (fun w => iWholeA_any l[k].1 l[k].2.1 l[k].2.2 w)
      have HNO := Lib.hid (fun (h : okAc l[k] = false) => (show actsB l = false from actsB_no hkl h))
      have HYES := Lib.hid (fun (h : okAc l[k] = true) => upA_succ hkl HU.out h)
      rw [show l[k] = (l[k].1, l[k].2.1, l[k].2.2) from rfl] at HNO HYES
      have hbs : b < wr.heap.size := Nat.lt_of_lt_of_le hbw HB.out.size
      generalize l[k].1 = x0 at *
      generalize l[k].2.1 = x1 at *
      generalize l[k].2.2 = x2 at *
      generalize okAc (x0, x1, x2) = r at *
      have HB2 := Lib.hid (HB.out.alloc HB.out.size (.cells #[.int .i64 x0, .int .i64 x1, .bool x2] 47))
      go_wp2_with fail
      refine (HK.out _).mono ?_
      rintro e w3 ⟨rfl, hb3⟩
      have HB3 := Lib.hid (HB2.out.trans (hb3.mono HB2.out.size)); clear hb3
      cases r
      · go_wp2_with fail
        go_ret
        exact ⟨retb (HNO.out (by simp)).symm, HB3.out⟩
      · go_wp2_with fail
        go_roundw
        case rel => exact ⟨k + 1, by go_num, by omega, HYES.out (by simp), HB3.out⟩
        case measure => simp [intOf]; omega
    · obtain rfl : k = n := by omega
      have HF := Lib.hid (show actsB l = true from actsB_yes (by have := HN.out; omega) (by rw [← HN.out]; exact HU.out))
      go_wp2_with fail
      go_ret
      exact ⟨retb HF.out.symm, HB.out⟩
set_option maxRecDepth 100000 in
set_option maxHeartbeats 2000000 in
theorem sActs_any (A : Option Addr) (n c : Nat) (l : List Ac) (w : World) (hr : RowAt w w.heap.size A (acsC l)) (hn : n = l.length) (hs : n ≤ 1048576) :
    Calls Try.prog 37 #[.slice A n c] w fun e w' => e = .returned (.bool (actsB l)) ∧ Below w.heap.size w w' := by
  have HR := Lib.hid hr; clear hr
  have HN := Lib.hid hn; clear hn
  go_enter Try.func37, Try.ntmps37
  go_wp2_with fail
  go_loopw [3] (fun i wr => ∃ k : Nat, i = .int .i64 k ∧ k ≤ n ∧ (l.take k).all okAc = true ∧ Below w.heap.size w wr) (fun i _ => n - (intOf i).toNat)
  case atStart => exact ⟨0, rfl, by omega, rfl, Below.refl _ _⟩
  case round =>
    obtain ⟨k, rfl, hk, hu, hb⟩ := hrel
    have HU := Lib.hid hu; clear hu
    have HB := Lib.hid hb; clear hb
    by_cases hlt : k < n
    · have hkl : k < l.length := by have := HN.out; omega
      obtain ⟨b, off, hA, hbw, e0, e1, e2⟩ := acs_at (HR.out.below HB.out) hkl
      subst hA
      have HNO := Lib.hid (fun (h : okAc l[k] = false) => (show actsB l = false from actsB_no hkl h))
      have HYES := Lib.hid (fun (h : okAc l[k] = true) => upA_succ hkl HU.out h)
      rw [show l[k] = (l[k].1, l[k].2.1, l[k].2.2) from rfl] at HNO HYES
      have hbs : b < wr.heap.size := Nat.lt_of_lt_of_le hbw HB.out.size
      generalize l[k].1 = x0 at *
      generalize l[k].2.1 = x1 at *
      generalize l[k].2.2 = x2 at *
      have H0 := Lib.hid (fun w => inRange_any x0 0 3 w)
      have H1 := Lib.hid (fun w => inRange_any x1 0 2 w)
      by_cases q0 : 0 ≤ x0 ∧ x0 ≤ 3
      · rw [show (decide (0 ≤ x0) && decide (x0 ≤ 3)) = true by simp [q0]] at H0
        by_cases q1 : 0 ≤ x1 ∧ x1 ≤ 2
        · rw [show (decide (0 ≤ x1) && decide (x1 ≤ 2)) = true by simp [q1]] at H1
          have HR2 := Lib.hid (show okAc (x0, x1, x2) = true by simp [okAc, q0, q1])
          clear q0 q1
          go_wp2_with fail
          refine (H0.out _).mono ?_
          rintro e w2 ⟨rfl, hw2⟩
          obtain rfl := hw2.symm
          go_wp2_with fail
          refine (H1.out _).mono ?_
          rintro e w2 ⟨rfl, hw2⟩
          obtain rfl := hw2.symm
          go_wp2_with fail
          go_roundw
          case rel => exact ⟨k + 1, by go_num, by omega, HYES.out HR2.out, by first | exact HB.out | exact HB.out.trans (below_drewN _ _)⟩
          case measure => simp [intOf]; omega
        · rw [show (decide (0 ≤ x1) && decide (x1 ≤ 2)) = false by simp; omega] at H1
          have HR2 := Lib.hid (show okAc (x0, x1, x2) = false by simp [okAc]; omega)
          clear q0 q1
          go_wp2_with fail
          refine (H0.out _).mono ?_
          rintro e w2 ⟨rfl, hw2⟩
          obtain rfl := hw2.symm
          go_wp2_with fail
          refine (H1.out _).mono ?_
          rintro e w2 ⟨rfl, hw2⟩
          obtain rfl := hw2.symm
          go_wp2_with fail
          go_ret
          exact ⟨retb (HNO.out HR2.out).symm, by first | exact HB.out | exact HB.out.trans (below_drewN _ _)⟩
      · rw [show (decide (0 ≤ x0) && decide (x0 ≤ 3)) = false by simp; omega] at H0
        have HR2 := Lib.hid (show okAc (x0, x1, x2) = false by simp [okAc]; omega)
        clear q0
        go_wp2_with fail
        refine (H0.out _).mono ?_
        rintro e w2 ⟨rfl, hw2⟩
        obtain rfl := hw2.symm
        go_wp2_with fail
        go_ret
        exact ⟨retb (HNO.out HR2.out).symm, by first | exact HB.out | exact HB.out.trans (below_drewN _ _)⟩
    · obtain rfl : k = n := by omega
      by_cases hlong : 10 < k
      · have HF := Lib.hid (show actsB l = false from actsB_long (by rw [← HN.out]; exact hlong))
        go_wp2_with fail
        go_ret
        exact ⟨retb (by rw [HF.out]; simp; omega), HB.out⟩
      · have HF := Lib.hid (show actsB l = true from actsB_yes (by have := HN.out; omega) (by rw [← HN.out]; exact HU.out))
        go_wp2_with fail
        go_ret
        exact ⟨retb (by rw [HF.out]; simp; omega), HB.out⟩
set_option maxHeartbeats 1000000 in
theorem sPower_any (k p : Nat) (w : World) (hk : k ≤ 40) (hp0 : p = 2 ^ k) :
    Calls Try.prog 74 #[.int .i64 (k : Int)] w fun e w' => e = .returned (.int .i64 (p : Int)) ∧ w' = w := by
  have HP := Lib.hid hp0; clear hp0
  go_enter Try.func74, Try.ntmps74
  go_wp2
  go_loop [0, 3] (fun i p => ∃ j : Nat, j ≤ k ∧ i = .int .i64 (j : Int) ∧ p = .int .i64 ((2 ^ (k - j) : Nat) : Int)) (fun i _ => (intOf i).toNat)
  case atStart => exact ⟨k, by omega, rfl, by simp⟩
  case round =>
    obtain ⟨j, hj, rfl, rfl⟩ := hrel
    have hp : (2 ^ (k - j) : Nat) ≤ 2 ^ 40 := Nat.pow_le_pow_right (by omega) (by omega)
    have hp2 : 2 ^ (k - j) ≤ 1099511627776 := hp
    cases j with
    | zero =>
      have e : (2 ^ (k - 0) : Nat) = p := by rw [HP.out]; simp
      rw [e] at hp2
      rw [e]
      clear hp e HP
      go_wp2
      go_ret
      exact ⟨rfl, rfl⟩
    | succ j =>
      have e : (2 ^ (k - j) : Nat) = 2 * 2 ^ (k - (j + 1)) := by
        rw [show k - j = (k - (j + 1)) + 1 by omega, Nat.pow_succ, Nat.mul_comm]
      have HE := Lib.hid e
      clear e hp
      generalize hq : 2 ^ (k - (j + 1)) = q at *
      have hj0 : (0 : Int) < ((j + 1 : Nat) : Int) := by omega
      go_wp2
      go_round
      case rel => exact ⟨j, by omega, by go_num, by rw [HE.out, Int.natCast_mul]; rfl⟩
      case measure => simp [intOf]
theorem bit_val (x j : Nat) : x / 2 ^ j % 2 = if x.testBit j then 1 else 0 := by
  rw [Nat.testBit_eq_decide_div_mod_eq]
  have := Nat.mod_two_eq_zero_or_one (x / 2 ^ j)
  rcases this with h | h <;> simp [h]
theorem sBit_any (x j : Nat) (w : World) (hx : x ≤ 1048576) (hj : j ≤ 40) :
    Calls Try.prog 75 #[.int .i64 (x : Int), .int .i64 (j : Int)] w fun e w' => e = .returned (.int .i64 (if x.testBit j then 1 else 0)) ∧ w' = w := by
  have HP := Lib.hid (sPower_any j _ w hj rfl)
  have hp : (2 ^ j : Nat) ≤ 2 ^ 40 := Nat.pow_le_pow_right (by omega) (by omega)
  have hp2 : 2 ^ j ≤ 1099511627776 := hp
  have hp0 : 0 < 2 ^ j := Nat.two_pow_pos j
  have HV := Lib.hid (show (((x / 2 ^ j % 2 : Nat) : Int)) = if x.testBit j then 1 else 0 by rw [bit_val]; split <;> rfl)
  clear hp
  generalize (if x.testBit j then (1 : Int) else 0) = r at *
  generalize 2 ^ j = q at *
  have hq0 : ¬ ((q : Int) = 0) := by omega
  have d1 : (x : Int).tdiv (q : Int) = ((x / q : Nat) : Int) := by rw [Int.ofNat_tdiv]
  have d2 : ((x / q : Nat) : Int).tmod 2 = ((x / q % 2 : Nat) : Int) := by rw [show (2 : Int) = ((2 : Nat) : Int) from rfl, Int.ofNat_tmod]
  have hle : x / q ≤ x := Nat.div_le_self _ _
  have HZ := Lib.hid (show ((x : Int) / (q : Int)) = ((x / q : Nat) : Int) from (Int.natCast_ediv x q).symm)
  go_enter Try.func75, Try.ntmps75
  go_wp2_with fail
  refine HP.out.mono ?_
  rintro e w2 ⟨rfl, hw2⟩
  obtain rfl := hw2.symm
  go_wp2_with fail
  go_ret
  refine ⟨?_, rfl⟩
  rw [← HV.out]
  simp only [HZ.out]
  generalize x / q = z at *
  rw [show wrap64 (z : Int) = (z : Int) from by unfold wrap64; omega]
  simp only [d2]
  rfl
end Go.Proofs.Ytdpehojcoohjcab
