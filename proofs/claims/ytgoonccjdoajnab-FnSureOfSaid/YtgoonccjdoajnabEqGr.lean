/- The laws' helpers equalEntries, equalLogs, equalGroup at groups that are the same; power and bit of the laws. Conditions: the logs lie in memory; they are few. -/
import Derived.Test.YtgoonccjdoajnabGrB
import Derived.Test.YtgoonccjdoajnabGrK
set_option linter.unusedVariables false
set_option linter.unusedSimpArgs false
namespace Go.Proofs.Ytgoonccjdoajnab
open Go.RowKit Go.ChangeShapes Go.WideShapes

set_option maxHeartbeats 1000000 in
set_option maxRecDepth 100000 in
theorem equalEntries_same (A1 A2 : Option Addr) (n c1 c2 : Nat) (l : List En) (w : World) (h1 : RowAt w w.heap.size A1 (ensC l)) (h2 : RowAt w w.heap.size A2 (ensC l)) (hn : n = l.length) (hs : n ≤ 1048576) :
    Calls Try.prog 24 #[.slice A1 n c1, .slice A2 n c2] w fun e w' => e = .returned (.bool true) ∧ Below w.heap.size w w' := by
  have H1 := Lib.hid h1; clear h1
  have H2 := Lib.hid h2; clear h2
  have HN := Lib.hid hn; clear hn
  go_enter Try.func24, Try.ntmps24
  go_wp2
  go_loopw [5] (fun i wr => ∃ k : Nat, k ≤ n ∧ i = .int .i64 k ∧ Below w.heap.size w wr) (fun i _ => n - (intOf i).toNat)
  case atStart => exact ⟨0, by omega, rfl, Below.refl _ _⟩
  case round =>
    obtain ⟨k, hk, rfl, hb⟩ := hrel
    have HB := Lib.hid hb; clear hb
    by_cases hlt : k < n
    · have hk1 : k < l.length := by have := HN.out; omega
      obtain ⟨b, off, rfl, hbw, e0, e1⟩ := ens_at (H1.out.below HB.out) hk1
      obtain ⟨b2, off2, rfl, hbw2, d0, d1⟩ := ens_at (H2.out.below HB.out) hk1
      generalize hx0 : l[k].1 = x0 at *
      generalize hx1 : l[k].2 = x1 at *
      clear hx0 hx1
      have q0 : (x0 == x0) = true := by simp
      have q1 : (x1 == x1) = true := by simp
      go_wp2_with fail
      go_still_tail 8, (by kernel_rfl)
      go_wp2_with fail
      go_roundw
      case rel => exact ⟨k + 1, by omega, by go_num, HB.out.trans (below_drewN _ _)⟩
      case measure => simp [intOf]; omega
    · obtain rfl : k = n := by omega
      go_wp2_with fail
      go_ret
      exact ⟨rfl, HB.out⟩
set_option maxHeartbeats 1000000 in
set_option maxRecDepth 100000 in
theorem equalLogs_same (A1 A2 : Option Addr) (n c1 c2 : Nat) (L : List (List En)) (w : World) (h1 : GvAt w w.heap.size A1 L) (h2 : GvAt w w.heap.size A2 L) (hn : n = L.length) (hs : n ≤ 1048576) (hsm : SmallGv L) :
    Calls Try.prog 36 #[.slice A1 n c1, .slice A2 n c2] w fun e w' => e = .returned (.bool true) ∧ Below w.heap.size w w' := by
  have H1 := Lib.hid h1; clear h1
  have H2 := Lib.hid h2; clear h2
  have HN := Lib.hid hn; clear hn
  have HSM := Lib.hid hsm; clear hsm
  go_enter Try.func36, Try.ntmps36
  go_wp2
  go_loopw [5] (fun i wr => ∃ k : Nat, k ≤ n ∧ i = .int .i64 k ∧ Below w.heap.size w wr) (fun i _ => n - (intOf i).toNat)
  case atStart => exact ⟨0, by omega, rfl, Below.refl _ _⟩
  case round =>
    obtain ⟨k, hk, rfl, hb⟩ := hrel
    have HB := Lib.hid hb; clear hb
    by_cases hlt : k < n
    · have hk1 : k < L.length := by have := HN.out; omega
      obtain ⟨b, off, A1', c1', hA1, hbw, e0, hr1⟩ := (H1.out.below HB.out).at_ hk1
      obtain ⟨b2, off2, A2', c2', hA2, hbw2, e1, hr2⟩ := (H2.out.below HB.out).at_ hk1
      subst hA1 hA2
      have hsl := HSM.out L[k] (List.getElem_mem hk1)
      have HE := Lib.hid (equalEntries_same A1' A2' L[k].length c1' c2' L[k] wr.drew ((hr1.mono HB.out.size).keep (fun _ _ => rfl)) ((hr2.mono HB.out.size).keep (fun _ _ => rfl)) rfl hsl)
      have hi1 : (k : Int) < (n : Int) := by omega
      have HBD := Lib.hid (show Below w.heap.size w wr.drew from HB.out.trans (below_drewN _ 1))
      clear hsl hr1 hr2
      generalize L[k].length = q at *
      generalize L[k] = r at *
      go_wp2_with fail
      go_still_tail 8, (by kernel_rfl)
      change wpList _ _ _ _ _ wr.drew
      clear e0 e1
      generalize wr.drew = W at *
      go_wp2_with fail
      refine (HE.out).mono ?_
      rintro e w3 ⟨rfl, hb3⟩
      have HB3 := Lib.hid (HBD.out.trans (hb3.mono HBD.out.size)); clear hb3
      go_wp2_with fail
      go_roundw
      case rel => exact ⟨k + 1, by omega, by go_num, HB3.out⟩
      case measure => simp [intOf]; omega
    · obtain rfl : k = n := by omega
      go_wp2_with fail
      go_ret
      exact ⟨rfl, HB.out⟩
theorem equalGroup_same (A1 A2 : Option Addr) (n c1 c2 : Nat) (L : List (List En)) (ld tm : Int) (w : World) (h1 : GvAt w w.heap.size A1 L) (h2 : GvAt w w.heap.size A2 L) (hn : n = L.length) (hs : n ≤ 1048576) (hsm : SmallGv L) :
    Calls Try.prog 16 #[.agg #[.slice A1 n c1, .int .i64 ld, .int .i64 tm], .agg #[.slice A2 n c2, .int .i64 ld, .int .i64 tm]] w fun e w' => e = .returned (.bool true) ∧ Below w.heap.size w w' := by
  have HB0 := Lib.hid (fun o1 o2 => ((Below.refl w.heap.size w).alloc (Nat.le_refl _) o1).alloc (by simp) o2)
  have HC := Lib.hid (fun W (hb : Below w.heap.size w W) => equalLogs_same A1 A2 n c1 c2 L W ((h1.below hb).mono hb.size) ((h2.below hb).mono hb.size) hn hs hsm)
  clear h1 h2 hn hsm
  have q0 : (ld == ld) = true := by simp
  have q1 : (ld != ld) = false := by simp
  have q2 : (tm == tm) = true := by simp
  have q3 : (tm != tm) = false := by simp
  go_enter Try.func16, Try.ntmps16
  go_wp2_with fail
  refine (HC.out _ (HB0.out _ _)).mono ?_
  rintro e w' ⟨rfl, hb⟩
  have hsz := hb.size
  simp only [World.size_alloc] at hsz
  have c01 : w'.cell? ⟨w.heap.size, 1, none⟩ = some (.int .i64 ld) := (hb.cell (p := ⟨w.heap.size, 1, none⟩) (by simp; omega)).trans (by simp [go_sem])
  have c02 : w'.cell? ⟨w.heap.size, 2, none⟩ = some (.int .i64 tm) := (hb.cell (p := ⟨w.heap.size, 2, none⟩) (by simp; omega)).trans (by simp [go_sem])
  have c11 : w'.cell? ⟨w.heap.size + 1, 1, none⟩ = some (.int .i64 ld) := (hb.cell (p := ⟨w.heap.size + 1, 1, none⟩) (by simp)).trans (by simp [go_sem])
  have c12 : w'.cell? ⟨w.heap.size + 1, 2, none⟩ = some (.int .i64 tm) := (hb.cell (p := ⟨w.heap.size + 1, 2, none⟩) (by simp)).trans (by simp [go_sem])
  have HB := Lib.hid ((HB0.out _ _).trans (hb.mono (HB0.out _ _).size)); clear hb
  go_wp2_with fail
  go_ret
  exact ⟨rfl, HB.out⟩
theorem powL_any (k p : Nat) (w : World) (hk : k ≤ 40) (hp0 : p = 2 ^ k) :
    Calls Try.prog 19 #[.int .i64 (k : Int)] w fun e w' => e = .returned (.int .i64 (p : Int)) ∧ w' = w := by
  have HP := Lib.hid hp0; clear hp0
  go_enter Try.func19, Try.ntmps19
  go_wp2
  go_loop [0, 3] (fun i p => ∃ j : Nat, j ≤ k ∧ i = .int .i64 (j : Int) ∧ p = .int .i64 ((2 ^ (k - j) : Nat) : Int)) (fun i _ => (intOf i).toNat)
  case atStart => exact ⟨k, by omega, rfl, by simp⟩
  case round =>
    obtain ⟨j, hj, rfl, rfl⟩ := hrel
    have hp : (2 ^ (k - j) : Nat) ≤ 2 ^ 40 := Nat.pow_le_pow_right (by omega) (by omega)
    have hp2 : 2 ^ (k - j) ≤ 1099511627776 := hp
    cases j with
    | zero =>
      have e : (2 ^ (k - 0) : Nat) = p := by rw [HP.out]; simp
      rw [e] at hp2
      rw [e]
      clear hp e HP
      go_wp2
      go_ret
      exact ⟨rfl, rfl⟩
    | succ j =>
      have e : (2 ^ (k - j) : Nat) = 2 * 2 ^ (k - (j + 1)) := by
        rw [show k - j = (k - (j + 1)) + 1 by omega, Nat.pow_succ, Nat.mul_comm]
      have HE := Lib.hid e
      clear e hp
      generalize hq : 2 ^ (k - (j + 1)) = q at *
      have hj0 : (0 : Int) < ((j + 1 : Nat) : Int) := by omega
      go_wp2
      go_round
      case rel => exact ⟨j, by omega, by go_num, by rw [HE.out, Int.natCast_mul]; rfl⟩
      case measure => simp [intOf]
theorem bitL_any (x j : Nat) (w : World) (hx : x ≤ 1048576) (hj : j ≤ 40) :
    Calls Try.prog 32 #[.int .i64 (x : Int), .int .i64 (j : Int)] w fun e w' => e = .returned (.int .i64 (bitN x j : Int)) ∧ w' = w := by
  have HP := Lib.hid (powL_any j _ w hj rfl)
  have hp : (2 ^ j : Nat) ≤ 2 ^ 40 := Nat.pow_le_pow_right (by omega) (by omega)
  have hp2 : 2 ^ j ≤ 1099511627776 := hp
  have hp0 : 0 < 2 ^ j := Nat.two_pow_pos j
  have HV := Lib.hid (show (((x / 2 ^ j % 2 : Nat) : Int)) = (bitN x j : Int) by rw [bit_vl])
  clear hp
  generalize (bitN x j : Int) = r at *
  generalize 2 ^ j = q at *
  have hq0 : ¬ ((q : Int) = 0) := by omega
  have d1 : (x : Int).tdiv (q : Int) = ((x / q : Nat) : Int) := by rw [Int.ofNat_tdiv]
  have d2 : ((x / q : Nat) : Int).tmod 2 = ((x / q % 2 : Nat) : Int) := by rw [show (2 : Int) = ((2 : Nat) : Int) from rfl, Int.ofNat_tmod]
  have hle : x / q ≤ x := Nat.div_le_self _ _
  have HZ := Lib.hid (show ((x : Int) / (q : Int)) = ((x / q : Nat) : Int) from (Int.natCast_ediv x q).symm)
  go_enter Try.func32, Try.ntmps32
  go_wp2_with fail
  refine HP.out.mono ?_
  rintro e w2 ⟨rfl, hw2⟩
  obtain rfl := hw2.symm
  go_wp2_with fail
  go_ret
  refine ⟨?_, rfl⟩
  rw [← HV.out]
  simp only [HZ.out]
  generalize x / q = z at *
  rw [show wrap64 (z : Int) = (z : Int) from by unfold wrap64; omega]
  simp only [d2]
  rfl
end Go.Proofs.Ytgoonccjdoajnab
