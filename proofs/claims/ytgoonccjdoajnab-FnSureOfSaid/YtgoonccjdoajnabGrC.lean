/- Contracts of the small functions on logs (chapter 10), in the program and in the model: isId, isPeer, isMost, lastTerm, inCommon, isLog, isBehind; shared, validEntries, behind. Conditions: the logs lie in memory; they are few. -/
import Derived.Test.YtgoonccjdoajnabGrM
import Derived.Test.YtgoonccjdoajnabGr
import Derived.Deep.QuietTactic
import Derived.BigQuiet
import Derived.Outline
set_option linter.unusedVariables false
set_option linter.unusedSimpArgs false
namespace Go.Proofs.Ytgoonccjdoajnab
open Go.RowKit Go.ChangeShapes Go.WideShapes

theorem drew_more {w wr : World} (h : ∃ q, wr = w.drewN q) (n : Nat) : ∃ q, wr.drewN n = w.drewN q := by
  obtain ⟨q, rfl⟩ := h
  exact ⟨q + n, by rw [World.drewN_drewN]⟩
theorem drew_below {w wr : World} (B : Nat) (h : ∃ q, wr = w.drewN q) : Below B w wr := by
  obtain ⟨q, rfl⟩ := h
  exact below_drewN _ _
/-- two entries are the same just if their parts are -/
theorem en_eql (x0 x1 y0 y1 : Int) (w : World) :
    (binOp .eql 42 (.agg #[.int .i64 x0, .int .i64 x1]) (.agg #[.int .i64 y0, .int .i64 y1])).run Try.prog w = .ok (.bool (x0 == y0 && x1 == y1)) w := by
  have hS : Try.prog.underlying 42 = some (.struct (Try.prog.fieldsOf 42)) := by kernel_rfl
  have hp : Try.prog.stoodInHeld 42 = false := by kernel_rfl
  have u3 := Try.underlying3
  rw [run_eql_struct, show (10000 : Nat) = 9999 + 1 from rfl, run_equalIn_agg w 9999 42 _ _ hS hp]
  simp only [Program.fieldsOf, Try.underlying42]
  go_simp
  cases h3 : (x0 == y0) <;> cases h4 : (x1 == y1) <;> simp_all
theorem isId_any (x : Int) (w : World) :
    Calls Try.prog 56 #[.int .i64 x] w fun e w' => e = .returned (.bool (decide (0 ≤ x ∧ x ≤ 99))) ∧ w' = w := by
  go_enter Try.func56, Try.ntmps56
  go_wp2
  all_goals go_ret
  all_goals refine ⟨ret_bool ?_, rfl⟩
  all_goals (try simp [*]) <;> omega
theorem isPeer_any (A : Option Addr) (n c : Nat) (ld tm x : Int) (w : World) :
    Calls Try.prog 44 #[.agg #[.slice A n c, .int .i64 ld, .int .i64 tm], .int .i64 x] w fun e w' => e = .returned (.bool (decide (0 ≤ x ∧ x < (n : Int)))) ∧ Below w.heap.size w w' := by
  have HB0 := Lib.hid (fun o => (Below.refl w.heap.size w).alloc (Nat.le_refl _) o)
  go_enter Try.func44, Try.ntmps44
  go_wp2
  all_goals go_ret
  all_goals refine ⟨ret_bool ?_, HB0.out _⟩
  all_goals (try simp [*]) <;> omega
theorem isMost_any (A : Option Addr) (n c : Nat) (ld tm : Int) (k : Nat) (w : World) (hk : k ≤ 1048576) :
    Calls Try.prog 50 #[.agg #[.slice A n c, .int .i64 ld, .int .i64 tm], .int .i64 (k : Int)] w fun e w' => e = .returned (.bool (decide (n < 2 * k))) ∧ Below w.heap.size w w' := by
  have HB0 := Lib.hid (fun o => (Below.refl w.heap.size w).alloc (Nat.le_refl _) o)
  have HD := Lib.hid (show decide ((2 * (k : Int)) > (n : Int)) = decide (n < 2 * k) by
    rw [decide_eq_decide]; omega)
  go_enter Try.func50, Try.ntmps50
  go_wp2
  go_ret
  exact ⟨ret_bool (by rw [← HD.out]), HB0.out _⟩
theorem lastT_any (A : Option Addr) (n c : Nat) (l : List En) (w : World) (hr : RowAt w w.heap.size A (ensC l)) (hn : n = l.length) (hs : n ≤ 1048576) :
    Calls Try.prog 53 #[.slice A n c] w fun e w' => e = .returned (.int .i64 (lastT l)) ∧ w' = w := by
  have HR := Lib.hid hr; clear hr
  have HN := Lib.hid hn; clear hn
  cases n with
  | zero =>
    have HE := Lib.hid (show lastT l = 0 by rw [List.eq_nil_of_length_eq_zero HN.out.symm]; rfl)
    go_enter Try.func53, Try.ntmps53
    go_wp2
    go_ret
    exact ⟨by rw [HE.out]; rfl, rfl⟩
  | succ k =>
    have hk : k < l.length := by have := HN.out; omega
    have HE := Lib.hid (show lastT l = l[k].1 by
      have h1 := HN.out
      rw [lastT_pos (by omega)]
      congr 2; omega)
    obtain ⟨b, off, hA, hb, e0, e1⟩ := ens_at HR.out hk
    subst hA
    have h0 : (((k + 1 : Nat) : Int) == 0) = false := by simp; omega
    have h1 : IntKind.i64.wrap (((k + 1 : Nat) : Int) - 1) = (k : Int) := by rw [IntWalk.i64_in _ (by omega)]; omega
    have h2 : (k : Int) < ((k + 1 : Nat) : Int) := by omega
    have h3 : (0 : Int) ≤ (k : Int) := by omega
    generalize l[k].1 = x at *
    clear e1
    go_enter Try.func53, Try.ntmps53
    go_wp2
    go_ret
    exact ⟨by rw [HE.out]; rfl, rfl⟩
set_option maxRecDepth 100000 in
set_option maxHeartbeats 1000000 in
theorem iIn_any (A1 A2 : Option Addr) (n m c1 c2 : Nat) (l k : List En) (w : World) (h1 : RowAt w w.heap.size A1 (ensC l)) (h2 : RowAt w w.heap.size A2 (ensC k)) (hn : n = l.length) (hm : m = k.length) (hs : n ≤ 1048576) (hs2 : m ≤ 1048576) :
    Calls Try.prog 59 #[.slice A1 n c1, .slice A2 m c2] w fun e w' => e = .returned (.int .i64 (inC l k : Int)) ∧ ∃ q, w' = w.drewN q := by
  have H1 := Lib.hid h1; clear h1
  have H2 := Lib.hid h2; clear h2
  have HN := Lib.hid hn; clear hn
  have HM := Lib.hid hm; clear hm
  have heq := en_eql
  go_enter Try.func59, Try.ntmps59
  go_wp2_with fail
  go_loopw [5] (fun i wr => ∃ j : Nat, i = .int .i64 (j : Int) ∧ j ≤ n ∧ j ≤ m ∧ (∀ i (a : i < l.length) (b : i < k.length), i < j → l[i] = k[i]) ∧ ∃ q, wr = w.drewN q) (fun i _ => n - (intOf i).toNat)
  case atStart => exact ⟨0, rfl, by omega, by omega, fun i a b h => by omega, 0, rfl⟩
  case round =>
    obtain ⟨j, rfl, hj, hjm, hu, hb⟩ := hrel
    have HU := Lib.hid hu; clear hu
    have HQ := Lib.hid hb
    have HB := Lib.hid (drew_below w.heap.size hb); clear hb
    have HEND := Lib.hid (fun (hne : ∀ (a : j < l.length) (b : j < k.length), l[j] ≠ k[j]) => inC_end l k j (by have := HN.out; omega) (by have := HM.out; omega) HU.out hne)
    by_cases q1 : j < n
    · by_cases q2 : j < m
      · have hjl : j < l.length := by have := HN.out; omega
        have hjk : j < k.length := by have := HM.out; omega
        obtain ⟨b, off, hA, hbw, e0, e1⟩ := ens_at (H1.out.below HB.out) hjl
        obtain ⟨b2, off2, hA2, hbw2, d0, d1⟩ := ens_at (H2.out.below HB.out) hjk
        subst hA hA2
        have hi1 : (j : Int) < (n : Int) := by omega
        have hi2 : (j : Int) < (m : Int) := by omega
        have hd1 : decide ((j : Int) < (n : Int)) = true := by simpa using q1
        have hd2 : decide ((j : Int) < (m : Int)) = true := by simpa using q2
        have hi3 : (0 : Int) ≤ (j : Int) := by omega
        by_cases he : l[j] = k[j]
        · have HU2 := Lib.hid (show ∀ i (a : i < l.length) (b : i < k.length), i < j + 1 → l[i] = k[i] from fun i a b h => by
            rcases Nat.lt_or_ge i j with q | q
            · exact HU.out i a b q
            · obtain rfl : i = j := by omega
              exact he)
          rw [← he] at d0 d1
          clear he HEND
          generalize l[j].1 = x0 at *
          generalize l[j].2 = x1 at *
          have q5 : (x0 == x0 && x1 == x1) = true := by simp
          go_wp2_with fail
          go_quiet (fail)
          go_wp2_with fail
          go_roundw
          case rel => exact ⟨j + 1, by go_num, by omega, by omega, HU2.out, drew_more HQ.out _⟩
          case measure => simp [intOf]; omega
        · have HF := Lib.hid (HEND.out (fun _ _ => he))
          have q5 : (l[j].1 == k[j].1 && l[j].2 == k[j].2) = false := by
            by_cases p : l[j].1 = k[j].1
            · have : ¬ l[j].2 = k[j].2 := fun p2 => he (Prod.ext p p2)
              simp [this]
            · simp [p]
          clear he
          generalize l[j].1 = x0 at *
          generalize l[j].2 = x1 at *
          generalize k[j].1 = y0 at *
          generalize k[j].2 = y1 at *
          go_wp2_with fail
          go_quiet (fail)
          go_wp2_with fail
          go_ret
          exact ⟨by rw [HF.out]; rfl, drew_more HQ.out _⟩
      · have HF := Lib.hid (HEND.out (fun a b => by have := HM.out; omega))
        have hd1 : decide ((j : Int) < (n : Int)) = true := by simpa using q1
        have hd2 : decide ((j : Int) < (m : Int)) = false := by simp; omega
        go_wp2_with fail
        go_quiet (fail)
        go_wp2_with fail
        go_ret
        exact ⟨by rw [HF.out]; rfl, drew_more HQ.out _⟩
    · have HF := Lib.hid (HEND.out (fun a b => by have := HN.out; omega))
      have hd1 : decide ((j : Int) < (n : Int)) = false := by simp; omega
      go_wp2_with fail
      go_quiet (fail)
      go_wp2_with fail
      go_ret
      exact ⟨by rw [HF.out]; rfl, drew_more HQ.out _⟩
set_option maxRecDepth 100000 in
set_option maxHeartbeats 1000000 in
theorem sIn_any (A1 A2 : Option Addr) (n m c1 c2 : Nat) (l k : List En) (w : World) (h1 : RowAt w w.heap.size A1 (ensC l)) (h2 : RowAt w w.heap.size A2 (ensC k)) (hn : n = l.length) (hm : m = k.length) (hs : n ≤ 1048576) (hs2 : m ≤ 1048576) :
    Calls Try.prog 61 #[.slice A1 n c1, .slice A2 m c2] w fun e w' => e = .returned (.int .i64 (inC l k : Int)) ∧ ∃ q, w' = w.drewN q := by
  have H1 := Lib.hid h1; clear h1
  have H2 := Lib.hid h2; clear h2
  have HN := Lib.hid hn; clear hn
  have HM := Lib.hid hm; clear hm
  have heq := en_eql
  go_enter Try.func61, Try.ntmps61
  go_wp2_with fail
  go_loopw [5] (fun i wr => ∃ j : Nat, i = .int .i64 (j : Int) ∧ j ≤ n ∧ j ≤ m ∧ (∀ i (a : i < l.length) (b : i < k.length), i < j → l[i] = k[i]) ∧ ∃ q, wr = w.drewN q) (fun i _ => n - (intOf i).toNat)
  case atStart => exact ⟨0, rfl, by omega, by omega, fun i a b h => by omega, 0, rfl⟩
  case round =>
    obtain ⟨j, rfl, hj, hjm, hu, hb⟩ := hrel
    have HU := Lib.hid hu; clear hu
    have HQ := Lib.hid hb
    have HB := Lib.hid (drew_below w.heap.size hb); clear hb
    have HEND := Lib.hid (fun (hne : ∀ (a : j < l.length) (b : j < k.length), l[j] ≠ k[j]) => inC_end l k j (by have := HN.out; omega) (by have := HM.out; omega) HU.out hne)
    by_cases q1 : j < n
    · by_cases q2 : j < m
      · have hjl : j < l.length := by have := HN.out; omega
        have hjk : j < k.length := by have := HM.out; omega
        obtain ⟨b, off, hA, hbw, e0, e1⟩ := ens_at (H1.out.below HB.out) hjl
        obtain ⟨b2, off2, hA2, hbw2, d0, d1⟩ := ens_at (H2.out.below HB.out) hjk
        subst hA hA2
        have hi1 : (j : Int) < (n : Int) := by omega
        have hi2 : (j : Int) < (m : Int) := by omega
        have hd1 : decide ((j : Int) < (n : Int)) = true := by simpa using q1
        have hd2 : decide ((j : Int) < (m : Int)) = true := by simpa using q2
        have hi3 : (0 : Int) ≤ (j : Int) := by omega
        by_cases he : l[j] = k[j]
        · have HU2 := Lib.hid (show ∀ i (a : i < l.length) (b : i < k.length), i < j + 1 → l[i] = k[i] from fun i a b h => by
            rcases Nat.lt_or_ge i j with q | q
            · exact HU.out i a b q
            · obtain rfl : i = j := by omega
              exact he)
          rw [← he] at d0 d1
          clear he HEND
          generalize l[j].1 = x0 at *
          generalize l[j].2 = x1 at *
          have q5 : (x0 == x0 && x1 == x1) = true := by simp
          go_wp2_with fail
          go_quiet (fail)
          go_wp2_with fail
          go_roundw
          case rel => exact ⟨j + 1, by go_num, by omega, by omega, HU2.out, drew_more HQ.out _⟩
          case measure => simp [intOf]; omega
        · have HF := Lib.hid (HEND.out (fun _ _ => he))
          have q5 : (l[j].1 == k[j].1 && l[j].2 == k[j].2) = false := by
            by_cases p : l[j].1 = k[j].1
            · have : ¬ l[j].2 = k[j].2 := fun p2 => he (Prod.ext p p2)
              simp [this]
            · simp [p]
          clear he
          generalize l[j].1 = x0 at *
          generalize l[j].2 = x1 at *
          generalize k[j].1 = y0 at *
          generalize k[j].2 = y1 at *
          go_wp2_with fail
          go_quiet (fail)
          go_wp2_with fail
          go_ret
          exact ⟨by rw [HF.out]; rfl, drew_more HQ.out _⟩
      · have HF := Lib.hid (HEND.out (fun a b => by have := HM.out; omega))
        have hd1 : decide ((j : Int) < (n : Int)) = true := by simpa using q1
        have hd2 : decide ((j : Int) < (m : Int)) = false := by simp; omega
        go_wp2_with fail
        go_quiet (fail)
        go_wp2_with fail
        go_ret
        exact ⟨by rw [HF.out]; rfl, drew_more HQ.out _⟩
    · have HF := Lib.hid (HEND.out (fun a b => by have := HN.out; omega))
      have hd1 : decide ((j : Int) < (n : Int)) = false := by simp; omega
      go_wp2_with fail
      go_quiet (fail)
      go_wp2_with fail
      go_ret
      exact ⟨by rw [HF.out]; rfl, drew_more HQ.out _⟩
theorem iIn_b (A1 A2 : Option Addr) (n m c1 c2 : Nat) (l k : List En) (w : World) (h1 : RowAt w w.heap.size A1 (ensC l)) (h2 : RowAt w w.heap.size A2 (ensC k)) (hn : n = l.length) (hm : m = k.length) (hs : n ≤ 1048576) (hs2 : m ≤ 1048576) :
    Calls Try.prog 59 #[.slice A1 n c1, .slice A2 m c2] w fun e w' => e = .returned (.int .i64 (inC l k : Int)) ∧ Below w.heap.size w w' :=
  (iIn_any A1 A2 n m c1 c2 l k w h1 h2 hn hm hs hs2).mono fun _ _ h => ⟨h.1, drew_below _ h.2⟩
theorem sIn_b (A1 A2 : Option Addr) (n m c1 c2 : Nat) (l k : List En) (w : World) (h1 : RowAt w w.heap.size A1 (ensC l)) (h2 : RowAt w w.heap.size A2 (ensC k)) (hn : n = l.length) (hm : m = k.length) (hs : n ≤ 1048576) (hs2 : m ≤ 1048576) :
    Calls Try.prog 61 #[.slice A1 n c1, .slice A2 m c2] w fun e w' => e = .returned (.int .i64 (inC l k : Int)) ∧ Below w.heap.size w w' :=
  (sIn_any A1 A2 n m c1 c2 l k w h1 h2 hn hm hs hs2).mono fun _ _ h => ⟨h.1, drew_below _ h.2⟩
end Go.Proofs.Ytgoonccjdoajnab
