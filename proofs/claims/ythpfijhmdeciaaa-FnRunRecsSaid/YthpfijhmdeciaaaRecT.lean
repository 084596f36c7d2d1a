/- Contracts of the model's backs and undoAt (chapter 6), and words on rows of records. Conditions: the records lie in a row; they are few. -/
import Derived.Test.YthpfijhmdeciaaaRecM
import Derived.Deep.QuietTactic
import Derived.BigQuiet
set_option linter.unusedVariables false
set_option linter.unusedSimpArgs false
namespace Go.Proofs.Ythpfijhmdeciaaa
open Go.RowKit Go.ChangeShapes Go.WideShapes

/-- a call that draws nothing, behind draws that were counted together -/
theorem quiet_of_same2 {P : Program} {f : FuncId} {args : Array Value} {w : World} {a n : Nat} {v : Value}
    (h : Calls P f args (w.drewN (a + n)) fun e w' => e = .returned v ∧ w' = w.drewN (a + n)) : Calls P f args (w.drewN (a + n)) fun e w'' => e = .returned v ∧ ∃ m, w'' = w.drewN (a + m) :=
  h.mono fun _ _ ⟨he, hm⟩ => ⟨he, n, hm⟩
theorem rc_get {l : List Rc} {k : Nat} (h : k < l.length) : l.getD k rc0 = l[k] := by simp [List.getD_eq_getElem?_getD, h]
theorem rc_cells_at {w : World} {B : Nat} {A : Option Addr} {l : List Rc} {k : Nat} (h : RowAt w B A (rcsC l)) (hk : k < l.length) :
    ∃ b off, A = some ⟨b, off, none⟩ ∧ b < B ∧ w.cell? ⟨b, off + k * 5, none⟩ = some (.int .i64 (kd l k)) ∧ w.cell? ⟨b, off + k * 5 + 1, none⟩ = some (.int .i64 (tn l k)) ∧ w.cell? ⟨b, off + k * 5 + 2, none⟩ = some (.int .i64 (pl l k)) ∧ w.cell? ⟨b, off + k * 5 + 3, none⟩ = some (.int .i64 (bf l k)) ∧ w.cell? ⟨b, off + k * 5 + 4, none⟩ = some (.int .i64 (af l k)) := by
  unfold kd tn pl bf af
  rw [rc_get hk]
  exact rcs_at h hk
theorem cut_headR (b off n c k : Nat) (W : World) (h : k ≤ c) :
    (Instr.sliceAt 23 (.slice (some ⟨b, off, none⟩) n c) none (some (.int .i64 (k : Int))) none).run Try.prog W = .ok (.slice (some ⟨b, off, none⟩) k c) W := by
  have hu : Try.prog.underlying 23 = some (.slice (Try.prog.elem 23)) := by kernel_rfl
  have hs : (sizeOf (Try.prog.elem 23)).run Try.prog W = .ok 5 W := by kernel_rfl
  rw [run_sliceAt_slice (h := hu), run_slice_h (ht := hu) (h0 := by omega) (h2 := by omega), hs]
  simp only [Result.andThen_ok, sliced, Int.toNat_natCast, Option.map_some, Nat.zero_mul]
  rw [add_zero_off]
  simp
theorem nb_le (l : List Rc) (t : Nat) : ∀ k, nb l k t ≤ k
  | 0 => Nat.le_refl _
  | k + 1 => by
    have := nb_le l t k
    unfold nb
    split <;> omega

set_option maxHeartbeats 1000000 in
theorem backs_any (A : Option Addr) (k c : Nat) (l : List Rc) (t : Nat) (w : World) (hr : RowAt w w.heap.size A (rcsC l)) (hk : k ≤ l.length) (hs : k ≤ 1048576) :
    Calls Try.prog 37 #[.slice A k c, .int .i64 t] w fun e w' => e = .returned (.int .i64 (nb l k t : Int)) ∧ w' = w := by
  have HR := Lib.hid hr; clear hr
  have HK := Lib.hid hk; clear hk
  go_enter Try.func37, Try.ntmps37
  go_wp2_with fail
  go_loop [5, 6] (fun q i => ∃ j : Nat, j ≤ k ∧ i = .int .i64 j ∧ q = .int .i64 (nb l j t : Int)) (fun _ i => k - (intOf i).toNat)
  case atStart => exact ⟨0, by omega, rfl, rfl⟩
  case round =>
    obtain ⟨j, hj, rfl, rfl⟩ := hrel
    have hle := nb_le l t j
    by_cases hlt : j < k
    · obtain ⟨b, off, rfl, hbw, e0, e1, _, _, _⟩ := rc_cells_at HR.out (show j < l.length by have := HK.out; omega)
      have HS := Lib.hid (show nb l (j + 1) t = if tn l j = t ∧ kd l j = 2 then nb l j t + 1 else nb l j t from rfl)
      generalize tn l j = x1 at *
      generalize kd l j = x0 at *
      by_cases h1 : x1 = (t : Int)
      · have q1 : (x1 == (t : Int)) = true := by simpa using h1
        by_cases h2 : x0 = 2
        · have q2 : (x0 == 2) = true := by simpa using h2
          have HF := Lib.hid (show (nb l j t : Int) + 1 = (nb l (j + 1) t : Int) by rw [HS.out, if_pos ⟨h1, h2⟩]; rfl)
          clear h1 h2
          generalize nb l j t = m at *
          go_wp2_with fail
          go_round
          case rel => exact ⟨j + 1, by omega, by go_num, by rw [HF.out]⟩
          case measure => simp [intOf]; omega
        · have q2 : (x0 == 2) = false := by simpa using h2
          have HF := Lib.hid (show (nb l j t : Int) = (nb l (j + 1) t : Int) by rw [HS.out, if_neg (fun h => h2 h.2)])
          clear h1 h2
          generalize nb l j t = m at *
          go_wp2_with fail
          go_round
          case rel => exact ⟨j + 1, by omega, by go_num, by rw [HF.out]⟩
          case measure => simp [intOf]; omega
      · have q1 : (x1 == (t : Int)) = false := by simpa using h1
        have HF := Lib.hid (show (nb l j t : Int) = (nb l (j + 1) t : Int) by rw [HS.out, if_neg (fun h => h1 h.1)])
        clear h1
        generalize nb l j t = m at *
        go_wp2_with fail
        go_round
        case rel => exact ⟨j + 1, by omega, by go_num, by rw [HF.out]⟩
        case measure => simp [intOf]; omega
    · obtain rfl : j = k := by omega
      go_wp2_with fail
      go_ret
      exact ⟨rfl, rfl⟩

set_option maxHeartbeats 1000000 in
theorem undoAt_any (A : Option Addr) (k c : Nat) (l : List Rc) (t : Nat) (w : World) (hr : RowAt w w.heap.size A (rcsC l)) (hk : k ≤ l.length) (hs : k ≤ 1048576) :
    Calls Try.prog 33 #[.slice A k c, .int .i64 t] w fun e w' => e = .returned (.int .i64 (uaS l k t (nb l k t))) ∧ w' = w := by
  have HB := Lib.hid (backs_any A k c l t w hr hk hs)
  have hle := nb_le l t k
  have HR := Lib.hid hr; clear hr
  have HK := Lib.hid hk; clear hk
  obtain ⟨U, hU⟩ : ∃ u, uaS l k t (nb l k t) = u := ⟨_, rfl⟩
  rw [hU]
  have HU := Lib.hid hU; clear hU
  obtain ⟨m, hm⟩ : ∃ m, nb l k t = m := ⟨_, rfl⟩
  have HM := Lib.hid hm
  rw [hm] at HB hle
  clear hm
  go_enter Try.func33, Try.ntmps33
  go_wp2_with fail
  refine (HB.out).mono ?_
  rintro e w2 ⟨rfl, hw2⟩
  obtain rfl := hw2.symm
  go_wp2_with fail
  go_loop [5, 6] (fun q i => ∃ j s : Nat, j ≤ k ∧ s ≤ k ∧ i = .int .i64 ((j : Int) - 1) ∧ q = .int .i64 (s : Int) ∧ uaS l j t s = U) (fun _ i => (intOf i + 1).toNat)
  case atStart => exact ⟨k, m, by omega, by omega, rfl, rfl, by rw [← HM.out]; exact HU.out⟩
  case round =>
    obtain ⟨j, s, hj, hsk, rfl, rfl, hu⟩ := hrel
    have HX := Lib.hid hu; clear hu
    by_cases hlt : 0 < j
    · obtain ⟨i, rfl⟩ : ∃ i, j = i + 1 := ⟨j - 1, by omega⟩
      have ei : ((i + 1 : Nat) : Int) - 1 = (i : Int) := by omega
      rw [ei]
      clear ei hlt
      have hik : i < k := by omega
      obtain ⟨b, off, rfl, hbw, e0, e1, _, _, _⟩ := rc_cells_at HR.out (show i < l.length by have := HK.out; omega)
      have HS := Lib.hid (fun h => uaS_skip l i t s h)
      have HH := Lib.hid (fun h => uaS_here l i t h)
      have HN := Lib.hid (fun s h => uaS_next l i t s h)
      generalize tn l i = x1 at *
      generalize kd l i = x0 at *
      by_cases h1 : x1 = (t : Int)
      · have q1 : (x1 == (t : Int)) = true := by simpa using h1
        by_cases h2 : x0 = 1
        · have q2 : (x0 == 1) = true := by simpa using h2
          by_cases h3 : s = 0
          · subst h3
            have HE := Lib.hid (show U = (i : Int) by rw [← HX.out]; exact HH.out ⟨h1, h2⟩)
            clear h1 h2
            go_wp2_with fail
            go_ret
            exact ⟨by rw [HE.out]; rfl, rfl⟩
          · obtain ⟨s', rfl⟩ : ∃ s', s = s' + 1 := ⟨s - 1, by omega⟩
            have HE := Lib.hid (show uaS l i t s' = U by rw [← HX.out]; exact (HN.out s' ⟨h1, h2⟩).symm)
            have q3 : (((s' + 1 : Nat) : Int) == 0) = false := by simp; omega
            clear h1 h2 h3
            go_wp2_with fail
            go_round
            case rel => exact ⟨i, s', by omega, by omega, by go_num, by go_num, HE.out⟩
            case measure => simp [intOf] <;> omega
        · have q2 : (x0 == 1) = false := by simpa using h2
          have HE := Lib.hid (show uaS l i t s = U by rw [← HX.out]; exact (HS.out (fun h => h2 h.2)).symm)
          clear h1 h2
          go_wp2_with fail
          go_round
          case rel => exact ⟨i, s, by omega, by omega, by go_num, rfl, HE.out⟩
          case measure => simp [intOf] <;> omega
      · have q1 : (x1 == (t : Int)) = false := by simpa using h1
        have HE := Lib.hid (show uaS l i t s = U by rw [← HX.out]; exact (HS.out (fun h => h1 h.1)).symm)
        clear h1
        go_wp2_with fail
        go_round
        case rel => exact ⟨i, s, by omega, by omega, by go_num, rfl, HE.out⟩
        case measure => simp [intOf] <;> omega
    · obtain rfl : j = 0 := by omega
      have HE := Lib.hid (show U = -1 by rw [← HX.out]; exact uaS_zero l t s)
      go_wp2_with fail
      go_ret
      exact ⟨by rw [HE.out]; rfl, rfl⟩
end Go.Proofs.Ythpfijhmdeciaaa
