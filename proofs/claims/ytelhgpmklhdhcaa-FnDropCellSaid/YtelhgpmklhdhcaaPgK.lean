/- The plain mathematics of pages (chapter 1): a page while it is made tight, slot by slot. -/
import Derived.Test.YtelhgpmklhdhcaaPgU
set_option linter.unusedVariables false
set_option linter.unusedSimpArgs false
namespace Go.Proofs.Ytelhgpmklhdhcaa
open Go.RowKit Go.ChangeShapes Go.WideShapes

theorem sumZ_snoc (p : Sl) : ∀ (l : List Sl), sumZ (l ++ [p]) = sumZ l + (if 0 ≤ p.1 then p.2.toNat else 0)
  | [] => by simp [sumZ]
  | q :: l => by rw [List.cons_append, sumZ, sumZ_snoc p l, sumZ]; omega
theorem tlB_snoc (s : ByteArray) (p : Sl) (l : List Sl) : tlB s (l ++ [p]) = celO s p ++ tlB s l := by
  rw [tlB_celO, tlB_celO]; simp
theorem sumZ_take : ∀ (sl : List Sl) (k : Nat), sumZ (sl.take k) ≤ sumZ sl
  | [], k => by simp
  | p :: ps, 0 => by simp [sumZ]
  | p :: ps, k + 1 => by
    have := sumZ_take ps k
    rw [List.take_succ_cons, sumZ, sumZ]; omega
theorem sumZ_step {sl : List Sl} {k : Nat} (h : k < sl.length) : sumZ (sl.take (k + 1)) = sumZ (sl.take k) + (if 0 ≤ sl[k].1 then sl[k].2.toNat else 0) := by
  rw [List.take_succ_eq_append_getElem h, sumZ_snoc]
theorem tlB_step (s : ByteArray) {sl : List Sl} {k : Nat} (h : k < sl.length) : tlB s (sl.take (k + 1)) = celO s sl[k] ++ tlB s (sl.take k) := by
  rw [List.take_succ_eq_append_getElem h, tlB_snoc]
theorem tightL_get : ∀ (sl : List Sl) (e : Int) (k : Nat) (h : k < sl.length), (∀ p ∈ sl, 0 ≤ p.2) → (tightL e sl)[k]? = some (if 0 ≤ sl[k].1 then (e - sumZ (sl.take (k + 1)), sl[k].2) else sl[k])
  | p :: ps, e, 0, h, hg => by
    have := hg p (by simp)
    rw [tightL]
    by_cases hp : 0 ≤ p.1
    · rw [if_pos hp]
      simp [sumZ, hp]
      omega
    · rw [if_neg hp]
      simp [hp]
  | p :: ps, e, k + 1, h, hg => by
    have h0 := hg p (by simp)
    have ih := fun e => tightL_get ps e k (by simpa using h) (fun q hq => hg q (List.mem_cons_of_mem _ hq))
    rw [tightL]
    by_cases hp : 0 ≤ p.1
    · rw [if_pos hp, List.getElem?_cons_succ, ih, List.getElem_cons_succ, List.take_succ_cons, sumZ, if_pos hp]
      congr 1
      split
      · congr 1; omega
      · rfl
    · rw [if_neg hp, List.getElem?_cons_succ, ih, List.getElem_cons_succ, List.take_succ_cons, sumZ, if_neg hp]
      congr 1
      split
      · congr 1; omega
      · rfl
/-- the slots while they are made tight: k of them are -/
def tightK (sl : List Sl) (k : Nat) : List Sl := (tightL 48 sl).take k ++ sl.drop k
theorem tightK_len (sl : List Sl) (k : Nat) : (tightK sl k).length = sl.length := by
  unfold tightK
  rw [List.length_append, List.length_take, List.length_drop, tightL_len]; omega
theorem tightK_zero (sl : List Sl) : tightK sl 0 = sl := by simp [tightK]
theorem tightK_all (sl : List Sl) : tightK sl sl.length = tightL 48 sl := by
  unfold tightK
  rw [List.drop_length, List.append_nil, List.take_of_length_le (by rw [tightL_len]; exact Nat.le_refl _)]
theorem tightK_at (sl : List Sl) {k : Nat} (h : k < sl.length) : (tightK sl k)[k]'(by rw [tightK_len]; exact h) = sl[k] := by
  unfold tightK
  rw [List.getElem_append_right (by rw [List.length_take, tightL_len]; omega)]
  simp only [List.getElem_drop, List.length_take, tightL_len]
  congr 1; omega
theorem tightK_next (sl : List Sl) {k : Nat} (h : k < sl.length) : tightK sl (k + 1) = (tightK sl k).set k ((tightL 48 sl)[k]'(by rw [tightL_len]; exact h)) := by
  have hm : k - min k (tightL 48 sl).length = 0 := by rw [tightL_len]; omega
  unfold tightK
  rw [List.take_succ_eq_append_getElem (by rw [tightL_len]; exact h), List.drop_eq_getElem_cons h, List.set_append_right _ _ (by rw [List.length_take]; omega)]
  rw [List.length_take, hm, List.set_cons_zero, List.append_assoc]; rfl
theorem tightK_put {sl : List Sl} {k : Nat} (h : k < sl.length) (hg : ∀ p ∈ sl, 0 ≤ p.2) (h0 : 0 ≤ sl[k].1) : tightK sl (k + 1) = (tightK sl k).set k (48 - (sumZ (sl.take (k + 1)) : Int), sl[k].2) := by
  have := tightL_get sl 48 k h hg
  rw [List.getElem?_eq_getElem (by rw [tightL_len]; exact h), if_pos h0] at this
  injection this with this
  rw [tightK_next sl h, this]
theorem tightK_skip {sl : List Sl} {k : Nat} (h : k < sl.length) (hg : ∀ p ∈ sl, 0 ≤ p.2) (h0 : ¬ 0 ≤ sl[k].1) : tightK sl (k + 1) = tightK sl k := by
  have := tightL_get sl 48 k h hg
  rw [List.getElem?_eq_getElem (by rw [tightL_len]; exact h), if_neg h0] at this
  injection this with this
  rw [tightK_next sl h, this, ← tightK_at sl h, List.set_getElem_self]
theorem slC_set0 : ∀ (l : List Sl) (k : Nat) (h : k < l.length) (v : Int), (slC l).set (k * 2) (.int .i64 v) = slC (l.set k (v, l[k].2))
  | p :: ps, 0, h, v => rfl
  | p :: ps, k + 1, h, v => by
    have := slC_set0 ps k (by simpa using h) v
    show (Value.int .i64 p.1 :: Value.int .i64 p.2 :: slC ps).set ((k + 1) * 2) _ = Value.int .i64 p.1 :: Value.int .i64 p.2 :: slC _
    rw [show (k + 1) * 2 = k * 2 + 1 + 1 by omega, List.set_cons_succ, List.set_cons_succ, this]; rfl
theorem slC_set1 : ∀ (l : List Sl) (k : Nat) (h : k < l.length) (v : Int), (slC l).set (k * 2 + 1) (.int .i64 v) = slC (l.set k (l[k].1, v))
  | p :: ps, 0, h, v => rfl
  | p :: ps, k + 1, h, v => by
    have := slC_set1 ps k (by simpa using h) v
    show (Value.int .i64 p.1 :: Value.int .i64 p.2 :: slC ps).set ((k + 1) * 2 + 1) _ = Value.int .i64 p.1 :: Value.int .i64 p.2 :: slC _
    rw [show (k + 1) * 2 + 1 = k * 2 + 1 + 1 + 1 by omega, List.set_cons_succ, List.set_cons_succ, this]; rfl

end Go.Proofs.Ytelhgpmklhdhcaa
