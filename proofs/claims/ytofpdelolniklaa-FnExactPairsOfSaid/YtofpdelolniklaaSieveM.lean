/- The bits of many keys, plain mathematics. No condition. -/
import Derived.Test.YtofpdelolniklaaMarks
import Derived.Test.YtofpdelolniklaaAsc
set_option linter.unusedVariables false
set_option linter.unusedSimpArgs false
namespace Go.Proofs.Ytofpdelolniklaa
open Go.RowKit Go.ChangeShapes Go.WideShapes

theorem ofInt_i64 {x : Nat} (hx : x < 2 ^ 62) : (BitVec.ofInt 64 (x : Int)).toNat = x := by
  rw [BitVec.ofInt_natCast, BitVec.toNat_ofNat]; exact Nat.mod_eq_of_lt (by omega)
theorem or_i64 (x y : Nat) (hx : x < 2 ^ 62) (hy : y < 2 ^ 62) : bits .or .i64 (x : Int) (y : Int) = ((x ||| y : Nat) : Int) := by
  have h := Nat.or_lt_two_pow hx hy
  show IntKind.i64.wrap ((BitVec.ofInt 64 (x : Int) ||| BitVec.ofInt 64 (y : Int)).toNat : Int) = _
  rw [BitVec.toNat_or, ofInt_i64 hx, ofInt_i64 hy]
  exact IntWalk.i64_in _ (by omega)
theorem and_i64 (x y : Nat) (hx : x < 2 ^ 62) (hy : y < 2 ^ 62) : bits .and .i64 (x : Int) (y : Int) = ((x &&& y : Nat) : Int) := by
  have h : x &&& y < 2 ^ 62 := Nat.lt_of_le_of_lt Nat.and_le_left hx
  show IntKind.i64.wrap ((BitVec.ofInt 64 (x : Int) &&& BitVec.ofInt 64 (y : Int)).toNat : Int) = _
  rw [BitVec.toNat_and, ofInt_i64 hx, ofInt_i64 hy]
  exact IntWalk.i64_in _ (by omega)
theorem marks_pos : ∀ a b : Fin 24, bits BinOp.or IntKind.i64 ((2 ^ a.val : Nat) : Int) ((2 ^ b.val : Nat) : Int) ≠ 0 := by decide +kernel
/-- the bits of a key as a number -/
def marksN (l : List UInt8) : Nat := (marksI l).toNat
theorem marksN_ok (l : List UInt8) : marksI l = (marksN l : Int) ∧ marksN l < 16777216 ∧ 0 < marksN l := by
  obtain ⟨m, hm, hlt, _⟩ := marksI_ok l
  have h0 : marksI l ≠ 0 := marks_pos ⟨(hashI 1 l % 24).toNat, by omega⟩ ⟨(hashI 5 l % 24).toNat, by omega⟩
  unfold marksN
  omega
theorem snoc_ind {α : Type} {P : List α → Prop} (h0 : P []) (h1 : ∀ l x, P l → P (l ++ [x])) : ∀ l, P l := by
  intro l
  rw [← List.reverse_reverse l]
  induction l.reverse with
  | nil => exact h0
  | cons x l ih => rw [List.reverse_cons]; exact h1 _ _ ih
def sieveN (l : List ItS) : Nat := l.foldl (fun o p => o ||| marksN p.1.data.toList) 0
theorem sieveN_snoc (l : List ItS) (p : ItS) : sieveN (l ++ [p]) = sieveN l ||| marksN p.1.data.toList := by
  unfold sieveN; rw [List.foldl_append]; rfl
theorem sieveN_lt (l : List ItS) : sieveN l < 16777216 := by
  induction l using snoc_ind with
  | h0 => decide
  | h1 l p ih => rw [sieveN_snoc]; exact Nat.or_lt_two_pow (n := 24) ih (marksN_ok _).2.1
theorem and_or_left {a b c : Nat} (h : a &&& b = a) : a &&& (b ||| c) = a := by
  apply Nat.eq_of_testBit_eq; intro i
  have := congrArg (fun n => n.testBit i) h
  simp only [Nat.testBit_and, Nat.testBit_or] at *
  cases h1 : a.testBit i <;> cases h2 : b.testBit i <;> simp_all
theorem and_or_right (a b : Nat) : a &&& (b ||| a) = a := by
  apply Nat.eq_of_testBit_eq; intro i
  simp only [Nat.testBit_and, Nat.testBit_or]
  cases a.testBit i <;> simp
theorem sieveN_has (l : List ItS) (p : ItS) (h : p ∈ l) : marksN p.1.data.toList &&& sieveN l = marksN p.1.data.toList := by
  induction l using snoc_ind with
  | h0 => cases h
  | h1 l q ih =>
    rw [sieveN_snoc]
    rcases List.mem_append.1 h with h1 | h1
    · exact and_or_left (ih h1)
    · rw [List.mem_singleton.1 h1]; exact and_or_right _ _
theorem sieveN_pos {l : List ItS} (h : l ≠ []) : 0 < sieveN l := by
  rcases List.eq_nil_or_concat l with rfl | ⟨l', q, rfl⟩
  · exact absurd rfl h
  · rw [List.concat_eq_append]
    have h1 := sieveN_has (l' ++ [q]) q (by simp)
    have h2 := (marksN_ok q.1.data.toList).2.2
    rcases Nat.eq_zero_or_pos (sieveN (l' ++ [q])) with h3 | h3
    · rw [h3, Nat.and_zero] at h1; omega
    · exact h3
theorem or_sieve (l : List ItS) (p : ItS) : bits .or .i64 (sieveN l : Int) (marksI p.1.data.toList) = (sieveN (l ++ [p]) : Int) := by
  obtain ⟨h1, h2, _⟩ := marksN_ok p.1.data.toList
  have := sieveN_lt l
  rw [h1, or_i64 _ _ (by omega) (by omega), sieveN_snoc]
def sieveR (l : List ItS) : Int := if runB l = true then (sieveN l : Int) else -1
end Go.Proofs.Ytofpdelolniklaa
