/- The plain mathematics of pages (chapter 1): what ValidPage reckons in the program and in the model, and that both are one. -/
import Derived.Test.YtelhgpmklhdhcaaSlot
set_option linter.unusedVariables false
set_option linter.unusedSimpArgs false
namespace Go.Proofs.Ytelhgpmklhdhcaa
open Go.RowKit Go.ChangeShapes Go.WideShapes

abbrev Sl := Int × Int
def slotC (p : Sl) : List Value := [.int .i64 p.1, .int .i64 p.2]
theorem slotC_len (p : Sl) : (slotC p).length = 2 := rfl
def slC (sl : List Sl) : List Value := sl.flatMap slotC
theorem slC_len (sl : List Sl) : (slC sl).length = sl.length * 2 := flat_len slotC 2 slotC_len sl
theorem slC_at0 {sl : List Sl} {k : Nat} (h : k < sl.length) : (slC sl)[k * 2]? = some (.int .i64 sl[k].1) := by
  have := flat_at slotC 2 slotC_len sl k 0 (by omega)
  rw [Nat.add_zero] at this
  rw [slC, this, List.getElem?_eq_getElem h]; rfl
theorem slC_at1 {sl : List Sl} {k : Nat} (h : k < sl.length) : (slC sl)[k * 2 + 1]? = some (.int .i64 sl[k].2) := by
  rw [slC, flat_at slotC 2 slotC_len sl k 1 (by omega), List.getElem?_eq_getElem h]; rfl
def Wf (sl : List Sl) : Prop := ∀ p ∈ sl, (-9223372036854775808 ≤ p.1 ∧ p.1 ≤ 9223372036854775807) ∧ (-9223372036854775808 ≤ p.2 ∧ p.2 ≤ 9223372036854775807)

/-- the bytes of a text from a on, z of them -/
def cutS (s : ByteArray) (a z : Nat) : ByteArray := s.extract a (a + z)
/-- what the program's ValidPage reckons: ov: the bytes that are laid so far -/
def implV (s : ByteArray) (n : Nat) : List UInt8 → List Sl → Bool
  | ov, [] => ov == s.data.toList
  | ov, p :: ps =>
    if freeB p.1 p.2 = true then implV s n ov ps
    else if fitB (2 * n) p.1 p.2 = false then false
    else if cellB (cutS s p.1.toNat p.2.toNat) = false then false
    else if ((ov.drop p.1.toNat).take p.2.toNat).all isPt = false then false
    else implV s n (lay ov p.1.toNat ((s.data.toList.drop p.1.toNat).take p.2.toNat)) ps

section
variable {s : ByteArray} {n : Nat} {ov : List UInt8} {p : Sl} {ps : List Sl}
theorem implV_free (h : freeB p.1 p.2 = true) : implV s n ov (p :: ps) = implV s n ov ps := by rw [implV, if_pos h]
theorem implV_nofit (h : freeB p.1 p.2 = false) (h2 : fitB (2 * n) p.1 p.2 = false) : implV s n ov (p :: ps) = false := by
  rw [implV, if_neg (by rw [h]; simp), if_pos h2]
theorem implV_nocell (h : freeB p.1 p.2 = false) (h2 : fitB (2 * n) p.1 p.2 = true) (h3 : cellB (cutS s p.1.toNat p.2.toNat) = false) : implV s n ov (p :: ps) = false := by
  rw [implV, if_neg (by rw [h]; simp), if_neg (by rw [h2]; simp), if_pos h3]
theorem implV_nopts (h : freeB p.1 p.2 = false) (h2 : fitB (2 * n) p.1 p.2 = true) (h3 : cellB (cutS s p.1.toNat p.2.toNat) = true)
    (h4 : ((ov.drop p.1.toNat).take p.2.toNat).all isPt = false) : implV s n ov (p :: ps) = false := by
  rw [implV, if_neg (by rw [h]; simp), if_neg (by rw [h2]; simp), if_neg (by rw [h3]; simp), if_pos h4]
theorem implV_lay (h : freeB p.1 p.2 = false) (h2 : fitB (2 * n) p.1 p.2 = true) (h3 : cellB (cutS s p.1.toNat p.2.toNat) = true)
    (h4 : ((ov.drop p.1.toNat).take p.2.toNat).all isPt = true) : implV s n ov (p :: ps) = implV s n (lay ov p.1.toNat ((s.data.toList.drop p.1.toNat).take p.2.toNat)) ps := by
  rw [implV, if_neg (by rw [h]; simp), if_neg (by rw [h2]; simp), if_neg (by rw [h3]; simp), if_neg (by rw [h4]; simp)]
end

/-- a slot that fits lies on the page -/
theorem fit_nat {n : Nat} {a z : Int} (h : fitB (2 * (n : Int)) a z = true) : ∃ a' z' : Nat, a = a' ∧ z = z' ∧ a' + z' ≤ 48 ∧ 2 * n ≤ a' := by
  unfold fitB at h
  simp only [Bool.and_eq_true, decide_eq_true_eq] at h
  exact ⟨a.toNat, z.toNat, by omega, by omega, by omega, by omega⟩
theorem cellB_pos {s : ByteArray} (h : cellB s = true) : 1 ≤ s.size := by
  unfold cellB at h
  split at h
  · cases h
  · rename_i h1
    obtain ⟨k, hk⟩ := Int.eq_ofNat_of_zero_le (show 0 ≤ Lib.indexByte s.data.toList 61 by omega)
    have := idx_lt hk
    omega
theorem cutS_size {s : ByteArray} {a z : Nat} (h : a + z ≤ s.size) : (cutS s a z).size = z := by
  unfold cutS; rw [ByteArray.size_extract]; omega

def valid48 (s : ByteArray) (sl : List Sl) : Bool := decide (s.size = 48) && decide (2 * sl.length ≤ 48)
def iValid (s : ByteArray) (sl : List Sl) : Bool := valid48 s sl && implV s sl.length (ptsK 48) sl

theorem slots_at {w : World} {B : Nat} {A : Option Addr} {sl : List Sl} {k : Nat} (h : RowAt w B A (slC sl)) (hk : k < sl.length) :
    ∃ b off, A = some ⟨b, off, none⟩ ∧ b < B ∧ w.cell? ⟨b, off + k * 2, none⟩ = some (.int .i64 sl[k].1) ∧ w.cell? ⟨b, off + k * 2 + 1, none⟩ = some (.int .i64 sl[k].2) := by
  obtain ⟨b, off, rfl, hb, hc⟩ := h (by intro h0; have := slC_len sl; rw [h0] at this; simp at this; omega)
  exact ⟨b, off, rfl, hb, hc _ _ (slC_at0 hk), by rw [Nat.add_assoc]; exact hc _ _ (slC_at1 hk)⟩
theorem drop_at {sl : List Sl} {k : Nat} (hk : k < sl.length) : sl.drop k = sl[k] :: sl.drop (k + 1) := List.drop_eq_getElem_cons hk

theorem lay_text {s : ByteArray} {a z : Nat} (hs : s.size = 48) (h : a + z ≤ 48) : (s.extract a s.size).data.toList.take (min (s.extract a s.size).size z) = (s.data.toList.drop a).take z := by
  have h1 : (s.extract a s.size).size = 48 - a := by rw [ByteArray.size_extract]; omega
  rw [h1, Nat.min_eq_right (by omega), ByteArray.data_extract, Array.toList_extract]
  have : (s.data.toList.drop a).length = 48 - a := by simp; omega
  rw [List.take_take]
  congr 1
  omega

theorem take_eq_step {α : Type} {l m : List α} {k : Nat} (h1 : k < l.length) (h2 : k < m.length) (h : l.take k = m.take k) (he : l[k] = m[k]) : l.take (k + 1) = m.take (k + 1) := by
  rw [List.take_succ_eq_append_getElem h1, List.take_succ_eq_append_getElem h2, h, he]
end Go.Proofs.Ytelhgpmklhdhcaa
