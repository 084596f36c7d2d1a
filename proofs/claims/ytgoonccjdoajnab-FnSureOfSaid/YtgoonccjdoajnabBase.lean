/- Words of this proof's own, over any program: the bytes that a code holds, the reader's block, what a draw leaves. No condition. -/
import Derived.WalkKit
import Derived.WalkLawsBesides
import Derived.WalkSpells
import Derived.LoopTactic
import Derived.Below
import Derived.Deep.Draws
import Derived.Lib.Hide
set_option linter.unusedVariables false
set_option linter.unusedSimpArgs false
namespace Go.Proofs.Ytgoonccjdoajnab
open Go.RowKit Go.ChangeShapes Go.WideShapes

theorem add_zero_off (b off k : Nat) : (⟨b, off, none⟩ : Addr).add k = ⟨b, off + k, none⟩ := by
  unfold Addr.add; split <;> simp_all

/-- n numbers of one byte each lie where a slice leads, all of them below block B -/
def BytesAt (w : World) (B : Nat) (A : Option Addr) (n : Nat) : Prop :=
  0 < n → ∃ b off, A = some ⟨b, off, none⟩ ∧ b < B ∧ ∀ i, i < n → ∃ z : Int, w.cell? ⟨b, off + i, none⟩ = some (.int .u8 z) ∧ 0 ≤ z ∧ z ≤ 255
def BytesIn (w : World) (A : Option Addr) (n c : Nat) : Prop := n ≤ c ∧ c ≤ maxLen ∧ BytesAt w w.heap.size A n

theorem bytesIn_nil (w : World) : BytesIn w none 0 0 := ⟨by omega, by simp [maxLen], fun h => absurd h (by omega)⟩
theorem bytesIn_some {w : World} {x : Addr} {l c : Nat} {zs : List Int} (hl : l ≤ c) (hm : c ≤ maxLen) (hz : zs.length = c)
    (hcell : ∀ i, i < zs.length → w.cell? (x.add i) = some (.int .u8 (zs.getD i 0))) (hwz : ∀ n ∈ zs, (Lit.int .u8 n).wf = true) : BytesIn w (some x) l c := by
  refine ⟨hl, hm, fun h0 => ?_⟩
  obtain ⟨b, off, spot⟩ := x
  have hc := hcell 0 (by omega)
  have hspot : spot = none := by simpa [Addr.add] using World.cell?_spot hc
  subst hspot
  rw [add_zero_off] at hc
  refine ⟨b, off, rfl, World.block_lt_of_cell? w _ hc, fun i hi => ?_⟩
  have hci := hcell i (by omega)
  rw [add_zero_off] at hci
  refine ⟨_, hci, ?_⟩
  have hm := hwz (zs.getD i 0) (by rw [List.getD_eq_getElem?_getD, List.getElem?_eq_getElem (by omega)]; simp)
  simpa [Lit.wf, IntKind.min, IntKind.max, IntKind.signed, IntKind.bits] using hm

theorem BytesAt.keep {w w' : World} {B : Nat} {A : Option Addr} {n : Nat} (h : BytesAt w B A n) (hk : ∀ k, k < B → w'.heap[k]? = w.heap[k]?) : BytesAt w' B A n := fun h0 => by
  obtain ⟨b, off, e, hb, hc⟩ := h h0
  refine ⟨b, off, e, hb, fun i hi => ?_⟩
  obtain ⟨z, hz, r⟩ := hc i hi
  exact ⟨z, (World.cell?_of_block (hk b hb)).trans hz, r⟩
theorem BytesAt.cut {w : World} {B : Nat} {A : Option Addr} {n m : Nat} (h : BytesAt w B A n) (hm : m ≤ n) : BytesAt w B A m := fun h0 => by
  obtain ⟨b, off, e, hb, hc⟩ := h (by omega)
  exact ⟨b, off, e, hb, fun i hi => hc i (by omega)⟩

/-- block r is the reader: a slice of at most 2000 bytes that lie below it, and a place of at most N -/
def Rdr (T : TypeId) (w : World) (r N : Nat) : Prop :=
  ∃ (A : Option Addr) (n c p : Nat), w.heap[r]? = some (.cells #[.slice A n c, .int .i64 p] T (0, 0)) ∧ p ≤ N ∧ n ≤ 2000 ∧ BytesAt w r A n

section
variable {T : TypeId} {w w' : World} {r N M : Nat}
theorem Rdr.lt (h : Rdr T w r N) : r < w.heap.size := by
  obtain ⟨A, n, c, p, hh, _⟩ := h
  exact (Array.getElem?_eq_some_iff.1 hh).1
theorem Rdr.more (h : Rdr T w r N) (hm : N ≤ M) : Rdr T w r M := by
  obtain ⟨A, n, c, p, hh, hp, rest⟩ := h
  exact ⟨A, n, c, p, hh, by omega, rest⟩
theorem Rdr.keep (h : Rdr T w r N) (hk : ∀ k, k ≤ r → w'.heap[k]? = w.heap[k]?) : Rdr T w' r N := by
  obtain ⟨A, n, c, p, hh, hp, hn, hb⟩ := h
  exact ⟨A, n, c, p, (hk r (Nat.le_refl _)).trans hh, hp, hn, hb.keep fun k hk' => hk k (by omega)⟩
theorem Rdr.below {B : Nat} (h : Rdr T w r N) (hb : Below B w w') (hB : r < B) : Rdr T w' r N := h.keep fun k hk => hb.block k (by omega)
theorem Rdr.alloc (h : Rdr T w r N) (o : Obj) : Rdr T (w.alloc o) r N := h.keep fun k hk => heap_alloc_old w o (by have := h.lt; omega)
theorem Rdr.drew (h : Rdr T w r N) : Rdr T w.drew r N := h
end

/-! what is kept when one block alone may have been written -/
theorem _root_.Go.World.grownBy.trans' {a b c : World} {row : Option Nat} (h : a.grownBy b row) (k : b.grownBy c row) : a.grownBy c row :=
  ⟨k.os.trans h.os, k.tape.trans h.tape, k.output.trans h.output, Nat.le_trans h.size k.size, fun i hi hn => (k.block i (Nat.lt_of_lt_of_le hi h.size) hn).trans (h.block i hi hn)⟩
theorem grown_of_below {a b : World} {row : Option Nat} (h : Below a.heap.size a b) : a.grownBy b row := ⟨h.os, h.tape, h.output, h.size, fun k hk _ => h.block k hk⟩
theorem below_of_grown {a b : World} {B r : Nat} (h : a.grownBy b (some r)) (hB : B ≤ r) (hs : B ≤ a.heap.size) : Below B a b :=
  ⟨h.os, h.tape, h.output, h.size, fun k hk => h.block k (by omega) (by simp; omega)⟩
theorem grown_drewN {w : World} {row : Option Nat} (n : Nat) : w.grownBy (w.drewN n) row := ⟨rfl, rfl, rfl, Nat.le_refl _, fun _ _ _ => rfl⟩
theorem below_drewN {w : World} (B n : Nat) : Below B w (w.drewN n) := ⟨rfl, rfl, rfl, Nat.le_refl _, fun _ _ => rfl⟩
theorem grown_drew {w : World} {row : Option Nat} : w.grownBy w.drew row := ⟨rfl, rfl, rfl, Nat.le_refl _, fun _ _ _ => rfl⟩
theorem grown_setCell {w : World} {r o : Nat} (v : Value) : w.grownBy (w.setCell ⟨r, o, none⟩ v) (some r) :=
  ⟨rfl, rfl, rfl, by simp, fun k hk hn => Below.heap_setCell w _ v k (by rintro rfl; exact hn rfl)⟩

/-! numbers -/
theorem xor_i64 (a b : Int) (ha : 0 ≤ a) (hb : 0 ≤ b) (ha' : a < 4611686018427387904) (hb' : b < 4611686018427387904) : 0 ≤ bits .xor .i64 a b ∧ bits .xor .i64 a b < 4611686018427387904 := by
  obtain ⟨x, rfl⟩ := Int.eq_ofNat_of_zero_le ha
  obtain ⟨y, rfl⟩ := Int.eq_ofNat_of_zero_le hb
  have hx : x < 2 ^ 62 := by omega
  have hy : y < 2 ^ 62 := by omega
  have h := Nat.xor_lt_two_pow hx hy
  have e : bits .xor .i64 (x : Int) (y : Int) = ((x ^^^ y : Nat) : Int) := by
    have h1 : (BitVec.ofInt 64 (x : Int)).toNat = x := by
      rw [BitVec.ofInt_natCast, BitVec.toNat_ofNat]; exact Nat.mod_eq_of_lt (by omega)
    have h2 : (BitVec.ofInt 64 (y : Int)).toNat = y := by
      rw [BitVec.ofInt_natCast, BitVec.toNat_ofNat]; exact Nat.mod_eq_of_lt (by omega)
    show IntKind.i64.wrap ((BitVec.ofInt 64 (x : Int) ^^^ BitVec.ofInt 64 (y : Int)).toNat : Int) = _
    rw [BitVec.toNat_xor, h1, h2]
    exact IntWalk.i64_in _ (by omega)
  rw [e]
  omega
end Go.Proofs.Ytgoonccjdoajnab
