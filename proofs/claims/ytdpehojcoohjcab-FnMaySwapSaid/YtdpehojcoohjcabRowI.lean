/- Rows of numbers that a call has made and writes into; sets of numbers as numbers. No condition. -/
import Derived.Test.YtdpehojcoohjcabActC
import Derived.Test.YtdpehojcoohjcabExInM
set_option linter.unusedVariables false
set_option linter.unusedSimpArgs false
namespace Go.Proofs.Ytdpehojcoohjcab
open Go.RowKit Go.ChangeShapes Go.WideShapes

theorem ofInt_n {x : Nat} (hx : x < 2 ^ 62) : (BitVec.ofInt 64 (x : Int)).toNat = x := by
  rw [BitVec.ofInt_natCast, BitVec.toNat_ofNat]; exact Nat.mod_eq_of_lt (by omega)
theorem or_n (x y : Nat) (hx : x < 2 ^ 62) (hy : y < 2 ^ 62) : bits .or .i64 (x : Int) (y : Int) = ((x ||| y : Nat) : Int) := by
  have h := Nat.or_lt_two_pow hx hy
  show IntKind.i64.wrap ((BitVec.ofInt 64 (x : Int) ||| BitVec.ofInt 64 (y : Int)).toNat : Int) = _
  rw [BitVec.toNat_or, ofInt_n hx, ofInt_n hy]
  exact IntWalk.i64_in _ (by omega)
theorem and_n (x y : Nat) (hx : x < 2 ^ 62) (hy : y < 2 ^ 62) : bits .and .i64 (x : Int) (y : Int) = ((x &&& y : Nat) : Int) := by
  have h : x &&& y < 2 ^ 62 := Nat.lt_of_le_of_lt Nat.and_le_left hx
  show IntKind.i64.wrap ((BitVec.ofInt 64 (x : Int) &&& BitVec.ofInt 64 (y : Int)).toNat : Int) = _
  rw [BitVec.toNat_and, ofInt_n hx, ofInt_n hy]
  exact IntWalk.i64_in _ (by omega)
/-- a row of numbers that the call has made and writes into -/
def RI (e : TypeId) (B g : Nat) (L : List Int) (W : World) : Prop := W.ownsRow B e 1 (.slice (some ⟨g, 0, none⟩) L.length L.length) L.length (intC L)
theorem RI.cell {e : TypeId} {B g : Nat} {L : List Int} {W : World} (h : RI e B g L W) {k : Nat} (hk : k < L.length) : W.cell? ⟨g, k, none⟩ = some (.int .i64 (L.getD k 0)) ∧ W.frozen? ⟨g, k, none⟩ = false := by
  have c0 := h.cellAt k (by omega)
  refine ⟨?_, h.frozenAt _⟩
  rw [c0, intC_at hk]
  simp [List.getD_eq_getElem?_getD, hk]
theorem intC_set (L : List Int) (k : Nat) (x : Int) : intC (L.set k x) = (intC L).set k (.int .i64 x) := by unfold intC; rw [List.map_set]
theorem RI.put {e : TypeId} {B g : Nat} {L : List Int} {W : World} (h : RI e B g L W) (k : Nat) (x : Int) : RI e B g (L.set k x) (W.setCell ⟨g, k, none⟩ (.int .i64 x)) := by
  unfold RI
  rw [List.length_set, intC_set]
  exact (h.stored k (.int .i64 x)).1
theorem RI.keep {e : TypeId} {B g : Nat} {L : List Int} {W W' : World} (h : RI e B g L W) (hb : Below W.heap.size W W') : RI e B g L W' :=
  h.kept (grown_of_below (row := none) hb) (by simp [Value.ownBlock])
theorem RI.made {e : TypeId} {B g n : Nat} {W : World} (h : W.ownsRow B e 1 (.slice (some ⟨g, 0, none⟩) n n) n (madeCells (Value.int .i64 0).cells (n * 1)).toList) : RI e B g (List.replicate n 0) W := by
  have e1 : (madeCells (Value.int .i64 0).cells (n * 1)).toList = intC (List.replicate n 0) := by
    refine List.ext_getElem ?_ (fun i h1 h2 => ?_)
    · simp [size_madeCells, intC]
    · have : i % 1 = 0 := Nat.mod_one i
      simp [madeCells, intC, Value.cells, this]
  unfold RI
  rw [← e1, List.length_replicate]
  exact h
theorem RI.ge {e : TypeId} {B g : Nat} {L : List Int} {W : World} (h : RI e B g L W) : B ≤ g ∧ g < W.heap.size := h.lt g rfl
theorem RI.block {e : TypeId} {B g : Nat} {L : List Int} {W : World} (h : RI e B g L W) : W.heap[g]? = some (.cells (intC L).toArray e (0, 0)) := by
  obtain ⟨hl, h⟩ := h
  rcases h with ⟨h1, _⟩ | ⟨g', cap, cur, h1, _, h3, _, _, h4, h5⟩
  · cases h1
  · injection h1 with h1 _ h2
    injection h1 with h1
    injection h1 with h1
    subst h1 h2
    rw [h3, ← h5, List.take_of_length_le (by simp [h4])]
/-- sets as numbers -/
def natI (S : List Nat) : List Int := S.map (fun (x : Nat) => (x : Int))
theorem natI_len (S : List Nat) : (natI S).length = S.length := by simp [natI]
theorem natI_get (S : List Nat) (k : Nat) : (natI S).getD k 0 = ((S.getD k 0 : Nat) : Int) := by
  unfold natI
  rw [List.getD_eq_getElem?_getD, List.getD_eq_getElem?_getD, List.getElem?_map]
  cases S[k]? <;> rfl
theorem natI_set (S : List Nat) (k x : Nat) : natI (S.set k x) = (natI S).set k (x : Int) := by unfold natI; rw [List.map_set]

/-- a new block of numbers -/
theorem RI.new {e : TypeId} (W : World) (L : List Int) (hL : L.length ≤ maxLen) : RI e W.heap.size W.heap.size L (W.alloc (.cells (intC L).toArray e)) := by
  refine ⟨by rw [intC_len]; omega, .inr ⟨W.heap.size, L.length, (intC L).toArray, rfl, Nat.le_refl _, heap_alloc_new W _, Nat.le_refl _, hL, by simp [intC_len], ?_⟩⟩
  simp [intC]
  exact List.take_of_length_le (by simp)
end Go.Proofs.Ytdpehojcoohjcab
