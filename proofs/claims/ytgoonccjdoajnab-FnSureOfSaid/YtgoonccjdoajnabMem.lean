/- Words on memory, over any program: a row of cells that a slice leads to, a block of bytes, a text copied into it. No condition. -/
import Derived.Test.YtgoonccjdoajnabBase
import Derived.Laws.CopyOwn
import Derived.Laws.OwnMore
import Derived.Laws.BytesString
import Derived.Laws.Rows
set_option linter.unusedVariables false
set_option linter.unusedSimpArgs false
namespace Go.Proofs.Ytgoonccjdoajnab
open Go.RowKit Go.ChangeShapes Go.WideShapes

/-! a row of cells -/
def RowAt (w : World) (B : Nat) (A : Option Addr) (cs : List Value) : Prop :=
  cs ≠ [] → ∃ b off, A = some ⟨b, off, none⟩ ∧ b < B ∧ ∀ i v, cs[i]? = some v → w.cell? ⟨b, off + i, none⟩ = some v

section
variable {w w' : World} {B B' : Nat} {A : Option Addr} {cs : List Value}
theorem RowAt.nil (w : World) (B : Nat) (A : Option Addr) : RowAt w B A [] := fun h => absurd rfl h
theorem RowAt.keep (h : RowAt w B A cs) (hk : ∀ k, k < B → w'.heap[k]? = w.heap[k]?) : RowAt w' B A cs := fun h0 => by
  obtain ⟨b, off, e, hb, hc⟩ := h h0
  exact ⟨b, off, e, hb, fun i v hi => (World.cell?_of_block (hk b hb)).trans (hc i v hi)⟩
theorem RowAt.below (h : RowAt w B A cs) (hb : Below B w w') : RowAt w' B A cs := h.keep hb.block
theorem RowAt.mono (h : RowAt w B A cs) (hB : B ≤ B') : RowAt w B' A cs := fun h0 => by
  obtain ⟨b, off, e, hb, hc⟩ := h h0
  exact ⟨b, off, e, by omega, hc⟩
theorem RowAt.at_ (h : RowAt w B A cs) (h0 : cs ≠ []) : ∃ b off, A = some ⟨b, off, none⟩ ∧ b < B ∧ ∀ i v, cs[i]? = some v → w.cell? ⟨b, off + i, none⟩ = some v := h h0
theorem RowAt.of_own {base n c : Nat} {e : TypeId} {z : Nat} (h : w.ownsRow base e z (.slice A n c) n cs) : RowAt w w.heap.size A cs := fun h0 => by
  rcases h.2 with ⟨hv, hn⟩ | ⟨g, cap, cur, hv, hg, hh, _⟩
  · subst hn
    exact absurd (List.eq_nil_of_length_eq_zero (by simpa using h.1)) h0
  · injection hv with hA _ _
    subst hA
    refine ⟨g, 0, rfl, (Array.getElem?_eq_some_iff.1 hh).1, fun i v hi => ?_⟩
    have := h.cells (g := g) rfl i v hi
    rw [add_zero_off] at this
    exact this
end

/-- what lies in the row of a list of structs of z cells each -/
theorem flat_at {α : Type} (f : α → List Value) (z : Nat) (hf : ∀ a, (f a).length = z) : ∀ (xs : List α) (i j : Nat), j < z → (xs.flatMap f)[i * z + j]? = (xs[i]?).bind (fun a => (f a)[j]?)
  | [], i, j, _ => by simp
  | x :: xs, 0, j, hj => by
    simp only [List.flatMap_cons, Nat.zero_mul, Nat.zero_add, List.getElem?_cons_zero, Option.bind_some]
    rw [List.getElem?_append_left (by rw [hf]; exact hj)]
  | x :: xs, i + 1, j, hj => by
    rw [List.flatMap_cons, List.getElem?_append_right (by rw [hf, Nat.add_mul]; omega), hf, show (i + 1) * z + j - z = i * z + j from by rw [Nat.add_mul]; omega]
    simpa using flat_at f z hf xs i j hj
theorem flat_len {α : Type} (f : α → List Value) (z : Nat) (hf : ∀ a, (f a).length = z) : ∀ (xs : List α), (xs.flatMap f).length = xs.length * z
  | [] => by simp
  | x :: xs => by rw [List.flatMap_cons, List.length_append, hf, flat_len f z hf xs, List.length_cons, Nat.add_mul]; omega

/-! bytes -/
def u8s (bs : List UInt8) : List Value := bs.map fun b => .int .u8 (b.toNat : Int)
theorem u8s_len (bs : List UInt8) : (u8s bs).length = bs.length := by simp [u8s]
theorem u8s_at (bs : List UInt8) (i : Nat) (h : i < bs.length) : (u8s bs)[i]? = some (.int .u8 (bs[i].toNat : Int)) := by simp [u8s, h]
theorem u8s_append (a b : List UInt8) : u8s (a ++ b) = u8s a ++ u8s b := by simp [u8s]
theorem u8s_take (a : List UInt8) (n : Nat) : (u8s a).take n = u8s (a.take n) := by simp [u8s]
theorem u8s_drop (a : List UInt8) (n : Nat) : (u8s a).drop n = u8s (a.drop n) := by simp [u8s]
theorem u8s_one (l : List UInt8) : ∀ v ∈ u8s l, v.oneCell' = true := by
  intro v hv
  simp only [u8s, List.mem_map] at hv
  obtain ⟨b, _, rfl⟩ := hv
  rfl
/-- block g is just these bytes -/
def BytesBlk (w : World) (g : Nat) (t : TypeId) (bs : List UInt8) : Prop := w.heap[g]? = some (.cells (u8s bs).toArray t (0, 0))

theorem BytesBlk.cell {w : World} {g : Nat} {t : TypeId} {bs : List UInt8} (h : BytesBlk w g t bs) (i : Nat) (hi : i < bs.length) : w.cell? ⟨g, i, none⟩ = some (.int .u8 (bs[i].toNat : Int)) := by
  rw [cell_of_row w g i _ _ _ h]
  simpa using u8s_at bs i hi
theorem BytesBlk.below {w w' : World} {g B : Nat} {t : TypeId} {bs : List UInt8} (h : BytesBlk w g t bs) (hb : Below B w w') (hg : g < B) : BytesBlk w' g t bs := (hb.block g hg).trans h
theorem BytesBlk.lt {w : World} {g : Nat} {t : TypeId} {bs : List UInt8} (h : BytesBlk w g t bs) : g < w.heap.size := (Array.getElem?_eq_some_iff.1 h).1

/-- these bytes over those, from place o on -/
def lay (cur : List UInt8) (o : Nat) (new : List UInt8) : List UInt8 := cur.take o ++ new ++ cur.drop (o + new.length)
theorem lay_len (cur : List UInt8) (o : Nat) (new : List UInt8) (h : o + new.length ≤ cur.length) : (lay cur o new).length = cur.length := by simp [lay]; omega

theorem run_copy_text {P : Program} (w : World) (dT sT ty elem : TypeId) (g o dLen dCap : Nat) (s : ByteArray) (bs : List UInt8) (t : TypeId)
    (hu : P.underlying dT = some (.slice elem)) (hs : (P.info? elem).map (·.size) = some 1) (hg : BytesBlk w g t bs) (hfit : o + min s.size dLen ≤ bs.length) :
    (Builtin.copy_ #[dT, sT] ty #[.slice (some ⟨g, o, none⟩) dLen dCap, .string s]).run P w =
      .ok (goInt (min s.size dLen)) (w.setRow g (u8s (lay bs o (s.data.toList.take (min s.size dLen)))).toArray) := by
  have hn : (s.data.toList.take (min s.size dLen)).length = min s.size dLen := by simp
  have hst := run_storeCells_at P g o t (u8s (s.data.toList.take (min s.size dLen))) 0 (u8s bs).toArray w hg (by rw [u8s_len, hn]; simpa [u8s_len] using hfit) (u8s_one _)
  simp only [Nat.add_zero, u8s_len, hn] at hst
  cases hq : P.info? elem with
  | none => simp [hq] at hs
  | some i =>
    simp [Builtin.copy_, run_underlying hu, Builtin.lenOf, Builtin.firstCells, sizeOf, typeInfo, hq]
    have e : List.map (fun b : UInt8 => Value.int IntKind.u8 (b.toNat : Int)) (List.take (min s.size dLen) s.data.toList) = u8s (s.data.toList.take (min s.size dLen)) := rfl
    have e2 : s.size.min dLen = min s.size dLen := rfl
    rw [e2, ← List.map_take, e, hst]
    have e3 : (min s.size dLen : Nat) = min (s.size : Int) (dLen : Int) := by omega
    simp only [Result.andThen_ok]
    rw [e3]
    congr 2
    unfold lay
    rw [u8s_append, u8s_append, ← u8s_take, ← u8s_drop, ← u8s_take, hn]

theorem fold_bytes : ∀ (l : List UInt8) (r : ByteArray), (l.map fun b => (b.toNat : Int)).foldl (fun r n => r.push (UInt8.ofNat n.toNat)) r = ⟨(r.data.toList ++ l).toArray⟩
  | [], r => by cases r; simp
  | b :: l, r => by
    rw [List.map_cons, List.foldl_cons, fold_bytes l]
    simp [ByteArray.push]

theorem run_text_of {P : Program} (w : World) (src dst e : TypeId) (g o l c : Nat) (t : TypeId) (bs : List UInt8)
    (hs : P.underlying src = some (.slice e)) (he : P.underlying e = some (.int .u8)) (hd : P.underlying dst = some .string) (hg : BytesBlk w g t bs) (hl : o + l ≤ bs.length) :
    (convert src dst (.slice (some ⟨g, o, none⟩) l c)).run P w = .ok (.string ⟨((bs.drop o).take l).toArray⟩) w := by
  rw [run_convert_bytes_string w src dst e _ _ _ hs he hd]
  have hload := run_loadCells_list (P := P) w ⟨g, o, none⟩ (u8s ((bs.drop o).take l)) (by
    intro j v hv
    rw [add_zero_off, cell_of_row w g _ _ _ _ hg]
    rw [← u8s_take, ← u8s_drop, List.getElem?_take, List.getElem?_drop] at hv
    split at hv
    · simpa using hv
    · cases hv)
  have e : u8s ((bs.drop o).take l) = (((bs.drop o).take l).map fun b => (b.toNat : Int)).map (Value.int .u8) := by
    unfold u8s; rw [List.map_map]; rfl
  have hl2 : ((bs.drop o).take l).length = l := by simp; omega
  rw [u8s_len, hl2, e] at hload
  rw [run_bytesToString w _ l c _ hload]
  rw [fold_bytes]
  rfl

/-! a whole row stored: the world behind it under a name of its own -/
theorem setRow_grown (w : World) (g : Nat) (cs : Array Value) : w.grownBy (w.setRow g cs) (some g) :=
  ⟨rfl, rfl, rfl, by simp [World.setRow], fun k hk hn => setRow_other w g k cs (by rintro rfl; exact hn rfl)⟩
theorem wpList_store_row_k {P : Program} {ops : Array Oper} {rest : List Oper} {o : Oper} {a : Act} {w : World} {Q : Exit → Act → World → Prop} (hgd : o.guard = none) (ty : TypeId) (x y : Operand) (ho : o.op = .store ty x y)
    (g : Nat) (cells : Array Value) (hx : a.eval x = .pointer (some ⟨g, 0, none⟩)) (hy : a.eval y = .agg cells)
    (t : TypeId) (old : Array Value) (hg : w.heap[g]? = some (.cells old t (0, 0))) (hi : (P.info? ty).map (·.size) = some cells.size)
    (hold : old.size = cells.size) (h1 : cells.all (·.oneCell') = true)
    (h : ∀ w', w'.heap[g]? = some (.cells cells t (0, 0)) → w.grownBy w' (some g) → w'.heap.size = w.heap.size → wpList P ops Q rest (a.put o.dst undef) w') : wpList P ops Q (o :: rest) a w :=
  wpList_store_row hgd ty x y ho g cells hx hy t old hg hi hold h1 (h _ (setRow_heap w g old cells t _ hg) (setRow_grown w g cells) (by simp [World.setRow]))

/-- 'copy(dst, text)' into a block of bytes: the world behind it under a name of its own -/
theorem wpList_copy_text_k {P : Program} {ops : Array Oper} {rest : List Oper} {o : Oper} {a : Act} {w : World} {Q : Exit → Act → World → Prop} (hgd : o.guard = none) (d s : Operand) (dT sT : TypeId)
    (ho : o.op = .call { callee := .builtin .copy, args := #[d, s], argTypes := #[dT, sT] }) (elem : TypeId) (hu : P.underlying dT = some (.slice elem)) (hs : (P.info? elem).map (·.size) = some 1)
    (g off dLen dCap : Nat) (txt : ByteArray) (bs : List UInt8) (t : TypeId) (hd : a.eval d = .slice (some ⟨g, off, none⟩) dLen dCap) (hx : a.eval s = .string txt)
    (hg : BytesBlk w g t bs) (hfit : off + min txt.size dLen ≤ bs.length)
    (h : ∀ w', BytesBlk w' g t (lay bs off (txt.data.toList.take (min txt.size dLen))) → w.grownBy w' (some g) → w'.heap.size = w.heap.size → wpList P ops Q rest (a.put o.dst (goInt (min txt.size dLen))) w') : wpList P ops Q (o :: rest) a w := by
  refine wpList_plain hgd fun K hK => ?_
  have hrun := run_copy_text (P := P) w dT sT o.type elem g off dLen dCap txt bs t hu hs hg hfit
  unfold Oper.wp
  simp [execOp, ho, resolve, invoke, builtin, hd, hx, hrun, Result.andThen]
  exact hK _ _ (by simpa using h _ (setRow_heap w g _ _ t _ hg) (setRow_grown w g _) (by simp [World.setRow]))
end Go.Proofs.Ytgoonccjdoajnab
