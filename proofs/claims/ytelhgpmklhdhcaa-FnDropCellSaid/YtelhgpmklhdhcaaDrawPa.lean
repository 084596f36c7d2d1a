/- The drawn page's variable and its steps (the model's generator somePage). Condition: the reader lies in its block. -/
import Derived.Test.YtelhgpmklhdhcaaDrawO
import Derived.Test.YtelhgpmklhdhcaaDrawA
import Derived.Test.YtelhgpmklhdhcaaPutS
import Derived.Test.YtelhgpmklhdhcaaNewP
import Derived.Deep.RegionWith
set_option linter.unusedVariables false
set_option linter.unusedSimpArgs false
namespace Go.Proofs.Ytelhgpmklhdhcaa
open Go.RowKit Go.ChangeShapes Go.WideShapes

def blockOfP : Option Addr → Option Nat
  | some a => some a.block
  | none => none
theorem block_sliceD (A : Option Addr) (n c : Nat) : (Value.slice A n c).ownBlock = blockOfP A := by cases A <;> rfl

/-- the page in its variable, the reader read on -/
structure PgS (w : World) (r b m M : Nat) (s : ByteArray) (l : List Sl) (A : Option Addr) (c : Nat) (W : World) : Prop where
  rd : Rdr 120 W r M
  gr : w.grownBy W (some r)
  rl : r < w.heap.size
  wb : w.heap.size < b
  bW : b < W.heap.size
  len : m = l.length
  p0 : W.cell? ⟨b, 0, none⟩ = some (.string s)
  p1 : W.cell? ⟨b, 1, none⟩ = some (.slice A m c)
  q0 : W.frozen? ⟨b, 0, none⟩ = false
  q1 : W.frozen? ⟨b, 1, none⟩ = false
  z0 : W.cell? ⟨w.heap.size, 0, none⟩ = some (.string ⟨#[]⟩)
  z1 : W.cell? ⟨w.heap.size, 1, none⟩ = some (.slice none 0 0)
  y0 : W.frozen? ⟨w.heap.size, 0, none⟩ = false
  y1 : W.frozen? ⟨w.heap.size, 1, none⟩ = false
  own : W.ownsRow (w.heap.size + 1) 81 2 (.slice A m c) m (slC l)
  ne : blockOfP A ≠ some b
section
variable {w : World} {r b m M M' : Nat} {s : ByteArray} {l : List Sl} {A : Option Addr} {c : Nat} {W W' : World}
theorem PgS.grow (k : PgS w r b m M s l A c W) (hg : W.grownBy W' (some r)) (hR : Rdr 120 W' r M') : PgS w r b m M' s l A c W' := by
  have rl := k.rl
  have wb := k.wb
  have bW := k.bW
  have cl : ∀ q o, q ≠ r → q < W.heap.size → W'.cell? ⟨q, o, none⟩ = W.cell? ⟨q, o, none⟩ := fun q o hq hlt => World.cell?_of_block (hg.block q hlt (fun e => hq (by injection e)))
  have cf : ∀ q o, q ≠ r → q < W.heap.size → W'.frozen? ⟨q, o, none⟩ = W.frozen? ⟨q, o, none⟩ := fun q o hq hlt => World.frozen?_of_block (hg.block q hlt (fun e => hq (by injection e)))
  exact { rd := hR, gr := grown_far k.gr hg (fun q hq => .inr (by injection hq with hq; exact hq.symm)), rl := rl, wb := wb, bW := Nat.lt_of_lt_of_le bW hg.size, len := k.len,
          p0 := (cl _ _ (by omega) bW).trans k.p0, p1 := (cl _ _ (by omega) bW).trans k.p1, q0 := (cf _ _ (by omega) bW).trans k.q0, q1 := (cf _ _ (by omega) bW).trans k.q1,
          z0 := (cl _ _ (by omega) (by omega)).trans k.z0, z1 := (cl _ _ (by omega) (by omega)).trans k.z1, y0 := (cf _ _ (by omega) (by omega)).trans k.y0, y1 := (cf _ _ (by omega) (by omega)).trans k.y1,
          own := k.own.kept hg (by
            rw [block_sliceD]
            cases hq : blockOfP A with
            | none => exact .inl rfl
            | some q => exact .inr (fun e => by injection e with e; have := k.own.lt q (by rw [block_sliceD]; exact hq); omega)), ne := k.ne }
theorem PgS.keep (k : PgS w r b m M s l A c W) (hb : Below W.heap.size W W') : PgS w r b m M s l A c W' :=
  k.grow (grown_of_below hb) (k.rd.below hb k.rd.lt)
theorem PgS.drew (k : PgS w r b m M s l A c W) : PgS w r b m M s l A c W.drew := k.keep (Below.drew (Below.refl _ _))
theorem PgS.alloc (k : PgS w r b m M s l A c W) (o : Obj) : PgS w r b m M s l A c (W.alloc o) := k.keep ((Below.refl _ _).alloc (Nat.le_refl _) _)
theorem PgS.more (k : PgS w r b m M s l A c W) (hM : M ≤ M') : PgS w r b m M' s l A c W := { k with rd := k.rd.more hM }
/-- another page is put into the variable -/
theorem PgS.put (k : PgS w r b m M s l A c W) {S : ByteArray} {L : List Sl} {m' : Nat} {A' : Option Addr} {c' B : Nat} (ho : W.ownsRow B 81 2 (.slice A' m' c') m' (slC L)) (hL : m' = L.length) (hB : b < B) :
    PgS w r b m' M S L A' c' ((W.setCell ⟨b, 0, none⟩ (.string S)).setCell ⟨b, 1, none⟩ (.slice A' m' c')) := by
  have rl := k.rl
  have wb := k.wb
  have bW := k.bW
  have hg : W.grownBy ((W.setCell ⟨b, 0, none⟩ (.string S)).setCell ⟨b, 1, none⟩ (.slice A' m' c')) (some b) := (grown_setCell _).trans' (grown_setCell _)
  have cl : ∀ p o', p ≠ b → p < W.heap.size → ((W.setCell ⟨b, 0, none⟩ (.string S)).setCell ⟨b, 1, none⟩ (.slice A' m' c')).cell? ⟨p, o', none⟩ = W.cell? ⟨p, o', none⟩ := fun p o' hp hlt => World.cell?_of_block (hg.block p hlt (fun e => hp (by injection e)))
  have a0 := k.p0
  have a1 := k.p1
  have hne : blockOfP A' ≠ some b := fun e => by have := (ho.lt b (by rw [block_sliceD]; exact e)).1; omega
  exact { rd := k.rd.keep fun i hi => hg.block i (by omega) (fun e => by injection e; omega), gr := grown_far k.gr hg (fun q' hq' => .inl (by injection hq' with hq'; omega)), rl := rl, wb := wb, bW := Nat.lt_of_lt_of_le bW hg.size, len := hL,
          p0 := by simp [go_sem, a0, a1], p1 := by simp [go_sem, a0, a1], q0 := by simpa using k.q0, q1 := by simpa using k.q1,
          z0 := (cl _ _ (by omega) (by omega)).trans k.z0, z1 := (cl _ _ (by omega) (by omega)).trans k.z1, y0 := by simpa using k.y0, y1 := by simpa using k.y1,
          own := own_mono (ho.kept hg (by rw [block_sliceD]; exact .inr hne)) (by omega), ne := hne }
/-- other bytes -/
theorem PgS.bytes (k : PgS w r b m M s l A c W) (S : ByteArray) : PgS w r b m M S l A c (W.setCell ⟨b, 0, none⟩ (.string S)) := by
  have rl := k.rl
  have wb := k.wb
  have bW := k.bW
  have hg : W.grownBy (W.setCell ⟨b, 0, none⟩ (.string S)) (some b) := grown_setCell _
  have cl : ∀ p o', p ≠ b → p < W.heap.size → (W.setCell ⟨b, 0, none⟩ (.string S)).cell? ⟨p, o', none⟩ = W.cell? ⟨p, o', none⟩ := fun p o' hp hlt => World.cell?_of_block (hg.block p hlt (fun e => hp (by injection e)))
  have a0 := k.p0
  have a1 := k.p1
  exact { rd := k.rd.keep fun i hi => hg.block i (by omega) (fun e => by injection e; omega), gr := grown_far k.gr hg (fun q' hq' => .inl (by injection hq' with hq'; omega)), rl := rl, wb := wb, bW := Nat.lt_of_lt_of_le bW hg.size, len := k.len,
          p0 := by simp [go_sem, a0, a1], p1 := by simp [go_sem, a0, a1], q0 := by simpa using k.q0, q1 := by simpa using k.q1,
          z0 := (cl _ _ (by omega) (by omega)).trans k.z0, z1 := (cl _ _ (by omega) (by omega)).trans k.z1, y0 := by simpa using k.y0, y1 := by simpa using k.y1,
          own := k.own.kept hg (by rw [block_sliceD]; exact .inr k.ne), ne := k.ne }
theorem PgS.ptr (k : PgS w r b m M s l A c W) (h1 : 0 < m) : ∃ g, A = some ⟨g, 0, none⟩ ∧ w.heap.size + 1 ≤ g ∧ g < W.heap.size := own_some k.own h1
theorem PgS.slot {g : Nat} (k : PgS w r b m M s l (some ⟨g, 0, none⟩) c W) (h1 : 0 < m) : (∃ u, W.cell? ⟨g, 0, none⟩ = some u) ∧ W.frozen? ⟨g, 0, none⟩ = false := by
  have hl := k.len
  obtain ⟨e0, _, e2, _⟩ := own_slot k.own k.len (k := 0) (by omega)
  rw [Nat.zero_mul] at e0 e2
  exact ⟨⟨_, e0⟩, e2⟩
/-- the first slot's place is written -/
theorem PgS.at0 {g : Nat} (k : PgS w r b m M s l (some ⟨g, 0, none⟩) c W) (h1 : 0 < l.length) (y : Int) : PgS w r b m M s (l.set 0 (y, l[0].2)) (some ⟨g, 0, none⟩) c (W.setCell ⟨g, 0, none⟩ (.int .i64 y)) := by
  have rl := k.rl
  have wb := k.wb
  have bW := k.bW
  have hl := k.len
  have hgne : g ≠ b := fun e => k.ne (by rw [e]; rfl)
  have hgw := (k.own.lt g rfl).1
  have hg : W.grownBy (W.setCell ⟨g, 0, none⟩ (.int .i64 y)) (some g) := grown_setCell _
  have cl : ∀ p o', p ≠ g → p < W.heap.size → (W.setCell ⟨g, 0, none⟩ (.int .i64 y)).cell? ⟨p, o', none⟩ = W.cell? ⟨p, o', none⟩ := fun p o' hp hlt => World.cell?_of_block (hg.block p hlt (fun e => hp (by injection e)))
  have o1 := (k.own.stored 0 (.int .i64 y)).1
  have e1 := slC_set0 l 0 h1 y
  rw [Nat.zero_mul] at e1
  rw [e1] at o1
  exact { rd := k.rd.keep fun i hi => hg.block i (by omega) (fun e => by injection e; omega), gr := grown_far k.gr hg (fun q' hq' => .inl (by injection hq' with hq'; omega)), rl := rl, wb := wb, bW := Nat.lt_of_lt_of_le bW hg.size, len := by rw [List.length_set]; exact hl,
          p0 := (cl _ _ (fun e => hgne e.symm) bW).trans k.p0, p1 := (cl _ _ (fun e => hgne e.symm) bW).trans k.p1, q0 := by simpa using k.q0, q1 := by simpa using k.q1,
          z0 := (cl _ _ (by omega) (by omega)).trans k.z0, z1 := (cl _ _ (by omega) (by omega)).trans k.z1, y0 := by simpa using k.y0, y1 := by simpa using k.y1,
          own := o1, ne := k.ne }
/-- a page that the generator hands back -/
def PageDrawn (r M : Nat) (w : World) (e : Ending) (w' : World) : Prop :=
  ∃ (s : ByteArray) (l : List Sl) (m : Nat) (A : Option Addr) (c : Nat), e = .returned (.agg #[.string s, .slice A m c]) ∧ m = l.length ∧ m ≤ 24 ∧ s.size ≤ 100 ∧ Wf l ∧ w'.ownsRow w.heap.size 81 2 (.slice A m c) m (slC l) ∧ Rdr 120 w' r M ∧ w.grownBy w' (some r)
theorem PgS.fin (k : PgS w r b m M s l A c W) (hm : m ≤ 24) (hs : s.size ≤ 100) (hw : Wf l) : PageDrawn r M w (.returned (.agg #[.string s, .slice A m c])) ((W.setCell ⟨w.heap.size, 0, none⟩ (.string s)).setCell ⟨w.heap.size, 1, none⟩ (.slice A m c)) := by
  have rl := k.rl
  have hg : W.grownBy ((W.setCell ⟨w.heap.size, 0, none⟩ (.string s)).setCell ⟨w.heap.size, 1, none⟩ (.slice A m c)) (some w.heap.size) := (grown_setCell _).trans' (grown_setCell _)
  refine ⟨s, l, m, A, c, rfl, k.len, hm, hs, hw, own_mono (k.own.kept hg ?_) (by omega), k.rd.keep fun i hi => hg.block i (by have := k.rd.lt; omega) (fun e => by injection e; omega), grown_far k.gr hg (fun q hq => .inl (by injection hq with hq; omega))⟩
  rw [block_sliceD]
  cases hq : blockOfP A with
  | none => exact .inl rfl
  | some q => exact .inr (fun e => by injection e with e; have := (k.own.lt q (by rw [block_sliceD]; exact hq)).1; omega)
end
end Go.Proofs.Ytelhgpmklhdhcaa
