/- The drawn pool (the model's generator): a pool of one to five frames of the call's own, the reader read on. Condition: the reader lies in its block. -/
import Derived.Test.YtompbkphdjjpdaaDrawT
import Derived.Test.YtompbkphdjjpdaaPoolLT
import Derived.Test.YtompbkphdjjpdaaPoolJ
import Derived.Test.YtompbkphdjjpdaaNewPool
import Derived.Deep.RegionWith
set_option linter.unusedVariables false
set_option linter.unusedSimpArgs false
namespace Go.Proofs.Ytompbkphdjjpdaa
open Go.RowKit Go.ChangeShapes Go.WideShapes

def outF (l : List Fr) (h p : Int) : List Fr × Int × Int × Bool :=
  match fetchR l h p with
  | some (L, h', k) => (L, (h' : Int), k, true)
  | none => ([], 0, -1, false)
theorem fetchR_len {l L : List Fr} {h p k : Int} {h' : Nat} (hq : fetchR l h p = some (L, h', k)) : L.length = l.length := by
  unfold fetchR at hq
  split at hq
  · rename_i hv
    split at hq
    · obtain ⟨h1, h5, h0, hl, hok⟩ := poolB_iff.1 hv
      rcases fetch_for (p := p) (l := l) (h := h.toNat) (by omega) (okL_good hok) with ⟨_, e⟩ | ⟨L2, i, h2, k2, _, hi, e1, _, _, e⟩
      · rw [e] at hq; cases hq
      · rw [e] at hq
        split at hq
        · cases hq
        · injection hq with hq
          injection hq with hq _
          rw [← hq, List.length_set, e1]
    · cases hq
  · cases hq
theorem leaveR_len {l L : List Fr} {h p : Int} (hq : leaveR l h p = some L) : L.length = l.length := by
  unfold leaveR leaveL at hq
  split at hq
  · split at hq
    · split at hq
      · split at hq
        · cases hq
        · injection hq with hq
          rw [← hq, List.length_set]
      · cases hq
    · cases hq
  · cases hq
/-- what the two hand back, told at once -/
def FetchU (L : List Fr) (m : Nat) (hv k : Int) (ok : Bool) (w : World) (e : Ending) (w' : World) : Prop :=
  ∃ A c, e = .returned (.tuple #[.agg #[.slice A m c, .int .i64 hv], .int .i64 k, .bool ok]) ∧ w'.ownsRow w.heap.size 49 3 (.slice A m c) m (frsC L) ∧ Below w.heap.size w w'
theorem FetchPost.tell {l : List Fr} {h p : Int} {w : World} : ∃ (L : List Fr) (m : Nat) (hv k : Int) (ok : Bool), m = L.length ∧ (ok = true → L.length = l.length) ∧ ∀ e w', FetchPost l h p w e w' → FetchU L m hv k ok w e w' := by
  cases hq : fetchR l h p with
  | none => exact ⟨[], 0, 0, -1, false, rfl, (fun h => by cases h), fun e w' hp => by
      unfold FetchPost at hp; rw [hq] at hp; exact ⟨none, 0, hp.1, World.ownsRow_nil _ _ _ _, hp.2⟩⟩
  | some x =>
    obtain ⟨L, h', k⟩ := x
    exact ⟨L, L.length, h', k, true, rfl, fun _ => fetchR_len hq, fun e w' hp => by
      unfold FetchPost at hp; rw [hq] at hp
      obtain ⟨v, rfl, ⟨A, c, rfl, hw⟩, hb⟩ := hp
      exact ⟨A, c, rfl, hw, hb⟩⟩
def LeaveU (L : List Fr) (m : Nat) (hv : Int) (ok : Bool) (w : World) (e : Ending) (w' : World) : Prop :=
  ∃ A c, e = .returned (.tuple #[.agg #[.slice A m c, .int .i64 hv], .bool ok]) ∧ w'.ownsRow w.heap.size 49 3 (.slice A m c) m (frsC L) ∧ Below w.heap.size w w'
theorem LeavePost.tell {l : List Fr} {h p : Int} {w : World} : ∃ (L : List Fr) (m : Nat) (hv : Int) (ok : Bool), m = L.length ∧ (ok = true → L.length = l.length) ∧ ∀ e w', LeavePost l h p w e w' → LeaveU L m hv ok w e w' := by
  cases hq : leaveR l h p with
  | none => exact ⟨[], 0, 0, false, rfl, (fun h => by cases h), fun e w' hp => by
      unfold LeavePost at hp; rw [hq] at hp; exact ⟨none, 0, hp.1, World.ownsRow_nil _ _ _ _, hp.2⟩⟩
  | some L =>
    exact ⟨L, L.length, h, true, rfl, fun _ => leaveR_len hq, fun e w' hp => by
      unfold LeavePost at hp; rw [hq] at hp
      obtain ⟨v, rfl, ⟨A, c, rfl, hw⟩, hb⟩ := hp
      exact ⟨A, c, rfl, hw, hb⟩⟩
theorem oneNewD_any (lo hi : Int) (r N m c : Nat) (cs : Array Value) (t : TypeId) (w : World) (h : Rdr 121 w r N) (hN : N ≤ 1000000) (hm : cs.size = m) (hm0 : 1 ≤ m) (hm1 : m ≤ 1000) (hs : intsIn lo hi cs.toList = true) :
    Calls Try.prog 75 #[.pointer (some ⟨r, 0, none⟩), .slice (some ⟨w.heap.size, 0, none⟩) m c] (w.alloc (.cells cs t)).drew (OnePost lo hi r N w) := by
  have hr := h.lt
  refine (one_any r N w.heap.size m c cs.toList (w.alloc (.cells cs t)).drew ((h.alloc _).drew) hN (by simpa using hm) hm0 hm1 (by
    have h0 : ListAt (w.alloc (.cells cs t)) w.heap.size cs.toList := by simpa using ListAt.new (w := w) cs.toList t
    exact fun i v hi => h0 i v hi) (by omega) (fun v hv => by
    obtain ⟨s, e, _⟩ := intsIn_out hs v hv
    exact ⟨s, e⟩)).mono ?_
  rintro e w' ⟨v, rfl, hv, hr2, hg⟩
  obtain ⟨s, rfl, h1, h2⟩ := intsIn_out hs v hv
  exact ⟨s, rfl, h1, h2, hr2, ((World.grownBy_alloc w _ _).trans' grown_drew).trans' hg⟩

/-- the pool in its variable, the reader read on -/
structure SpAt (w : World) (r b m M : Nat) (l : List Fr) (h : Int) (A : Option Addr) (c : Nat) (W : World) : Prop where
  rd : Rdr 121 W r M
  gr : w.grownBy W (some r)
  rl : r < w.heap.size
  wb : w.heap.size < b
  bW : b < W.heap.size
  len : m = l.length
  p0 : W.cell? ⟨b, 0, none⟩ = some (.slice A m c)
  p1 : W.cell? ⟨b, 1, none⟩ = some (.int .i64 h)
  q0 : W.frozen? ⟨b, 0, none⟩ = false
  q1 : W.frozen? ⟨b, 1, none⟩ = false
  z0 : W.cell? ⟨w.heap.size, 0, none⟩ = some (.slice none 0 0)
  z1 : W.cell? ⟨w.heap.size, 1, none⟩ = some (.int .i64 0)
  y0 : W.frozen? ⟨w.heap.size, 0, none⟩ = false
  y1 : W.frozen? ⟨w.heap.size, 1, none⟩ = false
  own : W.ownsRow (w.heap.size + 1) 49 3 (.slice A m c) m (frsC l)
  ne : blockOfF A ≠ some b
section
variable {w : World} {r b m M M' : Nat} {l : List Fr} {h : Int} {A : Option Addr} {c : Nat} {W W' : World}
theorem block_sliceS (A : Option Addr) (n c : Nat) : (Value.slice A n c).ownBlock = blockOfF A := by cases A <;> rfl
theorem SpAt.grow (k : SpAt w r b m M l h A c W) (hg : W.grownBy W' (some r)) (hR : Rdr 121 W' r M') : SpAt w r b m M' l h A c W' := by
  have rl := k.rl
  have wb := k.wb
  have bW := k.bW
  have cl : ∀ q o, q ≠ r → q < W.heap.size → W'.cell? ⟨q, o, none⟩ = W.cell? ⟨q, o, none⟩ := fun q o hq hlt => World.cell?_of_block (hg.block q hlt (fun e => hq (by injection e)))
  have cf : ∀ q o, q ≠ r → q < W.heap.size → W'.frozen? ⟨q, o, none⟩ = W.frozen? ⟨q, o, none⟩ := fun q o hq hlt => World.frozen?_of_block (hg.block q hlt (fun e => hq (by injection e)))
  exact { rd := hR, gr := grown_far k.gr hg (fun q hq => .inr (by injection hq with hq; exact hq.symm)), rl := rl, wb := wb, bW := Nat.lt_of_lt_of_le bW hg.size, len := k.len,
          p0 := (cl _ _ (by omega) bW).trans k.p0, p1 := (cl _ _ (by omega) bW).trans k.p1, q0 := (cf _ _ (by omega) bW).trans k.q0, q1 := (cf _ _ (by omega) bW).trans k.q1,
          z0 := (cl _ _ (by omega) (by omega)).trans k.z0, z1 := (cl _ _ (by omega) (by omega)).trans k.z1, y0 := (cf _ _ (by omega) (by omega)).trans k.y0, y1 := (cf _ _ (by omega) (by omega)).trans k.y1,
          own := k.own.kept hg (by
            rw [block_sliceS]
            cases hq : blockOfF A with
            | none => exact .inl rfl
            | some q => exact .inr (fun e => by injection e with e; have := k.own.lt q (by rw [block_sliceS]; exact hq); omega)), ne := k.ne }
theorem SpAt.keep (k : SpAt w r b m M l h A c W) (hb : Below W.heap.size W W') : SpAt w r b m M l h A c W' :=
  k.grow (grown_of_below hb) (k.rd.below hb k.rd.lt)
theorem SpAt.drew (k : SpAt w r b m M l h A c W) : SpAt w r b m M l h A c W.drew := k.keep (Below.drew (Below.refl _ _))
theorem SpAt.alloc (k : SpAt w r b m M l h A c W) (o : Obj) : SpAt w r b m M l h A c (W.alloc o) := k.keep ((Below.refl _ _).alloc (Nat.le_refl _) _)
/-- a cell of another block, made since -/
theorem SpAt.other (k : SpAt w r b m M l h A c W) {q o : Nat} (v : Value) (hq : b < q) (hA : blockOfF A ≠ some q) : SpAt w r b m M l h A c (W.setCell ⟨q, o, none⟩ v) := by
  have rl := k.rl
  have wb := k.wb
  have bW := k.bW
  have hg : W.grownBy (W.setCell ⟨q, o, none⟩ v) (some q) := grown_setCell v
  have cl : ∀ p o', p ≠ q → p < W.heap.size → (W.setCell ⟨q, o, none⟩ v).cell? ⟨p, o', none⟩ = W.cell? ⟨p, o', none⟩ := fun p o' hp hlt => World.cell?_of_block (hg.block p hlt (fun e => hp (by injection e)))
  exact { rd := k.rd.keep fun i hi => hg.block i (by omega) (fun e => by injection e; omega), gr := grown_far k.gr hg (fun q' hq' => .inl (by injection hq' with hq'; omega)), rl := rl, wb := wb, bW := Nat.lt_of_lt_of_le bW hg.size, len := k.len,
          p0 := (cl _ _ (by omega) bW).trans k.p0, p1 := (cl _ _ (by omega) bW).trans k.p1, q0 := by simpa using k.q0, q1 := by simpa using k.q1,
          z0 := (cl _ _ (by omega) (by omega)).trans k.z0, z1 := (cl _ _ (by omega) (by omega)).trans k.z1, y0 := by simpa using k.y0, y1 := by simpa using k.y1,
          own := k.own.kept hg (by rw [block_sliceS]; exact .inr hA), ne := k.ne }
theorem SpAt.put (k : SpAt w r b m M l h A c W) {L : List Fr} {hv : Int} {A' : Option Addr} {c' B : Nat} (ho : W.ownsRow B 49 3 (.slice A' m c') m (frsC L)) (hL : m = L.length) (hB : b < B) :
    SpAt w r b m M L hv A' c' ((W.setCell ⟨b, 0, none⟩ (.slice A' m c')).setCell ⟨b, 1, none⟩ (.int .i64 hv)) := by
  have rl := k.rl
  have wb := k.wb
  have bW := k.bW
  have hg : W.grownBy ((W.setCell ⟨b, 0, none⟩ (.slice A' m c')).setCell ⟨b, 1, none⟩ (.int .i64 hv)) (some b) := (grown_setCell _).trans' (grown_setCell _)
  have cl : ∀ p o', p ≠ b → p < W.heap.size → ((W.setCell ⟨b, 0, none⟩ (.slice A' m c')).setCell ⟨b, 1, none⟩ (.int .i64 hv)).cell? ⟨p, o', none⟩ = W.cell? ⟨p, o', none⟩ := fun p o' hp hlt => World.cell?_of_block (hg.block p hlt (fun e => hp (by injection e)))
  have a0 := k.p0
  have a1 := k.p1
  have hne : blockOfF A' ≠ some b := fun e => by have := (ho.lt b (by rw [block_sliceS]; exact e)).1; omega
  exact { rd := k.rd.keep fun i hi => hg.block i (by omega) (fun e => by injection e; omega), gr := grown_far k.gr hg (fun q' hq' => .inl (by injection hq' with hq'; omega)), rl := rl, wb := wb, bW := Nat.lt_of_lt_of_le bW hg.size, len := hL,
          p0 := by simp [go_sem, a0, a1], p1 := by simp [go_sem, a0, a1], q0 := by simpa using k.q0, q1 := by simpa using k.q1,
          z0 := (cl _ _ (by omega) (by omega)).trans k.z0, z1 := (cl _ _ (by omega) (by omega)).trans k.z1, y0 := by simpa using k.y0, y1 := by simpa using k.y1,
          own := own_monoF (ho.kept hg (by rw [block_sliceS]; exact .inr hne)) (by omega), ne := hne }
theorem SpAt.hand (k : SpAt w r b m M l h A c W) (hv : Int) : SpAt w r b m M l hv A c (W.setCell ⟨b, 1, none⟩ (.int .i64 hv)) := by
  have rl := k.rl
  have wb := k.wb
  have bW := k.bW
  have hg : W.grownBy (W.setCell ⟨b, 1, none⟩ (.int .i64 hv)) (some b) := grown_setCell _
  have cl : ∀ p o', p ≠ b → p < W.heap.size → (W.setCell ⟨b, 1, none⟩ (.int .i64 hv)).cell? ⟨p, o', none⟩ = W.cell? ⟨p, o', none⟩ := fun p o' hp hlt => World.cell?_of_block (hg.block p hlt (fun e => hp (by injection e)))
  have a0 := k.p0
  have a1 := k.p1
  exact { rd := k.rd.keep fun i hi => hg.block i (by omega) (fun e => by injection e; omega), gr := grown_far k.gr hg (fun q' hq' => .inl (by injection hq' with hq'; omega)), rl := rl, wb := wb, bW := Nat.lt_of_lt_of_le bW hg.size, len := k.len,
          p0 := by simp [go_sem, a0, a1], p1 := by simp [go_sem, a0, a1], q0 := by simpa using k.q0, q1 := by simpa using k.q1,
          z0 := (cl _ _ (by omega) (by omega)).trans k.z0, z1 := (cl _ _ (by omega) (by omega)).trans k.z1, y0 := by simpa using k.y0, y1 := by simpa using k.y1,
          own := k.own.kept hg (by rw [block_sliceS]; exact .inr k.ne), ne := k.ne }
end
def PoolDrawn (r M : Nat) (w : World) (e : Ending) (w' : World) : Prop :=
  ∃ (l : List Fr) (m : Nat) (h : Int) (A : Option Addr) (c : Nat), e = .returned (.agg #[.slice A m c, .int .i64 h]) ∧ m = l.length ∧ 1 ≤ m ∧ m ≤ 5 ∧ w'.ownsRow w.heap.size 49 3 (.slice A m c) m (frsC l) ∧ Rdr 121 w' r M ∧ w.grownBy w' (some r)
end Go.Proofs.Ytompbkphdjjpdaa
