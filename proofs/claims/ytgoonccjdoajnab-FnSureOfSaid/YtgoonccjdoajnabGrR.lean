/- What WriteGroup, ShipTo and ElectLeader answer, in plain words, and a group in a box beside a variable for the answer. No condition. -/
import Derived.Test.YtgoonccjdoajnabGrQ
import Derived.Test.YtgoonccjdoajnabGrU
set_option linter.unusedVariables false
set_option linter.unusedSimpArgs false
namespace Go.Proofs.Ytgoonccjdoajnab
open Go.RowKit Go.ChangeShapes Go.WideShapes

/-- a group of the call's own, and whether it was done -/
def GOut (L : List (List En)) (ld tm : Int) (ok : Bool) (w : World) (e : Ending) (w' : World) : Prop := ∃ A c hs, e = .returned (.tuple #[.agg #[.slice A L.length c, .int .i64 ld, .int .i64 tm], .bool ok]) ∧ OwG w.heap.size A c hs L w' ∧ Below w.heap.size w w'
structure BoxR (w : World) (A : Option Addr) (n c : Nat) (ld tm : Int) (wr : World) : Prop where
  bx : BoxG w A n c ld tm wr
  sz : w.heap.size + 1 < wr.heap.size
  r0 : wr.cell? ⟨w.heap.size + 1, 0, none⟩ = some (.slice none 0 0)
  r1 : wr.cell? ⟨w.heap.size + 1, 1, none⟩ = some (.int .i64 0)
  r2 : wr.cell? ⟨w.heap.size + 1, 2, none⟩ = some (.int .i64 0)
  f0 : wr.frozen? ⟨w.heap.size + 1, 0, none⟩ = false
  f1 : wr.frozen? ⟨w.heap.size + 1, 1, none⟩ = false
  f2 : wr.frozen? ⟨w.heap.size + 1, 2, none⟩ = false
section
variable {w wr W : World} {A : Option Addr} {n c : Nat} {ld tm : Int}
theorem BoxR.start : BoxR w A n c ld tm ((w.alloc (.cells #[.slice A n c, .int .i64 ld, .int .i64 tm] 25)).alloc (.cells #[.slice none 0 0, .int .i64 0, .int .i64 0] 25)) :=
  ⟨BoxG.start.keep ((Below.refl _ _).alloc (Nat.le_refl _) _), by simp, by simp [go_sem], by simp [go_sem], by simp [go_sem], by simp [go_sem], by simp [go_sem], by simp [go_sem]⟩
theorem BoxR.keep (h : BoxR w A n c ld tm wr) (hb : Below wr.heap.size wr W) : BoxR w A n c ld tm W :=
  ⟨h.bx.keep hb, Nat.lt_of_lt_of_le h.sz hb.size, (hb.cell (p := ⟨w.heap.size + 1, 0, none⟩) h.sz).trans h.r0, (hb.cell (p := ⟨w.heap.size + 1, 1, none⟩) h.sz).trans h.r1, (hb.cell (p := ⟨w.heap.size + 1, 2, none⟩) h.sz).trans h.r2, (hb.frozen (p := ⟨w.heap.size + 1, 0, none⟩) h.sz).trans h.f0, (hb.frozen (p := ⟨w.heap.size + 1, 1, none⟩) h.sz).trans h.f1, (hb.frozen (p := ⟨w.heap.size + 1, 2, none⟩) h.sz).trans h.f2⟩
/-- behind the stores into the answer's variable: nothing was done -/
theorem BoxR.zero (h : BoxR w A n c ld tm wr) (u0 u1 u2 : Value) : OwG w.heap.size none 0 [] [] (((wr.setCell ⟨w.heap.size + 1, 0, none⟩ u0).setCell ⟨w.heap.size + 1, 1, none⟩ u1).setCell ⟨w.heap.size + 1, 2, none⟩ u2) ∧ Below w.heap.size w (((wr.setCell ⟨w.heap.size + 1, 0, none⟩ u0).setCell ⟨w.heap.size + 1, 1, none⟩ u1).setCell ⟨w.heap.size + 1, 2, none⟩ u2) :=
  ⟨OwG.zero _ _, ((h.bx.hb.setCell (by simp) _).setCell (by simp) _).setCell (by simp) _⟩
theorem BoxR.done (h : BoxR w A n c ld tm wr) {B c' : Nat} {A' : Option Addr} {hs : List GHd} {L : List (List En)} (ho : OwG B A' c' hs L wr) (hB : w.heap.size + 1 < B) (u0 u1 u2 : Value) : OwG w.heap.size A' c' hs L (((wr.setCell ⟨w.heap.size + 1, 0, none⟩ u0).setCell ⟨w.heap.size + 1, 1, none⟩ u1).setCell ⟨w.heap.size + 1, 2, none⟩ u2) ∧ Below w.heap.size w (((wr.setCell ⟨w.heap.size + 1, 0, none⟩ u0).setCell ⟨w.heap.size + 1, 1, none⟩ u1).setCell ⟨w.heap.size + 1, 2, none⟩ u2) :=
  ⟨(((ho.setBelow hB).setBelow hB).setBelow hB).mono (by omega), ((h.bx.hb.setCell (by simp) _).setCell (by simp) _).setCell (by simp) _⟩
end
/-! the answers -/
def okW (L : List (List En)) (ld tm id : Int) : Prop := okG L ld tm ∧ (0 ≤ id ∧ id ≤ 99) ∧ (leadL L ld).length ≠ 12
instance (L : List (List En)) (ld tm id : Int) : Decidable (okW L ld tm id) := by unfold okW; infer_instance
def outW (L : List (List En)) (ld tm id : Int) : List (List En) × Int × Int × Bool := if okW L ld tm id then (L.set ld.toNat (leadL L ld ++ [(tm, id)]), ld, tm, true) else ([], 0, 0, false)
def okS (L : List (List En)) (ld tm to up : Int) : Prop := okG L ld tm ∧ (0 ≤ to ∧ to < L.length) ∧ to ≠ ld ∧ ((inC (leadL L ld) (leadL L to) : Int) ≤ up ∧ up ≤ (leadL L ld).length)
instance (L : List (List En)) (ld tm to up : Int) : Decidable (okS L ld tm to up) := by unfold okS; infer_instance
def outS (L : List (List En)) (ld tm to up : Int) : List (List En) × Int × Int × Bool := if okS L ld tm to up then (L.set to.toNat ((leadL L ld).take up.toNat), ld, tm, true) else ([], 0, 0, false)
end Go.Proofs.Ytgoonccjdoajnab
