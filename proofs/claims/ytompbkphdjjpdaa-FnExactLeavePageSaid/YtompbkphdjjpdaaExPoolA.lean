/- What the exact laws on pools share: a pool argument, how it is opened. No condition. -/
import Derived.Test.YtompbkphdjjpdaaExPool
import Derived.Test.YtompbkphdjjpdaaTraceM
import Derived.Test.YtompbkphdjjpdaaOpen
set_option linter.unusedVariables false
set_option linter.unusedSimpArgs false
namespace Go.Proofs.Ytompbkphdjjpdaa
open Go.RowKit Go.ChangeShapes Go.WideShapes

theorem cellsPool : Try.prog.cellsOf 24 = 2 := by kernel_rfl
section
variable {H : Type} {enc : TypeId × Value → H} {P : Program} {w : World} {base : Nat} {spare : Nat → Bool} {held : Bool}
theorem slice_shapeF {t e : TypeId} {fuel : Nat} {v : Value} {x : DataW H × List MemPlace} (ht : P.underlying t = some (.slice e)) (h : DataW.trod enc P w base spare held fuel t [v] = some x) : ∃ A n c, v = .slice A n c := by
  rcases Go.Deep.open_slice ht h with ⟨hcs, _⟩ | ⟨ad, len, cap, m, q, D, Pl, hcs, _⟩
  · exact ⟨none, 0, 0, by simpa using hcs⟩
  · exact ⟨some ad, len, cap, by simpa using hcs⟩
set_option maxRecDepth 100000 in
theorem wf_i64F {n : Int} (h : (Lit.int .i64 n).wf = true) : -9223372036854775808 ≤ n ∧ n ≤ 9223372036854775807 := by
  simpa [Lit.wf, IntKind.min, IntKind.max, IntKind.signed, IntKind.bits] using h
theorem frame_cells : Try.prog.cellsOf 115 = 3 := by kernel_rfl
theorem int_cellsF : Try.prog.cellsOf 3 = 1 := by kernel_rfl
theorem bool_cellsF : Try.prog.cellsOf 4 = 1 := by kernel_rfl
def GoodFr (p : Fr) : Prop := (-9223372036854775808 ≤ p.1 ∧ p.1 ≤ 9223372036854775807) ∧ (-9223372036854775808 ≤ p.2.1 ∧ p.2.1 ≤ 9223372036854775807)
set_option maxRecDepth 100000 in
theorem frame_read (m : Nat) (cs : List Value) (y : DataW H × List MemPlace) (hy : DataW.trod enc Try.prog w base spare held m 115 cs = some y) : ∃ a, cs = frC a ∧ GoodFr a := by
  obtain ⟨y0, y1, y2, q, _, hl, h0, h1, h2⟩ := Go.Deep.trod_struct3 Try.underlying115 hy
  rw [frame_cells] at hl
  match cs, hl with
  | [v0, v1, v2], _ =>
    obtain ⟨a, e0, _, w0⟩ := DataW.trod_int Try.underlying3 h0
    obtain ⟨b, e1, _, w1⟩ := DataW.trod_int Try.underlying3 h1
    obtain ⟨d, e2, _⟩ := DataW.trod_bool Try.underlying4 h2
    rw [int_cellsF] at e0 e1
    rw [bool_cellsF] at e2
    simp at e0 e1 e2
    subst e0 e1 e2
    exact ⟨(a, b, d), rfl, wf_i64F w0, wf_i64F w1⟩
/-- a pool argument, as it was read -/
def PoolArg (w : World) (A : Option Addr) (n c : Nat) (l : List Fr) : Prop := n = l.length ∧ n ≤ c ∧ c ≤ maxLen ∧ RowAt w w.heap.size A (frsC l) ∧ WfF l
theorem open_frames {fuel : Nat} {A : Option Addr} {n c : Nat} {x : DataW H × List MemPlace} (h : DataW.trod enc Try.prog w base spare held fuel 22 [.slice A n c] = some x) :
    ∃ l : List Fr, PoolArg w A n c l := by
  have hE : ∀ (m : Nat) (cs : List Value) (y : DataW H × List MemPlace), DataW.trod enc Try.prog w base spare held m 115 cs = some y → ∃ a, cs = frC a ∧ GoodFr a := frame_read
  obtain ⟨l, h1, h2, h3, h4, h5⟩ := open_rows frC GoodFr 3 (by decide) frC_len Try.underlying22 frame_cells hE h
  exact ⟨l, h1, h2, h3, h4, h5⟩
end
theorem block_sliceF (A : Option Addr) (n c : Nat) : (Value.slice A n c).ownBlock = blockOfF A := by cases A <;> rfl
theorem own_capF {w : World} {B n c z : Nat} {e : TypeId} {A : Option Addr} {xs : List Value} (h : w.ownsRow B e z (.slice A n c) n xs) : n ≤ c ∧ c ≤ maxLen := by
  rcases h.2 with ⟨hv, hn⟩ | ⟨g, cap, cur, hv, _, _, h1, h2, _⟩
  · injection hv with _ h1 h2
    subst h1 h2
    exact ⟨Nat.le_refl _, by simp [maxLen]⟩
  · injection hv with _ _ h3
    subst h3
    exact ⟨h1, h2⟩
end Go.Proofs.Ytompbkphdjjpdaa
