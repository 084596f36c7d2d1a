/- Contracts of the exact laws' own helpers on lists of truth values. Conditions: the row is the call's own; the numbers are small. -/
import Derived.Test.YtdpehojcoohjcabKepS
import Derived.Test.YtdpehojcoohjcabExInts
import Derived.Test.YtdpehojcoohjcabMark
set_option linter.unusedVariables false
set_option linter.unusedSimpArgs false
namespace Go.Proofs.Ytdpehojcoohjcab
open Go.RowKit Go.ChangeShapes Go.WideShapes

abbrev Bl := Bool
def blsC (l : List Bool) : List Value := blC l
def GoodBl (p : Bool) : Prop := True
theorem bls_at {w : World} {B : Nat} {A : Option Addr} {l : List Bool} {k : Nat} (h : RowAt w B A (blC l)) (hk : k < l.length) : ∃ b off, A = some ⟨b, off, none⟩ ∧ b < B ∧ w.cell? ⟨b, off + k, none⟩ = some (.bool l[k]) := by
  obtain ⟨b, off, rfl, hb, hc⟩ := h (by intro h0; have := blC_len l; rw [h0] at this; simp at this; omega)
  exact ⟨b, off, rfl, hb, hc _ _ (by simp [blC, hk])⟩
def mkBl (k : Int) (q : Nat) : Value := .bool ((k + (q : Int)) % 3 == 0)
theorem mkBl_0 (k : Int) (j : Nat) : mkBl k (j * 1) = .bool ((k + (j : Int)) % 3 == 0) := by
  unfold mkBl
  rw [Nat.mul_one]



end Go.Proofs.Ytdpehojcoohjcab
