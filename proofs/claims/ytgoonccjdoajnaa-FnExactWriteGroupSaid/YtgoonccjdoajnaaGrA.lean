/- A group as an argument of an exact law: how it is opened, where it lies. No condition. -/
import Derived.Test.YtgoonccjdoajnaaGrG
set_option linter.unusedVariables false
set_option linter.unusedSimpArgs false
namespace Go.Proofs.Ytgoonccjdoajnaa
open Go.RowKit Go.ChangeShapes Go.WideShapes

theorem cellsGroup : Try.prog.cellsOf 24 = 3 := by kernel_rfl
theorem BoxGL.start {w : World} {A : Option Addr} {n c : Nat} {ld tm : Int} : BoxG w A n c ld tm (w.alloc (.cells #[.slice A n c, .int .i64 ld, .int .i64 tm] 24)) :=
  ⟨(Below.refl _ _).alloc (Nat.le_refl _) _, by simp, by simp, by simp, by simp⟩
theorem BoxGI.start {w : World} {A : Option Addr} {n c : Nat} {ld tm : Int} : BoxG w A n c ld tm (w.alloc (.cells #[.slice A n c, .int .i64 ld, .int .i64 tm] 29)) := BoxG.start
end Go.Proofs.Ytgoonccjdoajnaa
