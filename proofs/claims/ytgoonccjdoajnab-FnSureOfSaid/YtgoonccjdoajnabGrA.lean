/- A group as an argument of an exact law: how it is opened, where it lies. No condition. -/
import Derived.Test.YtgoonccjdoajnabGrG
set_option linter.unusedVariables false
set_option linter.unusedSimpArgs false
namespace Go.Proofs.Ytgoonccjdoajnab
open Go.RowKit Go.ChangeShapes Go.WideShapes

theorem BoxGI.start {w : World} {A : Option Addr} {n c : Nat} {ld tm : Int} : BoxG w A n c ld tm (w.alloc (.cells #[.slice A n c, .int .i64 ld, .int .i64 tm] 25)) := BoxG.start
end Go.Proofs.Ytgoonccjdoajnab
