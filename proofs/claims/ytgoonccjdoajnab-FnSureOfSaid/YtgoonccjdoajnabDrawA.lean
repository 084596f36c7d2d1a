/- Contracts of the model's draws of keys, cells and pages (chapter 1). No condition. -/
import Derived.Test.YtgoonccjdoajnabDraw
import Derived.Deep.RegionWith
set_option linter.unusedVariables false
set_option linter.unusedSimpArgs false
namespace Go.Proofs.Ytgoonccjdoajnab
open Go.RowKit Go.ChangeShapes Go.WideShapes



end Go.Proofs.Ytgoonccjdoajnab
