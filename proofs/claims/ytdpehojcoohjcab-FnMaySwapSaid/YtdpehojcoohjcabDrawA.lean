/- Contracts of the model's draws of keys, cells and pages (chapter 1). No condition. -/
import Derived.Test.YtdpehojcoohjcabDraw
import Derived.Deep.RegionWith
set_option linter.unusedVariables false
set_option linter.unusedSimpArgs false
namespace Go.Proofs.Ytdpehojcoohjcab
open Go.RowKit Go.ChangeShapes Go.WideShapes



end Go.Proofs.Ytdpehojcoohjcab
