/- Contracts of the exact laws' own helpers on pages: szPage, toPage, eqPage. Conditions: the slots lie in a row. -/
import Derived.Test.YtelhgpmklhdhcaaPageM
import Derived.StillTailTactics
import Derived.Deep.RegionWith
set_option linter.unusedVariables false
set_option linter.unusedSimpArgs false
namespace Go.Proofs.Ytelhgpmklhdhcaa
open Go.RowKit Go.ChangeShapes Go.WideShapes





end Go.Proofs.Ytelhgpmklhdhcaa
