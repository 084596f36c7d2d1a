/- The contract of the model's TightPage (chapter 1). Conditions: the slots lie in a row. -/
import Derived.Test.YtelhgpmklhdhcaaTgi
set_option linter.unusedVariables false
set_option linter.unusedSimpArgs false
namespace Go.Proofs.Ytelhgpmklhdhcaa
open Go.RowKit Go.ChangeShapes Go.WideShapes

end Go.Proofs.Ytelhgpmklhdhcaa
