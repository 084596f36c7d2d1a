/- The contract of ValidRun of the program (chapter 4). Conditions: the items lie in a row; they are few; their texts are no longer than memory. -/
import Derived.Test.YtcaekjbalkbliaaRunC
import Derived.BigRegion
set_option linter.unusedVariables false
set_option linter.unusedSimpArgs false
namespace Go.Proofs.Ytcaekjbalkbliaa
open Go.RowKit Go.ChangeShapes Go.WideShapes

end Go.Proofs.Ytcaekjbalkbliaa
