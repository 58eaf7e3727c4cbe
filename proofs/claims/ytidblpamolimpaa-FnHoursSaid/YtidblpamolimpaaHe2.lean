/- Valid items: the model. -/
import Derived.Test.YtidblpamolimpaaHe
import Derived.Laws.Cover1
namespace Go.Proofs.Ytidblpamolimpaa
open Go.ChangeShapes Go.WideShapes Go.ChangeAt Go.RowKit
set_option linter.unusedVariables false
set_option linter.unusedSimpArgs false
set_option maxRecDepth 100000

end Go.Proofs.Ytidblpamolimpaa
