/- EndOf, WorthOf, IsProgramme: the model's own. -/
import Derived.Test.YtidblpamolimpaaHj2
namespace Go.Proofs.Ytidblpamolimpaa
open Go.ChangeShapes Go.WideShapes Go.ChangeAt Go.RowKit
set_option linter.unusedVariables false
set_option linter.unusedSimpArgs false
set_option maxRecDepth 100000

end Go.Proofs.Ytidblpamolimpaa
