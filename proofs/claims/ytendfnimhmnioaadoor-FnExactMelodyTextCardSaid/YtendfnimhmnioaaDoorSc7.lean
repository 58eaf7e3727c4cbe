/- Scales: steps, by the model. -/
import Derived.Test.YtendfnimhmnioaaDoorSc6
namespace Go.Proofs.YtendfnimhmnioaaDoor
open Go.ChangeShapes Go.WideShapes Go.ChangeAt Go.RowKit
set_option linter.unusedVariables false
set_option linter.unusedSimpArgs false
set_option maxRecDepth 100000

end Go.Proofs.YtendfnimhmnioaaDoor
