/- The model's functions of chapter 2 that hand back a ratio. -/
import Derived.Test.YtobhmoohalkijaaDoorRat
namespace Go.Proofs.YtobhmoohalkijaaDoor
open Go.ChangeShapes Go.WideShapes Go.ChangeAt Go.RowKit
set_option linter.unusedVariables false
set_option linter.unusedSimpArgs false
set_option maxRecDepth 100000

end Go.Proofs.YtobhmoohalkijaaDoor
