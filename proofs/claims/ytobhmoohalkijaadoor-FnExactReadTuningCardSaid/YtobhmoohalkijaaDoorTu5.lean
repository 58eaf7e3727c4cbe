/- A tuning that came in. -/
import Derived.Test.YtobhmoohalkijaaDoorTu
namespace Go.Proofs.YtobhmoohalkijaaDoor
open Go.ChangeShapes Go.WideShapes Go.ChangeAt Go.RowKit
set_option linter.unusedVariables false
set_option linter.unusedSimpArgs false
set_option maxRecDepth 100000

theorem cells_i64t : Tryd.prog.cellsOf 2 = 1 := by kernel_rfl
end Go.Proofs.YtobhmoohalkijaaDoor
