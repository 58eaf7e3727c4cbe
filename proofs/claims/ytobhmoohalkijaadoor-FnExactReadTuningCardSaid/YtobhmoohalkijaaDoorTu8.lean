/- The model's ValidTuning, PitchCents, and the frequency of a pitch. -/
import Derived.Test.YtobhmoohalkijaaDoorTu7
namespace Go.Proofs.YtobhmoohalkijaaDoor
open Go.ChangeShapes Go.WideShapes Go.ChangeAt Go.RowKit
set_option linter.unusedVariables false
set_option linter.unusedSimpArgs false
set_option maxRecDepth 100000

/-- PitchCents -/
noncomputable def pcE (s : List UInt8) (l : List (Int × Int)) (p : Int) : Int × Int := if tunB s l = true then (if inB p (-12) 23 = true then (centsT l p, 0) else (0, 2)) else (0, 1)
/-- the frequency of a pitch -/
def freqT (l : List (Int × Int)) (base p : Int) : Int := dv (base * (pat l (p % 12).toNat).1 * (if 12 ≤ p then 2 else 1)) ((pat l (p % 12).toNat).2 * (if p < 0 then 2 else 1))
end Go.Proofs.YtobhmoohalkijaaDoor
