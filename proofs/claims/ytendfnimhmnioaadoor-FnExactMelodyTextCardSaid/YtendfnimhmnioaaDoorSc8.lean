/- Scales: intervals and common tones, by the model. -/
import Derived.Test.YtendfnimhmnioaaDoorSc7
namespace Go.Proofs.YtendfnimhmnioaaDoor
open Go.ChangeShapes Go.WideShapes Go.ChangeAt Go.RowKit
set_option linter.unusedVariables false
set_option linter.unusedSimpArgs false
set_option maxRecDepth 100000

def intvC (zs : List Int) : List Int × Int := if scaleB zs = true then (stepsZ zs, 0) else ([], 1)
/-- the tones of the one, among the first, that the other has -/
def comL (xs zs : List Int) : Nat → List Int
  | 0 => []
  | j + 1 => if hasB zs (xs.getD j 0) = true then comL xs zs j ++ [xs.getD j 0] else comL xs zs j
theorem comL_len (xs zs : List Int) (j : Nat) : (comL xs zs j).length ≤ j := by
  induction j with
  | zero => exact Nat.le_refl _
  | succ j ih =>
    unfold comL
    split
    · simp; omega
    · omega
def comC (xs zs : List Int) : List Int × Int := if scaleB xs = true ∧ scaleB zs = true then (comL xs zs xs.length, 0) else ([], 1)
end Go.Proofs.YtendfnimhmnioaaDoor
