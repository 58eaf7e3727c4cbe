/- RangeOf and ContourOf: the model. -/
import Derived.Test.YtendfnimhmnioaaDoorNe3
namespace Go.Proofs.YtendfnimhmnioaaDoor
open Go.ChangeShapes Go.WideShapes Go.ChangeAt Go.RowKit
set_option linter.unusedVariables false
set_option linter.unusedSimpArgs false
set_option maxRecDepth 100000

theorem spec_min9 (a b : Int) (w : World) : Calls Tryd.prog 68 #[.int .i64 a, .int .i64 b] w fun e w' => e = .returned (.int .i64 (min a b)) ∧ w = w' := by
  by_cases h : a < b
  · have HE : Bx (min a b = a) := Bx.mk (by omega)
    have d1 : decide (a < b) = true := decide_eq_true h
    clear h
    go_enter Tryd.func68, Tryd.ntmps68
    go_wp2_with (fail)
    go_ret
    exact ⟨ret_int HE.out.symm, rfl⟩
  · have HE : Bx (min a b = b) := Bx.mk (by omega)
    have d1 : decide (a < b) = false := decide_eq_false h
    clear h
    go_enter Tryd.func68, Tryd.ntmps68
    go_wp2_with (fail)
    go_ret
    exact ⟨ret_int HE.out.symm, rfl⟩
theorem spec_max9 (a b : Int) (w : World) : Calls Tryd.prog 67 #[.int .i64 a, .int .i64 b] w fun e w' => e = .returned (.int .i64 (max a b)) ∧ w = w' := by
  by_cases h : a > b
  · have HE : Bx (max a b = a) := Bx.mk (by omega)
    have d1 : decide (a > b) = true := decide_eq_true h
    clear h
    go_enter Tryd.func67, Tryd.ntmps67
    go_wp2_with (fail)
    go_ret
    exact ⟨ret_int HE.out.symm, rfl⟩
  · have HE : Bx (max a b = b) := Bx.mk (by omega)
    have d1 : decide (a > b) = false := decide_eq_false h
    clear h
    go_enter Tryd.func67, Tryd.ntmps67
    go_wp2_with (fail)
    go_ret
    exact ⟨ret_int HE.out.symm, rfl⟩
end Go.Proofs.YtendfnimhmnioaaDoor
