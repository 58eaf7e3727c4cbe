/- Scales: the program's smallest functions. -/
import Derived.Test.YtendfnimhmnioaaDoorSc3
namespace Go.Proofs.YtendfnimhmnioaaDoor
open Go.ChangeShapes Go.WideShapes Go.ChangeAt Go.RowKit
set_option linter.unusedVariables false
set_option linter.unusedSimpArgs false
set_option maxRecDepth 100000

theorem impl_toneof (p : Int) (w : World) : Calls Tryd.prog 73 #[.int .i64 p] w fun e w' => e = .returned (.int .i64 (p % 12)) ∧ w = w' := by
  obtain ⟨t1, t2, t3⟩ := tmod12 p
  have H := Bx.mk t3
  clear t3
  go_enter Tryd.func73, Tryd.ntmps73
  go_wp2
  go_ret
  exact ⟨ret_int H.out, rfl⟩
theorem impl_ispitch (x : Int) (w : World) :
    Calls Tryd.prog 42 #[.int .i64 x] w fun e w' => e = .returned (.bool (inB x (-12) 23)) ∧ w = w' := by
  cases hb : inB x (-12) 23
  · have h := inB_no hb
    clear hb
    by_cases h1 : -12 ≤ x
    · have h2 : ¬ x ≤ 23 := by omega
      clear h
      go_enter Tryd.func42, Tryd.ntmps42
      go_wp2
      go_ret
      exact ⟨rfl, rfl⟩
    · clear h
      go_enter Tryd.func42, Tryd.ntmps42
      go_wp2
      go_ret
      exact ⟨rfl, rfl⟩
  · obtain ⟨h1, h2⟩ := inB_yes hb
    clear hb
    go_enter Tryd.func42, Tryd.ntmps42
    go_wp2
    go_ret
    exact ⟨rfl, rfl⟩
end Go.Proofs.YtendfnimhmnioaaDoor
