/- Scales: the program's smallest functions. -/
import Derived.Test.YtendfnimhmnioaaSc3
namespace Go.Proofs.Ytendfnimhmnioaa
open Go.ChangeShapes Go.WideShapes Go.ChangeAt Go.RowKit
set_option linter.unusedVariables false
set_option linter.unusedSimpArgs false
set_option maxRecDepth 100000

theorem impl_ispitch (x : Int) (w : World) :
    Calls Try.prog 85 #[.int .i64 x] w fun e w' => e = .returned (.bool (inB x (-12) 23)) ∧ w = w' := by
  cases hb : inB x (-12) 23
  · have h := inB_no hb
    clear hb
    by_cases h1 : -12 ≤ x
    · have h2 : ¬ x ≤ 23 := by omega
      clear h
      go_enter Try.func85, Try.ntmps85
      go_wp2
      go_ret
      exact ⟨rfl, rfl⟩
    · clear h
      go_enter Try.func85, Try.ntmps85
      go_wp2
      go_ret
      exact ⟨rfl, rfl⟩
  · obtain ⟨h1, h2⟩ := inB_yes hb
    clear hb
    go_enter Try.func85, Try.ntmps85
    go_wp2
    go_ret
    exact ⟨rfl, rfl⟩
end Go.Proofs.Ytendfnimhmnioaa
