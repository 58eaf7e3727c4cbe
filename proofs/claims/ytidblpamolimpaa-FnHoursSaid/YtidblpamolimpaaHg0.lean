/- Minutes and seasons: the program. -/
import Derived.Test.YtidblpamolimpaaHd
namespace Go.Proofs.Ytidblpamolimpaa
open Go.ChangeShapes Go.WideShapes Go.ChangeAt Go.RowKit
set_option linter.unusedVariables false
set_option linter.unusedSimpArgs false
set_option maxRecDepth 100000

theorem impl_min (m : Int) (w : World) : Calls Try.prog 34 #[.int .i64 m] w fun e w' => e = .returned (.bool (inB m 0 1439)) ∧ w = w' := by
  by_cases h1 : 0 ≤ m
  · by_cases h2 : m < 1440
    · have HE : Bx (inB m 0 1439 = true) := Bx.mk (inB_mk ⟨h1, by omega⟩)
      go_enter Try.func34, Try.ntmps34
      go_wp2_with (fail)
      go_ret
      exact ⟨ret_bool HE.out.symm, rfl⟩
    · have HE : Bx (inB m 0 1439 = false) := Bx.mk (by simp [inB]; omega)
      go_enter Try.func34, Try.ntmps34
      go_wp2_with (fail)
      go_ret
      exact ⟨ret_bool HE.out.symm, rfl⟩
  · have HE : Bx (inB m 0 1439 = false) := Bx.mk (by simp [inB]; omega)
    go_enter Try.func34, Try.ntmps34
    go_wp2_with (fail)
    go_ret
    exact ⟨ret_bool HE.out.symm, rfl⟩
theorem impl_sea (m : Int) (w : World) : Calls Try.prog 35 #[.int .i64 m] w fun e w' => e = .returned (.bool (inB m 0 5)) ∧ w = w' := by
  by_cases h1 : 0 ≤ m
  · by_cases h2 : m < 6
    · have HE : Bx (inB m 0 5 = true) := Bx.mk (inB_mk ⟨h1, by omega⟩)
      go_enter Try.func35, Try.ntmps35
      go_wp2_with (fail)
      go_ret
      exact ⟨ret_bool HE.out.symm, rfl⟩
    · have HE : Bx (inB m 0 5 = false) := Bx.mk (by simp [inB]; omega)
      go_enter Try.func35, Try.ntmps35
      go_wp2_with (fail)
      go_ret
      exact ⟨ret_bool HE.out.symm, rfl⟩
  · have HE : Bx (inB m 0 5 = false) := Bx.mk (by simp [inB]; omega)
    go_enter Try.func35, Try.ntmps35
    go_wp2_with (fail)
    go_ret
    exact ⟨ret_bool HE.out.symm, rfl⟩
end Go.Proofs.Ytidblpamolimpaa
