/- cmp.Compare. -/
import Derived.Test.YtendfnimhmnioaaRow
namespace Go.Proofs.Ytendfnimhmnioaa
open Go.ChangeShapes Go.WideShapes Go.ChangeAt Go.RowKit
set_option linter.unusedVariables false
set_option linter.unusedSimpArgs false
set_option maxRecDepth 100000

theorem std_nan (x : Int) (w : World) : Calls Try.prog 87 #[.int .i64 x] w fun e w' => e = .returned (.bool false) ∧ w = w' := by
  go_enter Try.func87, Try.ntmps87
  go_wp2
  go_ret
  exact ⟨ret_bool (by simp), rfl⟩
def cmpI (x y : Int) : Int := if x < y then -1 else if y < x then 1 else 0
theorem std_cmp (x y : Int) (w : World) : Calls Try.prog 65 #[.int .i64 x, .int .i64 y] w fun e w' => e = .returned (.int .i64 (cmpI x y)) ∧ w = w' := by
  have hn := fun z W => std_nan z W
  by_cases h1 : x < y
  · have HE : Bx (cmpI x y = -1) := Bx.mk (if_pos h1)
    have d1 : decide (x < y) = true := decide_eq_true h1
    clear h1
    go_enter Try.func65, Try.ntmps65
    go_wp2_with (fail)
    refine (hn _ _).mono ?_
    rintro r w1 ⟨rfl, rfl⟩
    go_wp2_with (fail)
    refine (hn _ _).mono ?_
    rintro r w1 ⟨rfl, rfl⟩
    go_wp2_with (fail)
    go_ret
    exact ⟨ret_int HE.out.symm, rfl⟩
  · by_cases h2 : y < x
    · have HE : Bx (cmpI x y = 1) := Bx.mk ((if_neg h1).trans (if_pos h2))
      have d1 : decide (x < y) = false := decide_eq_false h1
      have d2 : decide (x > y) = true := decide_eq_true h2
      clear h1 h2
      go_enter Try.func65, Try.ntmps65
      go_wp2_with (fail)
      refine (hn _ _).mono ?_
      rintro r w1 ⟨rfl, rfl⟩
      go_wp2_with (fail)
      refine (hn _ _).mono ?_
      rintro r w1 ⟨rfl, rfl⟩
      go_wp2_with (fail)
      go_ret
      exact ⟨ret_int HE.out.symm, rfl⟩
    · have HE : Bx (cmpI x y = 0) := Bx.mk ((if_neg h1).trans (if_neg h2))
      have d1 : decide (x < y) = false := decide_eq_false h1
      have d2 : decide (x > y) = false := decide_eq_false h2
      clear h1 h2
      go_enter Try.func65, Try.ntmps65
      go_wp2_with (fail)
      refine (hn _ _).mono ?_
      rintro r w1 ⟨rfl, rfl⟩
      go_wp2_with (fail)
      refine (hn _ _).mono ?_
      rintro r w1 ⟨rfl, rfl⟩
      go_wp2_with (fail)
      go_ret
      exact ⟨ret_int HE.out.symm, rfl⟩
end Go.Proofs.Ytendfnimhmnioaa
