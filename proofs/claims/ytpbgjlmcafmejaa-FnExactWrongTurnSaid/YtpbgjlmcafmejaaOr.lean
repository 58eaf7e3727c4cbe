/- cmp.Or of two ints. -/
import Derived.Test.YtpbgjlmcafmejaaRow
import Derived.Handy
namespace Go.Proofs.Ytpbgjlmcafmejaa
open Go.ChangeShapes Go.WideShapes Go.ChangeAt Go.RowKit
set_option linter.unusedVariables false
set_option linter.unusedSimpArgs false
set_option maxRecDepth 100000

set_option maxHeartbeats 2000000 in
theorem std_or (x y : Int) (g : Nat) (w : World) (h0 : w.cell? ⟨g, 0, none⟩ = some (.int .i64 x)) (h1 : w.cell? ⟨g, 1, none⟩ = some (.int .i64 y)) (hg : g < w.heap.size) :
    Calls Try.prog 107 #[.slice (some ⟨g, 0, none⟩) 2 2] w fun e w' => e = .returned (.int .i64 (if x = 0 then y else x)) ∧ Below w.heap.size w w' := by
  by_cases hx : x = 0
  · subst hx
    by_cases hy : y = 0
    · subst hy
      go_enter Try.func107, Try.ntmps107
      go_wp2_with (fail)
      go_rounds 3
      all_goals go_returns
      all_goals exact ⟨rfl, Below.refl _ _⟩
    · have d1 : (y == 0) = false := by simpa using hy
      have d2 : decide (y = 0) = false := decide_eq_false hy
      go_enter Try.func107, Try.ntmps107
      go_wp2_with (fail)
      go_rounds 3
      all_goals go_returns
      all_goals exact ⟨rfl, Below.refl _ _⟩
  · have d1 : (x == 0) = false := by simpa using hx
    have d2 : decide (x = 0) = false := decide_eq_false hx
    go_enter Try.func107, Try.ntmps107
    go_wp2_with (fail)
    go_rounds 3
    all_goals go_returns
    all_goals exact ⟨by first | rfl | (rw [if_neg hx]; rfl), Below.refl _ _⟩
end Go.Proofs.Ytpbgjlmcafmejaa
