/- The program's BeatingOf. -/
import Derived.Test.YtbnhcacjlkmfeaaTi3
import Derived.Test.YtbnhcacjlkmfeaaTu13
namespace Go.Proofs.Ytbnhcacjlkmfeaa
open Go.ChangeShapes Go.WideShapes Go.ChangeAt Go.RowKit
set_option linter.unusedVariables false
set_option linter.unusedSimpArgs false
set_option maxRecDepth 100000

theorem impl_isharmonic (x : Int) (w : World) : Calls Try.prog 50 #[.int .i64 x] w fun e w' => e = .returned (.bool (inB x 1 16)) ∧ w = w' := by
  have HI : Bx (inB x 1 16 = (decide (1 ≤ x) && decide (x ≤ 16))) := Bx.mk (by simp [inB])
  generalize inB x 1 16 = t at *
  by_cases h1 : 1 ≤ x
  · have d1 : decide (1 ≤ x) = true := decide_eq_true h1
    by_cases h2 : x ≤ 16
    · have d2 : decide (x ≤ 16) = true := decide_eq_true h2
      have HE : Bx (t = true) := Bx.mk (by rw [HI.out, d1, d2]; rfl)
      clear HI
      go_enter Try.func50, Try.ntmps50
      go_wp2
      go_ret
      exact ⟨ret_bool HE.out.symm, rfl⟩
    · have d2 : decide (x ≤ 16) = false := decide_eq_false h2
      have HE : Bx (t = false) := Bx.mk (by rw [HI.out, d1, d2]; rfl)
      clear HI
      go_enter Try.func50, Try.ntmps50
      go_wp2
      go_ret
      exact ⟨ret_bool HE.out.symm, rfl⟩
  · have d1 : decide (1 ≤ x) = false := decide_eq_false h1
    have HE : Bx (t = false) := Bx.mk (by rw [HI.out, d1]; rfl)
    clear HI
    go_enter Try.func50, Try.ntmps50
    go_wp2
    go_ret
    exact ⟨ret_bool HE.out.symm, rfl⟩
set_option maxHeartbeats 1000000 in
theorem impl_beatsof (a m b n : Int) (w : World) (hm : 1 ≤ m ∧ m ≤ 16) (hn : 1 ≤ n ∧ n ≤ 16) (ha : -4000000000000 ≤ a ∧ a ≤ 4000000000000) (hb : -4000000000000 ≤ b ∧ b ≤ 4000000000000) :
    Calls Try.prog 51 #[.int .i64 a, .int .i64 m, .int .i64 b, .int .i64 n] w fun e w' => e = .returned (.int .i64 (max (m * a - n * b) (-(m * a - n * b)))) ∧ ∃ k, w' = w.drewN k := by
  have x1 := small_mul hm ha
  have x2 := small_mul hn hb
  have E1 : wrap64 (m * a) = m * a := IntWalk.wrap64_in _ (by omega)
  have E2 : wrap64 (n * b) = n * b := IntWalk.wrap64_in _ (by omega)
  have HN : Bx (nA (m * a - n * b) = max (m * a - n * b) (-(m * a - n * b))) := Bx.mk (by unfold nA; omega)
  have hmag := fun W => mag (m * a - n * b) W (by omega) (by omega)
  have E3 : wrap64 (m * a - n * b) = m * a - n * b := IntWalk.wrap64_in _ (by omega)
  have h0 : 0 ≤ nA (m * a - n * b) ∧ nA (m * a - n * b) ≤ 900000000000000 := by rw [HN.out]; omega
  rw [← HN.out]
  clear HN hm hn ha hb
  generalize nA (m * a - n * b) = u at *
  obtain ⟨u1, u2⟩ := h0
  have E4 : IntKind.i64.wrap u = u := IntWalk.i64_in _ (by omega)
  go_enter Try.func51, Try.ntmps51
  go_wp2_with (fail)
  refine (hmag _).mono ?_
  rintro e w1 ⟨rfl, rfl⟩
  go_wp2_with (fail)
  go_ret
  exact ⟨rfl, 0, rfl⟩
end Go.Proofs.Ytbnhcacjlkmfeaa
