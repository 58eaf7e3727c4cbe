/- Scales: the program's smallest functions. -/
import Derived.Test.YtbnhcacjlkmfeaaDoorSc3
namespace Go.Proofs.YtbnhcacjlkmfeaaDoor
open Go.ChangeShapes Go.WideShapes Go.ChangeAt Go.RowKit
set_option linter.unusedVariables false
set_option linter.unusedSimpArgs false
set_option maxRecDepth 100000

theorem impl_toneof (p : Int) (w : World) : Calls Tryd.prog 93 #[.int .i64 p] w fun e w' => e = .returned (.int .i64 (p % 12)) ∧ w = w' := by
  obtain ⟨t1, t2, t3⟩ := tmod12 p
  have H := Bx.mk t3
  clear t3
  go_enter Tryd.func93, Tryd.ntmps93
  go_wp2
  go_ret
  exact ⟨ret_int H.out, rfl⟩
theorem impl_octave (p : Int) (w : World) (hp : -12 ≤ p ∧ p ≤ 23) : Calls Tryd.prog 65 #[.int .i64 p] w fun e w' => e = .returned (.int .i64 (p / 12)) ∧ w = w' := by
  have ht := fun W => impl_toneof p W
  have HR : Bx (wrap64 ((wrap64 (p - p % 12)).tdiv 12) = p / 12) := Bx.mk (by
    rw [IntWalk.wrap64_in (p - p % 12) (by omega)]
    have e : p - p % 12 = 12 * (p / 12) := by omega
    rw [e, Int.mul_tdiv_cancel_left _ (by decide), IntWalk.wrap64_in _ (by omega)])
  have HR2 : Bx ((p - p % 12).tdiv 12 = p / 12) := Bx.mk (by
    have e : p - p % 12 = 12 * (p / 12) := by omega
    rw [e, Int.mul_tdiv_cancel_left _ (by decide)])
  obtain ⟨p1, p2⟩ := hp
  obtain ⟨t1, t2⟩ := tone_rng p
  go_enter Tryd.func65, Tryd.ntmps65
  go_wp2_with (fail)
  refine (ht _).mono ?_
  rintro e w' ⟨rfl, rfl⟩
  go_wp2_with (fail)
  go_ret
  exact ⟨ret_int (by first | exact HR.out | exact HR2.out), rfl⟩
theorem impl_ispitch (x : Int) (w : World) :
    Calls Tryd.prog 35 #[.int .i64 x] w fun e w' => e = .returned (.bool (inB x (-12) 23)) ∧ w = w' := by
  cases hb : inB x (-12) 23
  · have h := inB_no hb
    clear hb
    by_cases h1 : -12 ≤ x
    · have h2 : ¬ x ≤ 23 := by omega
      clear h
      go_enter Tryd.func35, Tryd.ntmps35
      go_wp2
      go_ret
      exact ⟨rfl, rfl⟩
    · clear h
      go_enter Tryd.func35, Tryd.ntmps35
      go_wp2
      go_ret
      exact ⟨rfl, rfl⟩
  · obtain ⟨h1, h2⟩ := inB_yes hb
    clear hb
    go_enter Tryd.func35, Tryd.ntmps35
    go_wp2
    go_ret
    exact ⟨rfl, rfl⟩
end Go.Proofs.YtbnhcacjlkmfeaaDoor
