/- Scales: choices, degrees and pitches, by the model. -/
import Derived.Test.YtendfnimhmnioaaDoorSc2
namespace Go.Proofs.YtendfnimhmnioaaDoor
open Go.ChangeShapes Go.WideShapes Go.ChangeAt Go.RowKit
set_option linter.unusedVariables false
set_option linter.unusedSimpArgs false
set_option maxRecDepth 100000

/-- how many sets of k of n things there are, after some rounds -/
def chS (n k : Int) : Nat → Int
  | 0 => 1
  | i + 1 => chS n k i * (n - k + (i + 1)) / (i + 1)
def chooseZ (n k : Int) : Int := if 0 ≤ k ∧ k ≤ n then chS n k k.toNat else 0
theorem ch_bd0 : ∀ n ∈ List.range 12, ∀ k ∈ List.range (n + 1), ∀ i ∈ List.range (k + 1), 1 ≤ chS n k i ∧ chS n k i ≤ 1000 := by decide +kernel
theorem ch_bd (n k : Int) (i : Nat) (hn : n ≤ 11) (hk : 0 ≤ k ∧ k ≤ n) (hi : (i : Int) ≤ k) : 1 ≤ chS n k i ∧ chS n k i ≤ 1000 := by
  obtain ⟨n, rfl⟩ := Int.eq_ofNat_of_zero_le (show 0 ≤ n by omega)
  obtain ⟨k, rfl⟩ := Int.eq_ofNat_of_zero_le hk.1
  exact ch_bd0 n (by simp; omega) k (by simp; omega) i (by simp; omega)
theorem choose_bd (n k : Int) (hn : n ≤ 11) : 0 ≤ chooseZ n k ∧ chooseZ n k ≤ 1000 := by
  unfold chooseZ
  split
  · rename_i h
    have := ch_bd n k k.toNat hn h (by omega)
    omega
  · omega
theorem spec_pitch (n : Int) (w : World) : Calls Tryd.prog 41 #[.int .i64 n] w fun e w' => e = .returned (.bool (inB n (-12) 23)) ∧ w = w' := by
  have hin := fun W => in_any n (-12) 23 W
  generalize inB n (-12) 23 = b at hin ⊢
  go_enter Tryd.func41, Tryd.ntmps41
  go_wp2_with (fail)
  refine (hin _).mono ?_
  rintro e w' ⟨rfl, rfl⟩
  go_wp2_with (fail)
  go_ret
  exact ⟨rfl, rfl⟩
def countZ (n : Int) : Int × Int := if inB n 5 12 = true then (chooseZ 11 (n - 1), 0) else (0, 2)
theorem spec_floor (p : Int) (w : World) (hp : -12 ≤ p ∧ p ≤ 23) : Calls Tryd.prog 88 #[.int .i64 p] w fun e w' => e = .returned (.int .i64 (p / 12)) ∧ w = w' := by
  have ht := fun W => spec_tone p W
  have HR : Bx (wrap64 ((wrap64 (p - p % 12)).tdiv 12) = p / 12) := Bx.mk (by
    rw [IntWalk.wrap64_in (p - p % 12) (by omega)]
    have e : p - p % 12 = 12 * (p / 12) := by omega
    rw [e, Int.mul_tdiv_cancel_left _ (by decide), IntWalk.wrap64_in _ (by omega)])
  have HR2 : Bx ((p - p % 12).tdiv 12 = p / 12) := Bx.mk (by
    have e : p - p % 12 = 12 * (p / 12) := by omega
    rw [e, Int.mul_tdiv_cancel_left _ (by decide)])
  obtain ⟨p1, p2⟩ := hp
  obtain ⟨t1, t2⟩ := tone_rng p
  go_enter Tryd.func88, Tryd.ntmps88
  go_wp2_with (fail)
  refine (ht _).mono ?_
  rintro e w' ⟨rfl, rfl⟩
  go_wp2_with (fail)
  go_ret
  exact ⟨ret_int (by first | exact HR.out | exact HR2.out), rfl⟩
/-- the degree of a pitch -/
def degZ (zs : List Int) (p : Int) : Int × Int := if scaleB zs = true then (if inB p (-12) 23 = true then (if idxZ zs (p % 12) < 0 then (0, 3) else (p / 12 * zs.length + idxZ zs (p % 12), 0)) else (0, 2)) else (0, 1)
def IntsRes (t : Int × Int) (w : World) (e : Ending) (w' : World) : Prop := e = .returned (.tuple #[.int .i64 t.1, .int .i64 t.2]) ∧ ∃ n, w' = w.drewN n
end Go.Proofs.YtendfnimhmnioaaDoor
