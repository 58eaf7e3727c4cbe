/- Scales: the scale of a number, by the model. -/
import Derived.Test.YtendfnimhmnioaaDoorSc9
namespace Go.Proofs.YtendfnimhmnioaaDoor
open Go.ChangeShapes Go.WideShapes Go.ChangeAt Go.RowKit
set_option linter.unusedVariables false
set_option linter.unusedSimpArgs false
set_option maxRecDepth 100000

theorem pascal0 : ∀ m ∈ List.range 12, ∀ k ∈ List.range 12, chooseZ ((m : Int) + 1) ((k : Int) + 1) = chooseZ m k + chooseZ m ((k : Int) + 1) := by decide +kernel
theorem pascal (m k : Int) (hm : 0 ≤ m ∧ m ≤ 11) (hk : 0 ≤ k ∧ k ≤ 11) : chooseZ (m + 1) (k + 1) = chooseZ m k + chooseZ m (k + 1) := by
  obtain ⟨m, rfl⟩ := Int.eq_ofNat_of_zero_le hm.1
  obtain ⟨k, rfl⟩ := Int.eq_ofNat_of_zero_le hk.1
  exact pascal0 m (by simp; omega) k (by simp; omega)
theorem choose_zero (k : Int) (hk : 0 < k) : chooseZ 0 k = 0 := by
  unfold chooseZ; rw [if_neg (by omega)]
/-- the tones of a number, from some on -/
def numG (n : Int) : Nat → List Int → Int → Int → List Int
  | 0, out, _, _ => out
  | f + 1, out, num, t => if (out.length : Int) < n then (if num < chooseZ (11 - t) (n - 1 - out.length) then numG n f (out ++ [t]) num (t + 1) else numG n f out (num - chooseZ (11 - t) (n - 1 - out.length)) (t + 1)) else out
theorem numG_end {n : Int} {f : Nat} {out : List Int} {num t : Int} (h : ¬ (out.length : Int) < n) : numG n f out num t = out := by
  cases f with
  | zero => rfl
  | succ f => unfold numG; rw [if_neg h]
def numC (n number : Int) : List Int × Int := if inB n 5 12 = true ∧ inB number 0 (chooseZ 11 (n - 1) - 1) = true then (numG n 12 [0] number 1, 0) else ([], 2)
end Go.Proofs.YtendfnimhmnioaaDoor
