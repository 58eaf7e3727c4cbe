/- Scales: names of tones, pitches, by the model. -/
import Derived.Test.YtendfnimhmnioaaDoorSc3
import Derived.Test.YtendfnimhmnioaaDoorSplitMath
namespace Go.Proofs.YtendfnimhmnioaaDoor
open Go.ChangeShapes Go.WideShapes Go.ChangeAt Go.RowKit
set_option linter.unusedVariables false
set_option linter.unusedSimpArgs false
set_option maxRecDepth 100000

theorem tmod_shift (d n : Int) : (d.tmod n + n) % n = d % n := by
  have e : d.tmod n + n * d.tdiv n = d := Int.tmod_add_mul_tdiv d n
  rw [Int.add_emod_right]
  conv => rhs; rw [← e]
  rw [Int.add_mul_emod_self_left]
theorem tmod_bd (d n : Int) (h : 0 < n) : -n < d.tmod n ∧ d.tmod n < n := by
  refine ⟨?_, Int.tmod_lt_of_pos d h⟩
  rcases Int.lt_or_le d 0 with hd | hd
  · have := Int.neg_tmod (-d) n
    rw [Int.neg_neg] at this
    have h4 := Int.tmod_lt_of_pos (-d) h
    omega
  · have := Int.tmod_nonneg n hd; omega
/-- the pitch with a degree -/
def pitZ (zs : List Int) (d : Int) : Int × Int := if scaleB zs = true then (if inB d (-zs.length) (2 * zs.length - 1) = true then (12 * (d / zs.length) + zs.getD (d % zs.length).toNat 0, 0) else (0, 2)) else (0, 1)
end Go.Proofs.YtendfnimhmnioaaDoor
