/- Scales: the number of a scale, by the model. -/
import Derived.Test.YtendfnimhmnioaaDoorSc10
namespace Go.Proofs.YtendfnimhmnioaaDoor
open Go.ChangeShapes Go.WideShapes Go.ChangeAt Go.RowKit
set_option linter.unusedVariables false
set_option linter.unusedSimpArgs false
set_option maxRecDepth 100000

def numI (n i a : Int) : Nat → Int
  | 0 => 0
  | m + 1 => numI n i a m + chooseZ (11 - (a + 1 + m)) (n - 1 - i)
theorem numI_bd (n i a : Int) (m : Nat) (ha : 0 ≤ a) : 0 ≤ numI n i a m ∧ numI n i a m ≤ 1000 * m := by
  induction m with
  | zero => exact ⟨Int.le_refl _, Int.le_refl _⟩
  | succ m ih =>
    have := choose_bd (11 - (a + 1 + m)) (n - 1 - i) (by omega)
    unfold numI
    push_cast
    omega
def numO (zs : List Int) : Nat → Int
  | 0 => 0
  | j + 1 => numO zs j + numI zs.length ((j : Int) + 1) (zs.getD j 0) (zs.getD (j + 1) 0 - zs.getD j 0 - 1).toNat
theorem numO_bd {zs : List Int} (hs : scaleB zs = true) (j : Nat) (hj : j + 1 ≤ zs.length) : 0 ≤ numO zs j ∧ numO zs j ≤ 12000 * j := by
  induction j with
  | zero => exact ⟨Int.le_refl _, Int.le_refl _⟩
  | succ j ih =>
    obtain ⟨r1, r2⟩ := scale_in hs j (by omega)
    obtain ⟨r3, r4⟩ := scale_in hs (j + 1) (by omega)
    have h1 := ih (by omega)
    have h2 := numI_bd zs.length ((j : Int) + 1) (zs.getD j 0) (zs.getD (j + 1) 0 - zs.getD j 0 - 1).toNat r1
    unfold numO
    push_cast
    omega
def numbC (zs : List Int) : Int × Int := if scaleB zs = true then (numO zs (zs.length - 1), 0) else (0, 1)
end Go.Proofs.YtendfnimhmnioaaDoor
