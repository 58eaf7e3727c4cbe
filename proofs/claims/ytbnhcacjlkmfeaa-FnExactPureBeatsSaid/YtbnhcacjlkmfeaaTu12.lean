/- The model's WorstFifth. -/
import Derived.Test.YtbnhcacjlkmfeaaTu11
namespace Go.Proofs.Ytbnhcacjlkmfeaa
open Go.ChangeShapes Go.WideShapes Go.ChangeAt Go.RowKit
set_option linter.unusedVariables false
set_option linter.unusedSimpArgs false
set_option maxRecDepth 100000

/-- how much a fifth is off -/
noncomputable def fifT (l : List (Int × Int)) (k : Int) : Int := centsT l (k + 7) - centsT l k - 70196
/-- the worst of the first fifths, and how much it is off -/
noncomputable def worT (l : List (Int × Int)) : Nat → Int × Int
  | 0 => (0, 0)
  | k + 1 => if k = 0 ∨ max (worT l k).2 (-(worT l k).2) < max (fifT l k) (-(fifT l k)) then ((k : Int), fifT l k) else worT l k
theorem worT_bd {s : List UInt8} {l : List (Int × Int)} (ht : tunB s l = true) (k : Nat) (hk : k ≤ 12) : (0 ≤ (worT l k).1 ∧ (worT l k).1 ≤ 11) ∧ (-2000000000000 ≤ (worT l k).2 ∧ (worT l k).2 ≤ 2000000000000) := by
  induction k with
  | zero => simp [worT]
  | succ k ih =>
    have h1 := ih (by omega)
    have a := centsT_bd ht (p := (k : Int)) (by omega)
    have b := centsT_bd ht (p := (k : Int) + 7) (by omega)
    rw [worT]
    split
    · simp only [fifT]; omega
    · exact h1
/-- WorstFifth -/
noncomputable def woE (s : List UInt8) (l : List (Int × Int)) : Int × Int × Int := if tunB s l = true then ((worT l 12).1, (worT l 12).2, 0) else (0, 0, 1)
end Go.Proofs.Ytbnhcacjlkmfeaa
