/- Plain facts: the just tuning, another ratio for a tone, how far tones are from equal ones. -/
import Derived.Test.YtobhmoohalkijaaDoorTuM
namespace Go.Proofs.YtobhmoohalkijaaDoor
open Go.ChangeShapes Go.WideShapes Go.ChangeAt Go.RowKit
set_option linter.unusedVariables false
set_option linter.unusedSimpArgs false
set_option maxRecDepth 100000

/-- how far tones are from equal ones -/
noncomputable def eqT (l : List (Int × Int)) (n : Nat) : List Int := (List.range n).map fun (k : Nat) => centsT l (k : Int) - 10000 * (k : Int)
theorem eqT_succ (l : List (Int × Int)) (n : Nat) : eqT l (n + 1) = eqT l n ++ [centsT l n - 10000 * n] := by simp [eqT, List.range_succ]
theorem eqT_len (l : List (Int × Int)) (n : Nat) : (eqT l n).length = n := by simp [eqT]
noncomputable def eqE (s : List UInt8) (l : List (Int × Int)) : List Int × Int := if tunB s l = true then (eqT l 12, 0) else ([], 1)
theorem eqE_len (s : List UInt8) (l : List (Int × Int)) : (eqE s l).1.length ≤ 64 := by unfold eqE; split <;> simp [eqT_len]
/-- the just tuning -/
def justL : List (Int × Int) := [(1, 1), (16, 15), (9, 8), (6, 5), (5, 4), (4, 3), (45, 32), (3, 2), (8, 5), (5, 3), (9, 5), (15, 8)]
def justS : ByteArray := ⟨#[106, 117, 115, 116]⟩
/-- another ratio for a tone -/
def tuneE (s : List UInt8) (l : List (Int × Int)) (t : Int) (p : Int × Int) : Option (List (Int × Int)) × Int :=
  if tunB s l = true then (if inB t 1 11 = true then (if tunB s (l.set t.toNat p) = true then (some (l.set t.toNat p), 0) else (none, 6)) else (none, 2)) else (none, 1)
end Go.Proofs.YtobhmoohalkijaaDoor
