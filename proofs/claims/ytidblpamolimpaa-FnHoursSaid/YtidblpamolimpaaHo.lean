/- FittingAt: both sides. -/
import Derived.Test.YtidblpamolimpaaHj2
import Derived.Test.YtidblpamolimpaaHi
import Derived.Test.YtidblpamolimpaaHg3
namespace Go.Proofs.Ytidblpamolimpaa
open Go.ChangeShapes Go.WideShapes Go.ChangeAt Go.RowKit
set_option linter.unusedVariables false
set_option linter.unusedSimpArgs false
set_option maxRecDepth 100000

/-- the numbers below n for which this is so -/
def fitN (B : Nat → Bool) : Nat → List Int
  | 0 => []
  | k + 1 => if B k = true then fitN B k ++ [(k : Int)] else fitN B k
theorem fitN_len (B : Nat → Bool) (k : Nat) : (fitN B k).length ≤ k := by
  induction k with
  | zero => simp [fitN]
  | succ k ih =>
    unfold fitN
    split
    · simp; omega
    · omega
def fitE (l : List It) (mi se : Int) : List Int × Int :=
  if okIts l = false then ([], 1) else if (inB mi 0 1439 && inB se 0 5) = false then ([], 2) else (fitN (fun k => fitB (iat l k) se mi) l.length, 0)
theorem fitE_len (l : List It) (mi se : Int) : (fitE l mi se).1.length ≤ 64 := by
  unfold fitE
  cases h : okIts l
  · simp
  · cases inB mi 0 1439 && inB se 0 5
    · simp
    · have h12 := ((okIts_iff l).1 h).1
      have := fitN_len (fun k => fitB (iat l k) se mi) l.length
      simp; omega
theorem infoI64H : (Try.prog.info? 2).map (fun i => (i.zero, i.size, i.bytes)) = some (some (.int .i64 0), 1, 8) := by kernel_rfl
theorem ints_snocH (l : List Int) (z : Int) : ints (l ++ [z]) = ints l ++ [.int .i64 z] := by simp [ints]
end Go.Proofs.Ytidblpamolimpaa
