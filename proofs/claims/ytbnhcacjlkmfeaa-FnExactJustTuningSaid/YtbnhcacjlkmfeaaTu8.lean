/- The model's ValidTuning, PitchCents, and the frequency of a pitch. -/
import Derived.Test.YtbnhcacjlkmfeaaTu7
namespace Go.Proofs.Ytbnhcacjlkmfeaa
open Go.ChangeShapes Go.WideShapes Go.ChangeAt Go.RowKit
set_option linter.unusedVariables false
set_option linter.unusedSimpArgs false
set_option maxRecDepth 100000

set_option maxHeartbeats 1000000 in
theorem spec_validtuning (s : ByteArray) (v : Value) (l : List (Int × Int)) (w : World) (h : PrsAt w v l) (hs : s.size ≤ maxLen) (hm : l.length ≤ 281474976710656) :
    Calls Try.prog 11 #[tun s v] w fun e w' => e = .returned (.bool (tunB s.data.toList l)) ∧ Below w.heap.size w w' := by
  have hk := fun g W a0 a1 hW => spec_tok g s v l W a0 a1 hW hs hm
  have HI := Bx.mk h
  generalize tunB s.data.toList l = r at *
  unfold tun
  clear h hs hm
  go_enter Try.func11, Try.ntmps11
  go_wp2_with (fail)
  refine (hk _ _ (by go_simp) (by go_simp) (HI.out.below ((Below.refl _ _).alloc (Nat.le_refl _) _))).mono ?_
  rintro e w' ⟨rfl, k, rfl⟩
  go_wp2_with (fail)
  go_ret
  exact ⟨rfl, below_draws ((Below.refl _ _).alloc (Nat.le_refl _) _) _⟩
/-- PitchCents -/
noncomputable def pcE (s : List UInt8) (l : List (Int × Int)) (p : Int) : Int × Int := if tunB s l = true then (if inB p (-12) 23 = true then (centsT l p, 0) else (0, 2)) else (0, 1)
/-- the frequency of a pitch -/
def freqT (l : List (Int × Int)) (base p : Int) : Int := dv (base * (pat l (p % 12).toNat).1 * (if 12 ≤ p then 2 else 1)) ((pat l (p % 12).toNat).2 * (if p < 0 then 2 else 1))
end Go.Proofs.Ytbnhcacjlkmfeaa
