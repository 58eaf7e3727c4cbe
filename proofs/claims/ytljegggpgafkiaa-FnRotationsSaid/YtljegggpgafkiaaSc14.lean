/- Scales: texts, by the model. -/
import Derived.Test.YtljegggpgafkiaaSc13
namespace Go.Proofs.Ytljegggpgafkiaa
open Go.ChangeShapes Go.WideShapes Go.ChangeAt Go.RowKit
set_option linter.unusedVariables false
set_option linter.unusedSimpArgs false
set_option maxRecDepth 100000

/-- the text of the first tones -/
def textL (zs : List Int) (k : Nat) : List UInt8 := (List.range k).map fun i => nameL.getD (zs.getD i 0).toNat 0
theorem textL_succ (zs : List Int) (k : Nat) : textL zs (k + 1) = textL zs k ++ [nameL.getD (zs.getD k 0).toNat 0] := by simp [textL, List.range_succ]
def textS (zs : List Int) : ByteArray := if scaleB zs = true then ⟨(textL zs zs.length).toArray⟩ else ⟨#[]⟩
theorem app_str (a b : List UInt8) : (⟨a.toArray⟩ : ByteArray) ++ ⟨b.toArray⟩ = ⟨(a ++ b).toArray⟩ := by
  apply ByteArray.ext
  simp
theorem names_ext (m : Nat) (hm : m < 12) : namesS.extract m (m + 1) = ⟨[nameL.getD m 0].toArray⟩ := by
  obtain rfl | rfl | rfl | rfl | rfl | rfl | rfl | rfl | rfl | rfl | rfl | rfl : m = 0 ∨ m = 1 ∨ m = 2 ∨ m = 3 ∨ m = 4 ∨ m = 5 ∨ m = 6 ∨ m = 7 ∨ m = 8 ∨ m = 9 ∨ m = 10 ∨ m = 11 := by omega
  all_goals rfl
theorem spec_validscale (v : Value) (zs : List Int) (w : World) (h : IntsAt w v zs) (hm : zs.length ≤ 281474976710656) :
    Calls Try.prog 21 #[v] w fun e w' => e = .returned (.bool (scaleB zs)) ∧ ∃ n, w' = w.drewN n := by
  have hsc := fun W h => spec_scale v zs W h hm
  have HI := Bx.mk h
  clear h
  generalize scaleB zs = t at *
  go_enter Try.func21, Try.ntmps21
  go_wp2_with (fail)
  refine (hsc _ HI.out).mono ?_
  rintro e w' ⟨rfl, k, rfl⟩
  go_wp2_with (fail)
  go_ret
  exact ⟨rfl, k, rfl⟩
end Go.Proofs.Ytljegggpgafkiaa
