/- Lists of pitches on both sides. -/
import Derived.Test.YtendfnimhmnioaaDoorRg
import Derived.Test.YtendfnimhmnioaaDoorSc3
import Derived.Test.YtendfnimhmnioaaDoorImS
namespace Go.Proofs.YtendfnimhmnioaaDoor
open Go.ChangeShapes Go.WideShapes Go.ChangeAt Go.RowKit
set_option linter.unusedVariables false
set_option linter.unusedSimpArgs false
set_option maxRecDepth 100000

def pitB (zs : List Int) : Bool := decide (zs.length ≤ 64) && (List.range zs.length).all (fun i => inB (zs.getD i 0) (-12) 23)
theorem pit_no {zs : List Int} (i : Nat) (h : i < zs.length) (hs : inB (zs.getD i 0) (-12) 23 = false) : pitB zs = false := by
  unfold pitB
  rw [Bool.and_eq_false_iff]
  refine .inr ?_
  rw [List.all_eq_false]
  exact ⟨i, by simpa using h, by simpa using hs⟩
theorem pit_all {zs : List Int} (h : ∀ i, i < zs.length → inB (zs.getD i 0) (-12) 23 = true) : pitB zs = decide (zs.length ≤ 64) := by
  unfold pitB
  rw [show (List.range zs.length).all (fun i => inB (zs.getD i 0) (-12) 23) = true by rw [List.all_eq_true]; intro i hi; exact h i (by simpa using hi), Bool.and_true]
theorem pit_yes {zs : List Int} (h : pitB zs = true) : zs.length ≤ 64 ∧ ∀ i, i < zs.length → -12 ≤ zs.getD i 0 ∧ zs.getD i 0 ≤ 23 := by
  unfold pitB at h
  simp only [Bool.and_eq_true, decide_eq_true_eq, List.all_eq_true] at h
  exact ⟨h.1, fun i hi => inB_yes (h.2 i (by simpa using hi))⟩
end Go.Proofs.YtendfnimhmnioaaDoor
