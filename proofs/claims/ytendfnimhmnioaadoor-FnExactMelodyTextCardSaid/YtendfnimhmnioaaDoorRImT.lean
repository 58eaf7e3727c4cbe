/- The program's isTone and ValidScale, alone. -/
import Derived.Test.YtendfnimhmnioaaDoorImS
import Derived.Test.YtendfnimhmnioaaDoorSc2
namespace Go.Proofs.YtendfnimhmnioaaDoor
open Go.ChangeShapes Go.WideShapes Go.ChangeAt Go.RowKit
set_option linter.unusedVariables false
set_option linter.unusedSimpArgs false
set_option maxRecDepth 100000

theorem impl_istone (x : Int) (w : World) :
    Calls Tryd.prog 89 #[.int .i64 x] w fun e w' => e = .returned (.bool (inB x 0 11)) ∧ w = w' := by
  cases hb : inB x 0 11
  · have h := inB_no hb
    clear hb
    by_cases h1 : 0 ≤ x
    · have h2 : ¬ x < 12 := by omega
      clear h
      go_enter Tryd.func89, Tryd.ntmps89
      go_wp2
      go_ret
      exact ⟨rfl, rfl⟩
    · clear h
      go_enter Tryd.func89, Tryd.ntmps89
      go_wp2
      go_ret
      exact ⟨rfl, rfl⟩
  · obtain ⟨h1, h3⟩ := inB_yes hb
    have h2 : x < 12 := by omega
    clear hb
    go_enter Tryd.func89, Tryd.ntmps89
    go_wp2
    go_ret
    exact ⟨rfl, rfl⟩
theorem scale_mk {zs : List Int} (h5 : 5 ≤ zs.length) (h0 : zs.getD 0 0 = 0) (hr : ∀ i, i + 1 < zs.length → zs.getD i 0 < zs.getD (i + 1) 0) (hl : 0 ≤ zs.getD (zs.length - 1) 0 ∧ zs.getD (zs.length - 1) 0 ≤ 11) : scaleB zs = true := by
  have up : ∀ i, i < zs.length → 0 ≤ zs.getD i 0 := by
    intro i
    induction i with
    | zero => intro _; rw [h0]; exact Int.le_refl _
    | succ i ih => intro hi; have := ih (by omega); have := hr i hi; omega
  have dn : ∀ d i, i + d = zs.length - 1 → zs.getD i 0 ≤ 11 := by
    intro d
    induction d with
    | zero => intro i hi; rw [show i = zs.length - 1 by omega]; exact hl.2
    | succ d ih => intro i hi; have h1 := ih (i + 1) (by omega); have := hr i (by omega); omega
  have hri : riseB 0 11 zs = true := rise_yes (fun i hi => ⟨⟨up i hi, dn (zs.length - 1 - i) i (by omega)⟩, fun h => by
    obtain ⟨j, rfl⟩ : ∃ j, i = j + 1 := ⟨i - 1, by omega⟩
    exact hr j hi⟩)
  unfold scaleB
  rw [h0, hri]
  simpa using h5
end Go.Proofs.YtendfnimhmnioaaDoor
