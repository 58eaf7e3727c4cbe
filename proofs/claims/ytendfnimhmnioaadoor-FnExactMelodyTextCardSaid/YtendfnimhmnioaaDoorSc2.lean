/- Scales: validity, places, memberships, choices, by the model. -/
import Derived.Test.YtendfnimhmnioaaDoorSc
namespace Go.Proofs.YtendfnimhmnioaaDoor
open Go.ChangeShapes Go.WideShapes Go.ChangeAt Go.RowKit
set_option linter.unusedVariables false
set_option linter.unusedSimpArgs false
set_option maxRecDepth 100000

/-- a scale -/
def scaleB (zs : List Int) : Bool := decide (5 ≤ zs.length) && (riseB 0 11 zs && (zs.getD 0 0 == 0))
theorem rise_all {lo hi : Int} {zs : List Int} (h : riseB lo hi zs = true) : ∀ i, i < zs.length → (lo ≤ zs.getD i 0 ∧ zs.getD i 0 ≤ hi) ∧ (0 < i → zs.getD (i - 1) 0 < zs.getD i 0) := of_decide_eq_true h
theorem rise_ge {hi : Int} {zs : List Int} (h : riseB 0 hi zs = true) : ∀ i, i < zs.length → (i : Int) ≤ zs.getD i 0 := by
  intro i
  induction i with
  | zero => intro hi; have := (rise_all h 0 hi).1.1; omega
  | succ i ih =>
    intro hi
    have h1 := ih (by omega)
    have h2 := (rise_all h (i + 1) hi).2 (by omega)
    simp only [Nat.add_sub_cancel] at h2
    push_cast; omega
theorem scale_yes {zs : List Int} (h : scaleB zs = true) : (5 ≤ zs.length ∧ zs.length ≤ 12) ∧ riseB 0 11 zs = true ∧ zs.getD 0 0 = 0 := by
  unfold scaleB at h
  simp only [Bool.and_eq_true, decide_eq_true_eq, beq_iff_eq] at h
  obtain ⟨h1, h2, h3⟩ := h
  refine ⟨⟨h1, ?_⟩, h2, h3⟩
  have h4 := rise_ge h2 (zs.length - 1) (by omega)
  have h5 := (rise_all h2 (zs.length - 1) (by omega)).1.2
  omega
theorem scale_in {zs : List Int} (h : scaleB zs = true) (k : Nat) (hk : k < zs.length) : 0 ≤ zs.getD k 0 ∧ zs.getD k 0 ≤ 11 := (rise_all (scale_yes h).2.1 k hk).1
/-- the place of a number in a list, or -1 -/
def idxZ (zs : List Int) (t : Int) : Int := match (List.range zs.length).find? (fun i => zs.getD i 0 == t) with
  | some i => i
  | none => -1
theorem idx_hit {zs : List Int} {t : Int} (k : Nat) (hk : k < zs.length) (h : zs.getD k 0 = t) (hn : ∀ i, i < k → zs.getD i 0 ≠ t) : idxZ zs t = k := by
  have : (List.range zs.length).find? (fun i => zs.getD i 0 == t) = some k := by
    rw [List.find?_range_eq_some]
    exact ⟨by simpa using h, by simpa using hk, fun j hj => by simpa using hn j hj⟩
  unfold idxZ
  rw [this]
theorem idx_miss {zs : List Int} {t : Int} (hn : ∀ i, i < zs.length → zs.getD i 0 ≠ t) : idxZ zs t = -1 := by
  have : (List.range zs.length).find? (fun i => zs.getD i 0 == t) = none := by
    rw [List.find?_range_eq_none]
    exact fun j hj => by simpa using hn j hj
  unfold idxZ
  rw [this]
theorem idx_cases (zs : List Int) (t : Int) : (idxZ zs t = -1 ∧ ∀ i, i < zs.length → zs.getD i 0 ≠ t) ∨ ∃ k : Nat, idxZ zs t = k ∧ k < zs.length ∧ zs.getD k 0 = t ∧ ∀ i, i < k → zs.getD i 0 ≠ t := by
  cases h : (List.range zs.length).find? (fun i => zs.getD i 0 == t) with
  | none =>
    rw [List.find?_range_eq_none] at h
    have h2 : ∀ i, i < zs.length → zs.getD i 0 ≠ t := fun i hi => by simpa using h i hi
    exact .inl ⟨idx_miss h2, h2⟩
  | some k =>
    rw [List.find?_range_eq_some] at h
    obtain ⟨h1, h2, h3⟩ := h
    have h4 : zs.getD k 0 = t := by simpa using h1
    have h5 : k < zs.length := by simpa using h2
    have h6 : ∀ i, i < k → zs.getD i 0 ≠ t := fun i hi => by simpa using h3 i hi
    exact .inr ⟨k, idx_hit k h5 h4 h6, h5, h4, h6⟩
/-- is a number in a list? -/
def hasB (zs : List Int) (t : Int) : Bool := decide (0 ≤ idxZ zs t)
theorem has_hit {zs : List Int} {t : Int} (k : Nat) (hk : k < zs.length) (h : zs.getD k 0 = t) (hn : ∀ i, i < k → zs.getD i 0 ≠ t) : hasB zs t = true := by
  unfold hasB; rw [idx_hit k hk h hn]; exact decide_eq_true (by omega)
theorem has_miss {zs : List Int} {t : Int} (hn : ∀ i, i < zs.length → zs.getD i 0 ≠ t) : hasB zs t = false := by
  unfold hasB; rw [idx_miss hn]; rfl
end Go.Proofs.YtendfnimhmnioaaDoor
