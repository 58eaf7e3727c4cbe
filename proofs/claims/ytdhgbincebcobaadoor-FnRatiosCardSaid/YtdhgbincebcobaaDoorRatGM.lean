/- Plain facts: the list of all ratios of an octave, and the nearest of a list. -/
import Derived.Test.YtdhgbincebcobaaDoorRatB
import Derived.Test.YtdhgbincebcobaaDoorRatLaw3
namespace Go.Proofs.YtdhgbincebcobaaDoor
set_option linter.unusedVariables false
set_option linter.unusedSimpArgs false
set_option maxRecDepth 100000

/-- the ratios with a denominator, the first j tried -/
def rowR (den : Nat) : Nat → List (Int × Int)
  | 0 => []
  | j + 1 => rowR den j ++ (if gz ((den : Int) + j) den = 1 then [((den : Int) + j, (den : Int))] else [])
def allR : Nat → List (Int × Int)
  | 0 => []
  | k + 1 => allR k ++ rowR (k + 1) (k + 2)
theorem rowR_len (den : Nat) : ∀ j, (rowR den j).length ≤ j
  | 0 => by simp [rowR]
  | j + 1 => by
    have := rowR_len den j
    unfold rowR
    split <;> simp <;> omega
theorem allR_len : ∀ k, k ≤ 64 → (allR k).length ≤ 100 * k
  | 0, _ => by simp [allR]
  | k + 1, h => by
    have := allR_len k (by omega)
    have := rowR_len (k + 1) (k + 2)
    simp [allR]; omega
theorem rowR_ok (den : Nat) (hd : 1 ≤ den ∧ den ≤ 64) : ∀ j, j ≤ 100 → ∀ p ∈ rowR den j, okR p.1 p.2 = true
  | 0, _, p, h => by simp [rowR] at h
  | j + 1, hj, p, h => by
    unfold rowR at h
    rcases List.mem_append.1 h with h | h
    · exact rowR_ok den hd j (by omega) p h
    · split at h
      · rename_i hg
        simp at h
        subst h
        simp [okR, inB, hg]; omega
      · cases h
theorem allR_ok : ∀ k, k ≤ 64 → ∀ p ∈ allR k, okR p.1 p.2 = true
  | 0, _, p, h => by simp [allR] at h
  | k + 1, hk, p, h => by
    rcases List.mem_append.1 h with h | h
    · exact allR_ok k (by omega) p h
    · exact rowR_ok (k + 1) (by omega) (k + 2) (by omega) p h
noncomputable def distP (c : Int) (p : Int × Int) : Int := max (centsZ p.1 p.2 - c) (c - centsZ p.1 p.2)
noncomputable def stepP (c : Int) (s : Int × Int × Int) (p : Int × Int) : Int × Int × Int := if s.2.2 < 0 ∨ distP c p < s.2.2 then (p.1, p.2, distP c p) else s
theorem bestRow_fold (c : Int) (den : Nat) (s : Int × Int × Int) : ∀ j : Nat, bestRow c den s j = (rowR den j).foldl (stepP c) s
  | 0 => rfl
  | j + 1 => by
    rw [bestRow, bestRow_fold c den s j, rowR, List.foldl_append]
    unfold bestStep
    split
    · rename_i hg
      simp only [List.foldl_cons, List.foldl_nil]
      rfl
    · rfl
theorem bestAll_fold (c : Int) : ∀ k : Nat, bestAll c k = (allR k).foldl (stepP c) (0, 0, -1)
  | 0 => rfl
  | k + 1 => by
    rw [bestAll, bestAll_fold c k, allR, List.foldl_append]
    have := bestRow_fold c (k + 1) ((allR k).foldl (stepP c) (0, 0, -1)) (k + 2)
    simpa using this
/-- the nearest of a list, from one on -/
noncomputable def minP (c : Int) (m : Int × Int) (l : List (Int × Int)) : Int × Int := l.foldl (fun m p => if distP c p < distP c m then p else m) m
theorem distP_0 (c : Int) (p : Int × Int) : 0 ≤ distP c p := by unfold distP; omega
theorem fold_min (c : Int) : ∀ (l : List (Int × Int)) (m : Int × Int), l.foldl (stepP c) (m.1, m.2, distP c m) = ((minP c m l).1, (minP c m l).2, distP c (minP c m l))
  | [], m => rfl
  | p :: l, m => by
    rw [List.foldl_cons]
    have h0 := distP_0 c m
    unfold minP
    rw [List.foldl_cons]
    by_cases h : distP c p < distP c m
    · have e : stepP c (m.1, m.2, distP c m) p = (p.1, p.2, distP c p) := by unfold stepP; rw [if_pos (.inr h)]
      rw [e, if_pos h]
      exact fold_min c l p
    · have e : stepP c (m.1, m.2, distP c m) p = (m.1, m.2, distP c m) := by unfold stepP; rw [if_neg (by simp; omega)]
      rw [e, if_neg h]
      exact fold_min c l m
theorem bestAll_min (c : Int) (k : Nat) {p : Int × Int} {l : List (Int × Int)} (h : allR k = p :: l) : bestAll c k = ((minP c p l).1, (minP c p l).2, distP c (minP c p l)) := by
  rw [bestAll_fold, h, List.foldl_cons]
  have e : stepP c (0, 0, -1) p = (p.1, p.2, distP c p) := by unfold stepP; rw [if_pos (.inl (by decide))]
  rw [e]
  exact fold_min c l p
theorem minP_mem (c : Int) : ∀ (l : List (Int × Int)) (m : Int × Int), minP c m l = m ∨ minP c m l ∈ l
  | [], m => .inl rfl
  | p :: l, m => by
    unfold minP
    rw [List.foldl_cons]
    by_cases h : distP c p < distP c m
    · rw [if_pos h]
      rcases minP_mem c l p with h | h
      · right; unfold minP at h; rw [h]; simp
      · right; unfold minP at h; simp [h]
    · rw [if_neg h]
      rcases minP_mem c l m with h | h
      · left; exact h
      · right; unfold minP at h; simp [h]
theorem allR_head (k : Nat) : ∃ l, allR (k + 1) = (1, 1) :: l := by
  induction k with
  | zero => exact ⟨[(2, 1)], by decide⟩
  | succ k ih =>
    obtain ⟨l, h⟩ := ih
    rw [allR, h]
    exact ⟨_, rfl⟩
/-- the nearest of the first i of a list -/
theorem minP_snoc (c : Int) (m : Int × Int) (l : List (Int × Int)) (p : Int × Int) : minP c m (l ++ [p]) = if distP c p < distP c (minP c m l) then p else minP c m l := by
  unfold minP
  rw [List.foldl_append]; rfl
end Go.Proofs.YtdhgbincebcobaaDoor
