/- Plain facts of tunings: the nearest pitch. -/
import Derived.Test.YtbnhcacjlkmfeaaDoorTuM
import Derived.Test.YtbnhcacjlkmfeaaDoorTu11
namespace Go.Proofs.YtbnhcacjlkmfeaaDoor
open Go.ChangeShapes Go.WideShapes Go.ChangeAt Go.RowKit
set_option linter.unusedVariables false
set_option linter.unusedSimpArgs false
set_option maxRecDepth 100000

/-- what the nearest pitch is -/
def NearP (l : List (Int × Int)) (c : Int) (n : Nat) (t : Int × Int) : Prop := t.2 = c - centsT l t.1 ∧ -12 ≤ t.1 ∧ t.1 ≤ -12 + (n : Int) ∧ (∀ j : Nat, j ≤ n → max t.2 (-t.2) ≤ max (c - centsT l (-12 + (j : Int))) (-(c - centsT l (-12 + (j : Int))))) ∧ (∀ j : Nat, -12 + (j : Int) < t.1 → max t.2 (-t.2) < max (c - centsT l (-12 + (j : Int))) (-(c - centsT l (-12 + (j : Int)))))
theorem nearT_is (l : List (Int × Int)) (c : Int) (n : Nat) : NearP l c n (nearT l c n) := by
  induction n with
  | zero =>
    refine ⟨rfl, by simp [nearT], by simp [nearT], fun j hj => ?_, fun j hj => ?_⟩
    · obtain rfl : j = 0 := by omega
      simp [nearT]
    · simp only [nearT] at hj; omega
  | succ n ih =>
    obtain ⟨i1, i2, i3, i4, i5⟩ := ih
    have e : ∀ j : Nat, j = n + 1 → -12 + (j : Int) = -11 + (n : Int) := fun j hj => by omega
    rw [nearT]
    split
    · rename_i hlt
      refine ⟨rfl, by simp only; omega, by simp only; omega, fun j hj => ?_, fun j hj => ?_⟩
      · simp only
        rcases Nat.lt_or_ge n j with h | h
        · rw [e j (by omega)]; exact Int.le_refl _
        · have := i4 j h; omega
      · simp only at hj ⊢
        have := i4 j (by omega)
        omega
    · rename_i hge
      refine ⟨i1, i2, by omega, fun j hj => ?_, i5⟩
      rcases Nat.lt_or_ge n j with h | h
      · rw [e j (by omega)]; omega
      · exact i4 j h
theorem nearP_one {l : List (Int × Int)} {c : Int} {n : Nat} {t u : Int × Int} (h : NearP l c n t) (k : NearP l c n u) : t = u := by
  obtain ⟨h1, h2, h3, h4, h5⟩ := h
  obtain ⟨k1, k2, k3, k4, k5⟩ := k
  obtain ⟨i, hi⟩ : ∃ i : Nat, t.1 = -12 + (i : Int) := ⟨(t.1 + 12).toNat, by omega⟩
  obtain ⟨j, hj⟩ : ∃ j : Nat, u.1 = -12 + (j : Int) := ⟨(u.1 + 12).toNat, by omega⟩
  have a := h4 j (by omega)
  have b := k4 i (by omega)
  rw [← hj, ← k1] at a
  rw [← hi, ← h1] at b
  have he : t.1 = u.1 := by
    rcases Int.lt_trichotomy t.1 u.1 with h | h | h
    · have := k5 i (by omega)
      rw [← hi, ← h1] at this
      omega
    · exact h
    · have := h5 j (by omega)
      rw [← hj, ← k1] at this
      omega
  exact Prod.ext he (by rw [h1, k1, he])
end Go.Proofs.YtbnhcacjlkmfeaaDoor
