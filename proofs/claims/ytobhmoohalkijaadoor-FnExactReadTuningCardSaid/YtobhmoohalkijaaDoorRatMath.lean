/- Plain arithmetic for chapter 2: greatest common divisors, ratios in lowest terms. -/
import Derived.Test.YtobhmoohalkijaaDoorMath
namespace Go.Proofs.YtobhmoohalkijaaDoor
set_option linter.unusedVariables false
set_option linter.unusedSimpArgs false
set_option maxRecDepth 100000

/-- the greatest common divisor as an integer -/
def gz (a b : Int) : Int := (Int.gcd a b : Nat)
theorem gz_zero (a : Int) (h : 0 ≤ a) : gz a 0 = a := by unfold gz; rw [Int.gcd_zero_right]; omega
theorem gz_step (a b : Int) : gz b (a.tmod b) = gz a b := by
  unfold gz
  congr 1
  have h := Int.mul_tdiv_add_tmod a b
  have e : a.tmod b = a + b * (-(a.tdiv b)) := by rw [Int.mul_neg]; omega
  rw [e, Int.gcd_add_mul_left_right, Int.gcd_comm]
theorem gz_mod (a b : Int) (h : 0 ≤ a) : gz b (a % b) = gz a b := by rw [← Int.tmod_eq_emod_of_nonneg h]; exact gz_step a b
theorem gz_comm (a b : Int) : gz a b = gz b a := by unfold gz; rw [Int.gcd_comm]
theorem gz_nonneg (a b : Int) : 0 ≤ gz a b := by unfold gz; omega
theorem gz_pos (a b : Int) (h : 1 ≤ a) : 1 ≤ gz a b := by
  unfold gz
  have := Int.gcd_pos_of_ne_zero_left b (show a ≠ 0 by omega)
  omega
theorem gz_dvd_left (a b : Int) : gz a b ∣ a := Int.gcd_dvd_left ..
theorem gz_dvd_right (a b : Int) : gz a b ∣ b := Int.gcd_dvd_right ..
theorem gz_le (a b : Int) (h : 1 ≤ a) : gz a b ≤ a := Int.le_of_dvd (by omega) (gz_dvd_left a b)
/-- what is left once the common divisors are removed -/
theorem red_num (a b : Int) (h : 1 ≤ a) : 1 ≤ a / gz a b ∧ a / gz a b ≤ a ∧ a / gz a b * gz a b = a := by
  obtain ⟨c, hc⟩ := gz_dvd_left a b
  have hg := gz_pos a b h
  have e : a / gz a b * gz a b = a := Int.ediv_mul_cancel (gz_dvd_left a b)
  refine ⟨?_, Int.ediv_le_self _ (by omega), e⟩
  rcases (show a / gz a b ≤ 0 ∨ 1 ≤ a / gz a b by omega) with h0 | h0
  · have := Int.mul_nonpos_of_nonpos_of_nonneg h0 (show 0 ≤ gz a b by omega)
    omega
  · exact h0
theorem red_gcd (a b : Int) (h : 1 ≤ a) : gz (a / gz a b) (b / gz a b) = 1 := by
  have hg := gz_pos a b h
  unfold gz at hg ⊢
  have := Int.gcd_ediv_gcd_ediv_gcd (i := a) (j := b) (by omega)
  rw [this]; rfl
theorem tdiv_pos (a g : Int) (h : 0 ≤ a) : a.tdiv g = a / g := Int.tdiv_eq_ediv_of_nonneg h
end Go.Proofs.YtobhmoohalkijaaDoor
