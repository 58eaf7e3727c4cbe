/- Plain facts for the laws of chapter 2: quotients undo products, a ratio between two others, cents rise. -/
import Derived.Test.YtobhmoohalkijaaDoorOctMath
namespace Go.Proofs.YtobhmoohalkijaaDoor
set_option linter.unusedVariables false
set_option linter.unusedSimpArgs false
set_option maxRecDepth 100000

theorem coprime_dvd {X Y U : Int} (h : gz X Y = 1) (hd : X ∣ U * Y) : X ∣ U := by
  have hc : Nat.Coprime X.natAbs Y.natAbs := by
    unfold gz at h
    have : Int.gcd X Y = 1 := by omega
    exact this
  have h2 := Int.natAbs_dvd_natAbs.2 hd
  rw [Int.natAbs_mul] at h2
  exact Int.natAbs_dvd_natAbs.1 (hc.dvd_of_dvd_mul_right h2)
theorem red_unique {x y u v : Int} (hx : 1 ≤ x) (hy : 1 ≤ y) (hu : 1 ≤ u) (hv : 1 ≤ v) (h : x * v = u * y) : x / gz x y = u / gz u v ∧ y / gz x y = v / gz u v := by
  obtain ⟨x1, _, x2⟩ := red_num x y hx
  obtain ⟨y1, _, y2⟩ := red_num y x hy
  obtain ⟨u1, _, u2⟩ := red_num u v hu
  obtain ⟨v1, _, v2⟩ := red_num v u hv
  rw [gz_comm y x] at y1 y2
  rw [gz_comm v u] at v1 v2
  have c1 := red_gcd x y hx
  have c2 := red_gcd u v hu
  have g1 := gz_pos x y hx
  have g2 := gz_pos u v hu
  generalize x / gz x y = X at *
  generalize y / gz x y = Y at *
  generalize u / gz u v = U at *
  generalize v / gz u v = V at *
  generalize gz x y = g at *
  generalize gz u v = k at *
  have e : X * V = U * Y := by
    subst x2 y2 u2 v2
    have e1 : (X * V) * (g * k) = (U * Y) * (g * k) := by
      calc (X * V) * (g * k) = X * g * (V * k) := by rw [Int.mul_assoc, Int.mul_left_comm V g k, ← Int.mul_assoc]
        _ = U * k * (Y * g) := h
        _ = (U * Y) * (g * k) := by rw [Int.mul_assoc, Int.mul_left_comm k Y g, Int.mul_comm k g, ← Int.mul_assoc]
    exact Int.eq_of_mul_eq_mul_right (by have := Int.mul_pos (show 0 < g by omega) (show 0 < k by omega); omega) e1
  have d1 : X ∣ U := coprime_dvd c1 ⟨V, e.symm⟩
  have d2 : U ∣ X := coprime_dvd c2 ⟨Y, e⟩
  have l1 := Int.le_of_dvd (by omega) d1
  have l2 := Int.le_of_dvd (by omega) d2
  obtain rfl : X = U := by omega
  exact ⟨rfl, (Int.eq_of_mul_eq_mul_left (by omega) e).symm⟩

/-- the part of the cents within an octave -/
def partZ (a b : Int) : Int := centP a b 0
theorem centP_part (a b k : Int) : centP a b k = 120000 * k + partZ a b := by unfold partZ centP; omega
theorem tab_mono : ∀ i j : Nat, i ≤ 32 → j ≤ 32 → i ≤ j → tabZ i ≤ tabZ j := by
  have h : ∀ i ≤ 32, ∀ j ≤ 32, i ≤ j → tabZ i ≤ tabZ j := by decide
  exact fun i j hi hj => h i hi j hj
theorem part_form {a b : Int} {i : Nat} (hi : 32 * (a - b) / b = i) : partZ a b = tabZ i + dv ((tabZ (i + 1) - tabZ i) * (32 * (a - b) - i * b)) b := by
  unfold partZ centP
  rw [hi]
  simp
end Go.Proofs.YtobhmoohalkijaaDoor
