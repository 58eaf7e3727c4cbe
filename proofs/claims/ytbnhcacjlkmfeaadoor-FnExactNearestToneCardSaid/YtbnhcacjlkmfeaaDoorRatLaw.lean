/- Plain facts for the laws of chapter 2: quotients undo products, a ratio between two others, cents rise. -/
import Derived.Test.YtbnhcacjlkmfeaaDoorOctMath
namespace Go.Proofs.YtbnhcacjlkmfeaaDoor
set_option linter.unusedVariables false
set_option linter.unusedSimpArgs false
set_option maxRecDepth 100000

theorem coprime_dvd {X Y U : Int} (h : gz X Y = 1) (hd : X ∣ U * Y) : X ∣ U := by
  have hc : Nat.Coprime X.natAbs Y.natAbs := by
    unfold gz at h
    have : Int.gcd X Y = 1 := by omega
    exact this
  have h2 := Int.natAbs_dvd_natAbs.2 hd
  rw [Int.natAbs_mul] at h2
  exact Int.natAbs_dvd_natAbs.1 (hc.dvd_of_dvd_mul_right h2)
theorem red_unique {x y u v : Int} (hx : 1 ≤ x) (hy : 1 ≤ y) (hu : 1 ≤ u) (hv : 1 ≤ v) (h : x * v = u * y) : x / gz x y = u / gz u v ∧ y / gz x y = v / gz u v := by
  obtain ⟨x1, _, x2⟩ := red_num x y hx
  obtain ⟨y1, _, y2⟩ := red_num y x hy
  obtain ⟨u1, _, u2⟩ := red_num u v hu
  obtain ⟨v1, _, v2⟩ := red_num v u hv
  rw [gz_comm y x] at y1 y2
  rw [gz_comm v u] at v1 v2
  have c1 := red_gcd x y hx
  have c2 := red_gcd u v hu
  have g1 := gz_pos x y hx
  have g2 := gz_pos u v hu
  generalize x / gz x y = X at *
  generalize y / gz x y = Y at *
  generalize u / gz u v = U at *
  generalize v / gz u v = V at *
  generalize gz x y = g at *
  generalize gz u v = k at *
  have e : X * V = U * Y := by
    subst x2 y2 u2 v2
    have e1 : (X * V) * (g * k) = (U * Y) * (g * k) := by
      calc (X * V) * (g * k) = X * g * (V * k) := by rw [Int.mul_assoc, Int.mul_left_comm V g k, ← Int.mul_assoc]
        _ = U * k * (Y * g) := h
        _ = (U * Y) * (g * k) := by rw [Int.mul_assoc, Int.mul_left_comm k Y g, Int.mul_comm k g, ← Int.mul_assoc]
    exact Int.eq_of_mul_eq_mul_right (by have := Int.mul_pos (show 0 < g by omega) (show 0 < k by omega); omega) e1
  have d1 : X ∣ U := coprime_dvd c1 ⟨V, e.symm⟩
  have d2 : U ∣ X := coprime_dvd c2 ⟨Y, e⟩
  have l1 := Int.le_of_dvd (by omega) d1
  have l2 := Int.le_of_dvd (by omega) d2
  obtain rfl : X = U := by omega
  exact ⟨rfl, (Int.eq_of_mul_eq_mul_left (by omega) e).symm⟩

/-- the nearest quotient rises with the quotient -/
theorem dv_mono {p q r s : Int} (hp : 0 ≤ p) (hr : 0 ≤ r) (hq : 1 ≤ q) (hs : 1 ≤ s) (h : p * s ≤ r * q) : dv p q ≤ dv r s := by
  rw [dv_pos _ _ (by omega), dv_pos _ _ (by omega), dvp_pos _ _ hp, dvp_pos _ _ hr]
  refine (Int.le_ediv_iff_mul_le (by omega)).2 ?_
  have h1 : (2 * p + q) / (2 * q) * (2 * q) ≤ 2 * p + q := Int.ediv_mul_le _ (by omega)
  generalize (2 * p + q) / (2 * q) = t at *
  have h2 : t * (2 * q) * s ≤ (2 * p + q) * s := Int.mul_le_mul_of_nonneg_right h1 (by omega)
  have h3 : (2 * p + q) * s ≤ (2 * r + s) * q := by
    have e1 : (2 * p + q) * s = 2 * (p * s) + q * s := by rw [Int.add_mul, Int.mul_assoc]
    have e2 : (2 * r + s) * q = 2 * (r * q) + q * s := by rw [Int.add_mul, Int.mul_assoc, Int.mul_comm s q]
    omega
  have h4 : t * (2 * s) * q ≤ (2 * r + s) * q := by
    have e : t * (2 * s) * q = t * (2 * q) * s := by simp only [Int.mul_assoc, Int.mul_comm, Int.mul_left_comm]
    omega
  exact Int.le_of_mul_le_mul_right h4 (by omega)
/-- the part of the cents within an octave -/
def partZ (a b : Int) : Int := centP a b 0
theorem centP_part (a b k : Int) : centP a b k = 120000 * k + partZ a b := by unfold partZ centP; omega
theorem tab_mono : ∀ i j : Nat, i ≤ 32 → j ≤ 32 → i ≤ j → tabZ i ≤ tabZ j := by
  have h : ∀ i ≤ 32, ∀ j ≤ 32, i ≤ j → tabZ i ≤ tabZ j := by decide
  exact fun i j hi hj => h i hi j hj
theorem part_form {a b : Int} {i : Nat} (hi : 32 * (a - b) / b = i) : partZ a b = tabZ i + dv ((tabZ (i + 1) - tabZ i) * (32 * (a - b) - i * b)) b := by
  unfold partZ centP
  rw [hi]
  simp
theorem part_in {a b : Int} {i : Nat} (hb : 1 ≤ b) (hi : 32 * (a - b) / b = i) (h31 : i ≤ 31) (h0 : 0 ≤ 32 * (a - b) - i * b) (h1 : 32 * (a - b) - i * b < b) : tabZ i ≤ partZ a b ∧ partZ a b ≤ tabZ (i + 1) := by
  obtain ⟨t1, t2, t3⟩ := tab_bd i h31
  rw [part_form hi]
  have n0 : 0 ≤ (tabZ (i + 1) - tabZ i) * (32 * (a - b) - i * b) := Int.mul_nonneg (by omega) h0
  have lo := dv_mono (p := 0) (q := 1) (r := (tabZ (i + 1) - tabZ i) * (32 * (a - b) - i * b)) (s := b) (by omega) n0 (by omega) hb (by omega)
  have hi2 := dv_mono (p := (tabZ (i + 1) - tabZ i) * (32 * (a - b) - i * b)) (q := b) (r := tabZ (i + 1) - tabZ i) (s := 1) n0 (by omega) hb (by omega) (by
    rw [Int.mul_one]
    exact Int.mul_le_mul_of_nonneg_left (by omega) (by omega))
  have e0 : dv 0 1 = 0 := by decide
  have e1 : dv (tabZ (i + 1) - tabZ i) 1 = tabZ (i + 1) - tabZ i := by
    have hx0 : 0 ≤ tabZ (i + 1) - tabZ i := by omega
    generalize tabZ (i + 1) - tabZ i = x at *
    rw [dv_pos _ _ (by omega), dvp_pos _ _ (by omega)]; omega
  omega
theorem part_bd {a b : Int} (hb : 1 ≤ b) (h1 : b ≤ a) (h2 : a < 2 * b) : 0 ≤ partZ a b ∧ partZ a b ≤ 120000 := by
  obtain ⟨i, hi, i1, i2, i3⟩ := part_index hb h1 h2
  obtain ⟨t1, t2, t3⟩ := tab_bd i i1
  have := part_in hb hi i1 i2 i3
  omega
theorem part_mono {a b c d : Int} (hb : 1 ≤ b) (h1 : b ≤ a) (h2 : a < 2 * b) (hd : 1 ≤ d) (h3 : d ≤ c) (h4 : c < 2 * d) (h : a * d ≤ c * b) : partZ a b ≤ partZ c d := by
  obtain ⟨i, hi, i1, i2, i3⟩ := part_index hb h1 h2
  obtain ⟨j, hj, j1, j2, j3⟩ := part_index hd h3 h4
  have hx : (32 * (a - b)) * d ≤ (32 * (c - d)) * b := by
    have e1 : (32 * (a - b)) * d = 32 * (a * d) - 32 * (b * d) := by rw [Int.mul_assoc, Int.sub_mul, Int.mul_sub]
    have e2 : (32 * (c - d)) * b = 32 * (c * b) - 32 * (b * d) := by rw [Int.mul_assoc, Int.sub_mul, Int.mul_sub, Int.mul_comm d b]
    omega
  have hij : i ≤ j := by
    have : (i : Int) ≤ 32 * (c - d) / d := by
      refine (Int.le_ediv_iff_mul_le (by omega)).2 ?_
      have k1 : (i : Int) * b * d ≤ 32 * (a - b) * d := Int.mul_le_mul_of_nonneg_right (by omega) (by omega)
      have k2 : (i : Int) * d * b ≤ 32 * (c - d) * b := by
        have e : (i : Int) * d * b = i * b * d := by rw [Int.mul_assoc, Int.mul_comm d b, ← Int.mul_assoc]
        omega
      exact Int.le_of_mul_le_mul_right k2 (by omega)
    omega
  have p1 := part_in hb hi i1 i2 i3
  have p2 := part_in hd hj j1 j2 j3
  rcases Nat.lt_or_ge i j with hlt | hge
  · have := tab_mono (i + 1) j (by omega) (by omega) (by omega)
    omega
  · obtain rfl : i = j := by omega
    obtain ⟨t1, t2, t3⟩ := tab_bd i i1
    rw [part_form hi, part_form hj]
    have ht0 : 0 ≤ tabZ (i + 1) - tabZ i := by omega
    generalize tabZ (i + 1) - tabZ i = t at *
    have := dv_mono (p := t * (32 * (a - b) - i * b)) (q := b) (r := t * (32 * (c - d) - i * d)) (s := d) (Int.mul_nonneg (by omega) i2) (Int.mul_nonneg (by omega) j2) hb hd (by
      rw [Int.mul_assoc, Int.mul_assoc]
      refine Int.mul_le_mul_of_nonneg_left ?_ (by omega)
      have e1 : (32 * (a - b) - i * b) * d = 32 * (a - b) * d - i * b * d := Int.sub_mul ..
      have e2 : (32 * (c - d) - i * d) * b = 32 * (c - d) * b - i * b * d := by rw [Int.sub_mul, Int.mul_assoc (i : Int) d b, Int.mul_comm d b, ← Int.mul_assoc]
      omega)
    omega
theorem part_same {a b c d : Int} (hb : 1 ≤ b) (h1 : b ≤ a) (h2 : a < 2 * b) (hd : 1 ≤ d) (h3 : d ≤ c) (h4 : c < 2 * d) (h : a * d = c * b) : partZ a b = partZ c d := by
  have l1 := part_mono hb h1 h2 hd h3 h4 (by omega)
  have l2 := part_mono hd h3 h4 hb h1 h2 (by omega)
  omega
end Go.Proofs.YtbnhcacjlkmfeaaDoor
