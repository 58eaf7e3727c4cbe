/- Plain facts for the laws of chapter 2, of the functions of both sides. -/
import Derived.Test.YtobhmoohalkijaaDoorRatB
import Derived.Test.YtobhmoohalkijaaDoorRatLaw
namespace Go.Proofs.YtobhmoohalkijaaDoor
set_option linter.unusedVariables false
set_option linter.unusedSimpArgs false
set_option maxRecDepth 100000

theorem centsZ_part (n d : Int) : centsZ n d = 120000 * (octN n d).2.2 + partZ (octN n d).1 (octN n d).2.1 := by unfold centsZ; rw [centP_part]
theorem mul4 (a b c d : Int) : a * b * (c * d) = a * c * (b * d) := by simp only [Int.mul_assoc, Int.mul_left_comm]
theorem pow2_add (i j : Nat) : (2 : Int) ^ (i + j) = 2 ^ i * 2 ^ j := Int.pow_add ..
/-- greater ratios are no fewer octaves away -/
theorem oct_mono {n d m e a b k a' b' k' : Int} (hn : 1 ≤ n) (hd : 1 ≤ d) (hm : 1 ≤ m) (he : 1 ≤ e) (h : n * e ≤ m * d) (h1 : OctP n d a b k) (h2 : OctP m e a' b' k') : k < k' ∨ (k = k' ∧ a * b' ≤ a' * b) := by
  obtain ⟨⟨i, j, rfl, rfl, rfl, _⟩, p1, p2⟩ := h1
  obtain ⟨⟨i', j', rfl, rfl, rfl, _⟩, q1, q2⟩ := h2
  have hne : 0 < n * e := Int.mul_pos (by omega) (by omega)
  have hmd : 0 < m * d := Int.mul_pos (by omega) (by omega)
  rcases (show (j : Int) - i < j' - i' ∨ (j : Int) - i = j' - i' ∨ (j' : Int) - i' < j - i by omega) with hk | hk | hk
  · exact .inl hk
  · refine .inr ⟨hk, ?_⟩
    rw [mul4 n _ e _, mul4 m _ d _, ← pow2_add, ← pow2_add, show i + j' = i' + j by omega]
    exact Int.mul_le_mul_of_nonneg_right h (by have := pow2_pos (i' + j); omega)
  · exfalso
    have a1 : 0 < n * 2 ^ i := Int.mul_pos (by omega) (by have := pow2_pos i; omega)
    have a2 : 0 < m * 2 ^ i' := Int.mul_pos (by omega) (by have := pow2_pos i'; omega)
    have a3 : 0 < d * 2 ^ j := Int.mul_pos (by omega) (by have := pow2_pos j; omega)
    -- d 2^j m 2^i' < n 2^i 2 e 2^j'
    have s1 : (d * 2 ^ j) * (m * 2 ^ i') ≤ (n * 2 ^ i) * (m * 2 ^ i') := Int.mul_le_mul_of_nonneg_right p1 (by omega)
    have s2 : (n * 2 ^ i) * (m * 2 ^ i') < (n * 2 ^ i) * (2 * (e * 2 ^ j')) := Int.mul_lt_mul_of_pos_left q2 a1
    have e1 : (d * 2 ^ j) * (m * 2 ^ i') = (m * d) * 2 ^ (j + i') := by rw [mul4, ← pow2_add, Int.mul_comm d m]
    have e2 : (n * 2 ^ i) * (2 * (e * 2 ^ j')) = (n * e) * 2 ^ (i + j' + 1) := by
      rw [Int.mul_left_comm, mul4 n _ e _, ← pow2_add, Int.pow_succ]
      simp only [Int.mul_assoc, Int.mul_comm, Int.mul_left_comm]
    have s3 : (n * e) * 2 ^ (i + j' + 1) ≤ (m * d) * 2 ^ (i + j' + 1) := Int.mul_le_mul_of_nonneg_right h (by have := pow2_pos (i + j' + 1); omega)
    have s4 : (m * d) * 2 ^ (i + j' + 1) ≤ (m * d) * 2 ^ (j + i') := Int.mul_le_mul_of_nonneg_left (pow2_le (by omega)) (by omega)
    omega
/-- what is done is a ratio, and the same one -/
theorem done_is {x y p q : Int} (hx : 1 ≤ x) (hy : 1 ≤ y) (h : doneR x y = (p, q, 0)) : okR p q = true ∧ p * y = x * q ∧ 1 ≤ p ∧ 1 ≤ q ∧ p = x / gz x y ∧ q = y / gz x y := by
  obtain ⟨x1, _, x2⟩ := red_num x y hx
  obtain ⟨y1, _, y2⟩ := red_num y x hy
  rw [gz_comm y x] at y1 y2
  unfold doneR at h
  split at h
  · rename_i hc
    injection h with e1 e2
    injection e2 with e2 _
    refine ⟨?_, ?_, by omega, by omega, e1.symm, e2.symm⟩
    · rw [← e1, ← e2, ok_red x y hx hy]; simp [hc]
    · rw [← e1, ← e2]
      generalize gz x y = g at *
      generalize x / g = X at *
      generalize y / g = Y at *
      subst x2 y2
      simp only [Int.mul_assoc, Int.mul_comm, Int.mul_left_comm]
  · injection h with e1 e2
    injection e2 with e2 e3
    cases e3
theorem done_same {x y u v : Int} (hx : 1 ≤ x) (hy : 1 ≤ y) (hu : 1 ≤ u) (hv : 1 ≤ v) (h : x * v = u * y) : doneR x y = doneR u v := by
  obtain ⟨e1, e2⟩ := red_unique hx hy hu hv h
  unfold doneR
  rw [e1, e2]
theorem done_ok {n d : Int} (h : okR n d = true) : doneR n d = (n, d, 0) := by
  obtain ⟨⟨a1, a2⟩, ⟨b1, b2⟩, hg⟩ := okR_yes h
  unfold doneR
  rw [hg, Int.ediv_one, Int.ediv_one, if_pos (by omega)]
/-- quotients undo products -/
theorem div_mul {n d m e p q : Int} (hn : okR n d = true) (hm : okR m e = true) (h : mulR n d m e = (p, q, 0)) : okR p q = true ∧ divR p q m e = (n, d, 0) := by
  obtain ⟨⟨a1, a2⟩, ⟨b1, b2⟩, _⟩ := okR_yes hn
  obtain ⟨⟨c1, c2⟩, ⟨d1, d2⟩, _⟩ := okR_yes hm
  unfold mulR at h
  rw [hn, hm] at h
  simp only [Bool.and_self, if_true] at h
  have x1 := mul_rng ⟨a1, a2⟩ ⟨c1, c2⟩
  have y1 := mul_rng ⟨b1, b2⟩ ⟨d1, d2⟩
  obtain ⟨ok, hpq, p1, q1, _⟩ := done_is x1.1 y1.1 h
  refine ⟨ok, ?_⟩
  unfold divR
  rw [ok, hm]
  simp only [Bool.and_self, if_true]
  rw [← done_ok hn]
  refine done_same ?_ ?_ a1 b1 ?_
  · have := Int.mul_pos (show 0 < p by omega) (show 0 < e by omega); omega
  · have := Int.mul_pos (show 0 < q by omega) (show 0 < m by omega); omega
  · have e1 : p * e * d = p * (d * e) := by rw [Int.mul_assoc, Int.mul_comm e d]
    have e2 : n * (q * m) = n * m * q := by rw [Int.mul_assoc, Int.mul_comm q m]
    rw [e1, e2, hpq]
theorem mul_comm2 (n d m e : Int) : mulR m e n d = mulR n d m e := by
  unfold mulR
  rw [Bool.and_comm, Int.mul_comm m n, Int.mul_comm e d]
theorem cmp_scale {x y u v g k : Int} (hg : 1 ≤ g) (hk : 1 ≤ k) (h1 : x * g = u * k) (h2 : y * g = v * k) : (x < y ↔ u < v) := by
  constructor
  · intro h
    have := Int.mul_lt_mul_of_pos_right h (show 0 < g by omega)
    rw [h1, h2] at this
    exact Int.lt_of_mul_lt_mul_right this (by omega)
  · intro h
    have := Int.mul_lt_mul_of_pos_right h (show 0 < k by omega)
    rw [← h1, ← h2] at this
    exact Int.lt_of_mul_lt_mul_right this (by omega)
/-- a ratio between two others lies between them -/
theorem bet_between {n d m e p q : Int} (hn : okR n d = true) (hm : okR m e = true) (h : betR n d m e = (p, q, 0)) : okR p q = true ∧ cmpR n d p q = cmpR n d m e ∧ cmpR p q m e = cmpR n d m e := by
  obtain ⟨⟨a1, a2⟩, ⟨b1, b2⟩, _⟩ := okR_yes hn
  obtain ⟨⟨c1, c2⟩, ⟨d1, d2⟩, _⟩ := okR_yes hm
  unfold betR at h
  rw [hn, hm] at h
  simp only [Bool.and_self, if_true] at h
  obtain ⟨ok, hpq, p1, q1, hp, hq⟩ := done_is (x := n + m) (y := d + e) (by omega) (by omega) h
  refine ⟨ok, ?_, ?_⟩
  · -- n q < p d  iff  n (d+e) < (n+m) d  iff  n e < m d
    have k : n * q < p * d ↔ n * e < m * d := by
      have s : (n * q) * (d + e) < (p * d) * (d + e) ↔ (n * (d + e)) * q < ((n + m) * d) * q := by
        have e1 : (n * q) * (d + e) = (n * (d + e)) * q := by simp only [Int.mul_assoc, Int.mul_comm, Int.mul_left_comm]
        have e2 : (p * d) * (d + e) = ((n + m) * d) * q := by
          calc (p * d) * (d + e) = p * (d + e) * d := by simp only [Int.mul_assoc, Int.mul_comm, Int.mul_left_comm]
            _ = (n + m) * q * d := by rw [hpq]
            _ = ((n + m) * d) * q := by rw [Int.mul_assoc, Int.mul_comm q d, ← Int.mul_assoc]
        rw [e1, e2]
      have t1 : n * q < p * d ↔ (n * q) * (d + e) < (p * d) * (d + e) := ⟨fun h => Int.mul_lt_mul_of_pos_right h (by omega), fun h => Int.lt_of_mul_lt_mul_right h (by omega)⟩
      have t2 : (n * (d + e)) * q < ((n + m) * d) * q ↔ n * (d + e) < (n + m) * d := ⟨fun h => Int.lt_of_mul_lt_mul_right h (by omega), fun h => Int.mul_lt_mul_of_pos_right h (by omega)⟩
      rw [t1, s, t2, Int.mul_add, Int.add_mul]
      omega
    have k2 : p * d < n * q ↔ m * d < n * e := by
      have s : (p * d) * (d + e) < (n * q) * (d + e) ↔ ((n + m) * d) * q < (n * (d + e)) * q := by
        have e1 : (n * q) * (d + e) = (n * (d + e)) * q := by simp only [Int.mul_assoc, Int.mul_comm, Int.mul_left_comm]
        have e2 : (p * d) * (d + e) = ((n + m) * d) * q := by
          calc (p * d) * (d + e) = p * (d + e) * d := by simp only [Int.mul_assoc, Int.mul_comm, Int.mul_left_comm]
            _ = (n + m) * q * d := by rw [hpq]
            _ = ((n + m) * d) * q := by rw [Int.mul_assoc, Int.mul_comm q d, ← Int.mul_assoc]
        rw [e1, e2]
      have t1 : p * d < n * q ↔ (p * d) * (d + e) < (n * q) * (d + e) := ⟨fun h => Int.mul_lt_mul_of_pos_right h (by omega), fun h => Int.lt_of_mul_lt_mul_right h (by omega)⟩
      have t2 : ((n + m) * d) * q < (n * (d + e)) * q ↔ (n + m) * d < n * (d + e) := ⟨fun h => Int.lt_of_mul_lt_mul_right h (by omega), fun h => Int.mul_lt_mul_of_pos_right h (by omega)⟩
      rw [t1, s, t2, Int.mul_add, Int.add_mul]
      omega
    unfold cmpR
    simp only [k, k2]
  · have k : p * e < m * q ↔ n * e < m * d := by
      have e1 : (m * q) * (d + e) = (m * (d + e)) * q := by simp only [Int.mul_assoc, Int.mul_comm, Int.mul_left_comm]
      have e2 : (p * e) * (d + e) = ((n + m) * e) * q := by
        calc (p * e) * (d + e) = p * (d + e) * e := by simp only [Int.mul_assoc, Int.mul_comm, Int.mul_left_comm]
          _ = (n + m) * q * e := by rw [hpq]
          _ = ((n + m) * e) * q := by rw [Int.mul_assoc, Int.mul_comm q e, ← Int.mul_assoc]
      have t1 : p * e < m * q ↔ (p * e) * (d + e) < (m * q) * (d + e) := ⟨fun h => Int.mul_lt_mul_of_pos_right h (by omega), fun h => Int.lt_of_mul_lt_mul_right h (by omega)⟩
      have t2 : ((n + m) * e) * q < (m * (d + e)) * q ↔ (n + m) * e < m * (d + e) := ⟨fun h => Int.lt_of_mul_lt_mul_right h (by omega), fun h => Int.mul_lt_mul_of_pos_right h (by omega)⟩
      rw [t1, e1, e2, t2, Int.mul_add, Int.add_mul]
      omega
    have k2 : m * q < p * e ↔ m * d < n * e := by
      have e1 : (m * q) * (d + e) = (m * (d + e)) * q := by simp only [Int.mul_assoc, Int.mul_comm, Int.mul_left_comm]
      have e2 : (p * e) * (d + e) = ((n + m) * e) * q := by
        calc (p * e) * (d + e) = p * (d + e) * e := by simp only [Int.mul_assoc, Int.mul_comm, Int.mul_left_comm]
          _ = (n + m) * q * e := by rw [hpq]
          _ = ((n + m) * e) * q := by rw [Int.mul_assoc, Int.mul_comm q e, ← Int.mul_assoc]
      have t1 : m * q < p * e ↔ (m * q) * (d + e) < (p * e) * (d + e) := ⟨fun h => Int.mul_lt_mul_of_pos_right h (by omega), fun h => Int.lt_of_mul_lt_mul_right h (by omega)⟩
      have t2 : (m * (d + e)) * q < ((n + m) * e) * q ↔ m * (d + e) < (n + m) * e := ⟨fun h => Int.lt_of_mul_lt_mul_right h (by omega), fun h => Int.mul_lt_mul_of_pos_right h (by omega)⟩
      rw [t1, e1, e2, t2, Int.mul_add, Int.add_mul]
      omega
    unfold cmpR
    simp only [k, k2]
end Go.Proofs.YtobhmoohalkijaaDoor
