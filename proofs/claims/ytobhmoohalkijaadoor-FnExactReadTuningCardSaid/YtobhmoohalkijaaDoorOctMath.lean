/- Plain arithmetic for chapter 2: a ratio within an octave. -/
import Derived.Test.YtobhmoohalkijaaDoorRatMath
namespace Go.Proofs.YtobhmoohalkijaaDoor
set_option linter.unusedVariables false
set_option linter.unusedSimpArgs false
set_option maxRecDepth 100000

/-- num over den is n over d times or by two, k times, from 1 on but less than 2 -/
def OctP (n d num den k : Int) : Prop := (∃ i j : Nat, num = n * 2 ^ i ∧ den = d * 2 ^ j ∧ k = j - i ∧ (i = 0 ∨ j = 0)) ∧ den ≤ num ∧ num < 2 * den
def OctA (n d den k : Int) : Prop := ∃ j : Nat, den = d * 2 ^ j ∧ k = j ∧ (j = 0 ∨ den ≤ n)
def OctB (n d num den k : Int) : Prop := (∃ i j : Nat, num = n * 2 ^ i ∧ den = d * 2 ^ j ∧ k = j - i ∧ (i = 0 ∨ j = 0) ∧ (j = 0 ∨ den ≤ n)) ∧ num < 2 * den

theorem pow2_pos (j : Nat) : (1 : Int) ≤ 2 ^ j := by
  have := Int.pow_pos (n := 2) (m := j) (by omega)
  omega
theorem pow2_gt (j : Nat) : (j : Int) < 2 ^ j := by
  have : j < 2 ^ j := Nat.lt_two_pow_self
  have h : ((2 ^ j : Nat) : Int) = 2 ^ j := by simp
  omega
theorem le_mul_pow (d : Int) (j : Nat) (hd : 1 ≤ d) : d ≤ d * 2 ^ j ∧ 2 ^ j ≤ d * 2 ^ j := by
  have h := pow2_pos j
  have h1 : d * 1 ≤ d * 2 ^ j := Int.mul_le_mul_of_nonneg_left h (by omega)
  have h2 : 1 * 2 ^ j ≤ d * 2 ^ j := Int.mul_le_mul_of_nonneg_right hd (by omega)
  omega
theorem mul_pow_succ (d : Int) (j : Nat) : d * 2 ^ (j + 1) = d * 2 ^ j * 2 := by rw [Int.pow_succ, Int.mul_assoc]
theorem octA_start (n d : Int) : OctA n d d 0 := ⟨0, by simp, rfl, .inl rfl⟩
theorem octA_step {n d den k : Int} (h : OctA n d den k) (hn : 2 * den ≤ n) : OctA n d (den * 2) (k + 1) := by
  obtain ⟨j, rfl, rfl, _⟩ := h
  exact ⟨j + 1, by rw [mul_pow_succ], by omega, .inr (by omega)⟩
theorem octA_bd {n d den k : Int} (h : OctA n d den k) (hn : n ≤ 1000000) (hd : 1 ≤ d ∧ d ≤ 1000000) : (1 ≤ den ∧ den ≤ 1000000) ∧ 0 ≤ k ∧ k ≤ 1000000 := by
  obtain ⟨j, rfl, rfl, h⟩ := h
  obtain ⟨a, b⟩ := le_mul_pow d j hd.1
  have c := pow2_gt j
  rcases h with rfl | h
  · simp at *; omega
  · omega
theorem octB_start {n d den k : Int} (h : OctA n d den k) (hn : n < 2 * den) : OctB n d n den k := by
  obtain ⟨j, h1, h2, h3⟩ := h
  exact ⟨⟨0, j, by simp, h1, by omega, .inl rfl, h3⟩, hn⟩
theorem octB_step {n d num den k : Int} (h : OctB n d num den k) (hn : num < den) : OctB n d (num * 2) den (k - 1) := by
  obtain ⟨⟨i, j, h1, h2, h3, h4, h5⟩, h6⟩ := h
  have hj : j = 0 := by
    rcases h4 with rfl | h4
    · rcases h5 with h5 | h5
      · exact h5
      · simp at h1; omega
    · exact h4
  exact ⟨⟨i + 1, j, by rw [mul_pow_succ, h1], h2, by omega, .inr hj, .inl hj⟩, by omega⟩
theorem octB_bd {n d num den k : Int} (h : OctB n d num den k) (hn : 1 ≤ n ∧ n ≤ 1000000) (hd : 1 ≤ d ∧ d ≤ 1000000) : (1 ≤ num ∧ num ≤ 2000000) ∧ (1 ≤ den ∧ den ≤ 1000000) ∧ -2000000 ≤ k ∧ k ≤ 1000000 := by
  obtain ⟨⟨i, j, h1, h2, h3, h4, h5⟩, h6⟩ := h
  obtain ⟨a, b⟩ := le_mul_pow d j hd.1
  obtain ⟨a', b'⟩ := le_mul_pow n i hn.1
  have c := pow2_gt j
  have c' := pow2_gt i
  rw [← h2] at a b
  rw [← h1] at a' b'
  rcases h5 with rfl | h5
  · simp at *; omega
  · omega
theorem octB_end {n d num den k : Int} (h : OctB n d num den k) (hn : den ≤ num) : OctP n d num den k := by
  obtain ⟨⟨i, j, h1, h2, h3, h4, h5⟩, h6⟩ := h
  exact ⟨⟨i, j, h1, h2, h3, h4⟩, hn, h6⟩
theorem pow2_le {i j : Nat} (h : i ≤ j) : (2 : Int) ^ i ≤ 2 ^ j := by
  have : 2 ^ i ≤ 2 ^ j := Nat.pow_le_pow_right (by omega) h
  have a : ((2 ^ i : Nat) : Int) = 2 ^ i := by simp
  have b : ((2 ^ j : Nat) : Int) = 2 ^ j := by simp
  omega
theorem mulpow_lt {d : Int} {i j : Nat} (hd : 1 ≤ d) (h : i < j) : d * 2 ^ i * 2 ≤ d * 2 ^ j := by
  rw [← mul_pow_succ]
  exact Int.mul_le_mul_of_nonneg_left (pow2_le (by omega)) (by omega)
theorem oct_unique {n d a b k a' b' k' : Int} (hn : 1 ≤ n) (hd : 1 ≤ d) (h : OctP n d a b k) (h' : OctP n d a' b' k') : a = a' ∧ b = b' ∧ k = k' := by
  obtain ⟨⟨i, j, h1, h2, h3, h4⟩, h5, h6⟩ := h
  obtain ⟨⟨i', j', g1, g2, g3, g4⟩, g5, g6⟩ := h'
  have hij : i = i' ∧ j = j' := by
    obtain ⟨p1, p2⟩ := le_mul_pow n i hn
    obtain ⟨p3, p4⟩ := le_mul_pow d j hd
    obtain ⟨q1, q2⟩ := le_mul_pow n i' hn
    obtain ⟨q3, q4⟩ := le_mul_pow d j' hd
    rcases Nat.lt_trichotomy i i' with hi | hi | hi
    · have hj' : j' = 0 := by omega
      subst hj'
      have e1 := mulpow_lt hn hi
      simp at g2
      exfalso
      omega
    · subst hi
      rcases Nat.lt_trichotomy j j' with hj | hj | hj
      · have e1 := mulpow_lt hd hj
        exfalso; omega
      · exact ⟨rfl, hj⟩
      · have e1 := mulpow_lt hd hj
        exfalso; omega
    · have hj : j = 0 := by omega
      subst hj
      have e1 := mulpow_lt hn hi
      simp at h2
      exfalso
      omega
  obtain ⟨rfl, rfl⟩ := hij
  omega
theorem octB_ends {n d : Int} : ∀ (f : Nat) (num den k : Int), OctB n d num den k → 1 ≤ num → den - num < f → ∃ a b c, OctP n d a b c := by
  intro f
  induction f with
  | zero => intro num den k h h1 hf; exact ⟨_, _, _, octB_end h (by omega)⟩
  | succ f ih =>
    intro num den k h h1 hf
    by_cases hn : den ≤ num
    · exact ⟨_, _, _, octB_end h hn⟩
    · exact ih _ _ _ (octB_step h (by omega)) (by omega) (by omega)
theorem octA_ends {n d : Int} : ∀ (f : Nat) (den k : Int), OctA n d den k → 1 ≤ den → n - den < f → ∃ b c, OctA n d b c ∧ n < 2 * b := by
  intro f
  induction f with
  | zero => intro den k h h1 hf; exact ⟨_, _, h, by omega⟩
  | succ f ih =>
    intro den k h h1 hf
    by_cases hn : n < 2 * den
    · exact ⟨_, _, h, hn⟩
    · exact ih _ _ (octA_step h (by omega)) (by omega) (by omega)
theorem oct_exists {n d : Int} (hn : 1 ≤ n) (hd : 1 ≤ d) : ∃ a b c, OctP n d a b c := by
  obtain ⟨b, c, h, hb⟩ := octA_ends (n - d + 1).toNat d 0 (octA_start n d) hd (by omega)
  exact octB_ends (b - n + 1).toNat n b c (octB_start h hb) hn (by omega)
theorem octP_bd {n d a b c : Int} (h : OctP n d a b c) (hn : 1 ≤ n ∧ n ≤ 1000000) (hd : 1 ≤ d ∧ d ≤ 1000000) : (1 ≤ b ∧ b ≤ 1000000) ∧ (b ≤ a ∧ a < 2 * b) ∧ -2000000 ≤ c ∧ c ≤ 2000000 := by
  obtain ⟨⟨i, j, h1, h2, h3, h4⟩, h5, h6⟩ := h
  obtain ⟨p1, p2⟩ := le_mul_pow n i hn.1
  obtain ⟨p3, p4⟩ := le_mul_pow d j hd.1
  have c1 := pow2_gt i
  have c2 := pow2_gt j
  rw [← h1] at p1 p2
  rw [← h2] at p3 p4
  rcases h4 with rfl | rfl
  · simp at h1; omega
  · simp at h2; omega
open Classical in
noncomputable def octN (n d : Int) : Int × Int × Int := if h : ∃ t : Int × Int × Int, OctP n d t.1 t.2.1 t.2.2 then h.choose else (0, 0, 0)
theorem octN_spec {n d : Int} (hn : 1 ≤ n) (hd : 1 ≤ d) : OctP n d (octN n d).1 (octN n d).2.1 (octN n d).2.2 := by
  have h : ∃ t : Int × Int × Int, OctP n d t.1 t.2.1 t.2.2 := by
    obtain ⟨a, b, c, h⟩ := oct_exists hn hd
    exact ⟨(a, b, c), h⟩
  unfold octN
  rw [dif_pos h]
  exact h.choose_spec
theorem octN_eq {n d a b c : Int} (hn : 1 ≤ n) (hd : 1 ≤ d) (h : OctP n d a b c) : octN n d = (a, b, c) := by
  obtain ⟨h1, h2, h3⟩ := oct_unique hn hd (octN_spec hn hd) h
  rw [← h1, ← h2, ← h3]

def tabL : List Int := [0, 5327, 10496, 15514, 20391, 25134, 29751, 34248, 38631, 42906, 47078, 51152, 55132, 59022, 62827, 66551, 70196, 73765, 77263, 80691, 84053, 87350, 90587, 93763, 96883, 99947, 102958, 105917, 108827, 111688, 114504, 117274, 120000]
def tabZ (k : Nat) : Int := tabL.getD k 0
theorem tab_bd : ∀ i : Nat, i ≤ 31 → 0 ≤ tabZ i ∧ tabZ i < tabZ (i + 1) ∧ tabZ (i + 1) ≤ 120000 := by decide
/-- the cents of num over den in its octave, and of octaves -/
def centP (num den k : Int) : Int := 120000 * k + tabZ (32 * (num - den) / den).toNat + dv ((tabZ ((32 * (num - den) / den).toNat + 1) - tabZ (32 * (num - den) / den).toNat) * (32 * (num - den) - 32 * (num - den) / den * den)) den
noncomputable def centsZ (n d : Int) : Int := centP (octN n d).1 (octN n d).2.1 (octN n d).2.2
theorem part_index {num den : Int} (hd : 1 ≤ den) (h1 : den ≤ num) (h2 : num < 2 * den) : ∃ i : Nat, 32 * (num - den) / den = i ∧ i ≤ 31 ∧ 0 ≤ 32 * (num - den) - i * den ∧ 32 * (num - den) - i * den < den := by
  have e := Int.mul_ediv_add_emod (32 * (num - den)) den
  have m1 := Int.emod_nonneg (32 * (num - den)) (b := den) (by omega)
  have m2 := Int.emod_lt_of_pos (32 * (num - den)) (b := den) (by omega)
  have l0 : 0 ≤ 32 * (num - den) / den := Int.ediv_nonneg (by omega) (by omega)
  have l1 : 32 * (num - den) / den < 32 := Int.ediv_lt_of_lt_mul (by omega) (by omega)
  generalize 32 * (num - den) / den = q at *
  refine ⟨q.toNat, by omega, by omega, ?_, ?_⟩
  · rw [show ((q.toNat : Nat) : Int) = q by omega, Int.mul_comm q den]; omega
  · rw [show ((q.toNat : Nat) : Int) = q by omega, Int.mul_comm q den]; omega
end Go.Proofs.YtobhmoohalkijaaDoor
