/- Plain facts for the laws of chapter 2: octaves have whole cents, no ratio is nearer than the best one, powers are products. -/
import Derived.Test.YtdhgbincebcobaaDoorRatLaw2
namespace Go.Proofs.YtdhgbincebcobaaDoor
set_option linter.unusedVariables false
set_option linter.unusedSimpArgs false
set_option maxRecDepth 100000

theorem octE_is {n d x y k : Int} (hn : okR n d = true) (h : octE n d = ((x, y), k, 0)) : okR x y = true ∧ y ≤ x ∧ x < 2 * y ∧ centsZ n d = centsZ x y + 120000 * k := by
  obtain ⟨n1, d1, _⟩ := okR_yes hn
  have HP := octN_spec n1.1 d1.1
  obtain ⟨⟨p1, p2⟩, ⟨p3, p4⟩, p5, p6⟩ := octP_bd HP n1 d1
  have hz := centsZ_part n d
  unfold octE at h
  rw [if_pos hn] at h
  generalize octN n d = t at *
  obtain ⟨a, b, kk⟩ := t
  simp only at h p1 p2 p3 p4 p5 p6 hz
  split at h
  · rename_i hc
    injection h with e1 e2
    injection e1 with e3 e4
    injection e2 with e5 _
    have hdn : doneR a b = (x, y, 0) := by rw [← e3, ← e4, ← hc]
    obtain ⟨ok, hxy, x1, y1, _⟩ := done_is (by omega) (by omega) hdn
    have l1 : y ≤ x := by
      have : y * b ≤ x * b := by
        have := Int.mul_le_mul_of_nonneg_right p3 (show 0 ≤ y by omega)
        rw [hxy, Int.mul_comm y b]; omega
      exact Int.le_of_mul_le_mul_right this (by omega)
    have l2 : x < 2 * y := by
      have : x * b < 2 * y * b := by
        have := Int.mul_lt_mul_of_pos_right p4 (show 0 < y by omega)
        rw [hxy, Int.mul_assoc, Int.mul_comm y b, ← Int.mul_assoc]; exact this
      exact Int.lt_of_mul_lt_mul_right this (by omega)
    refine ⟨ok, l1, l2, ?_⟩
    have ho := octN_eq x1 y1 (show OctP x y x y 0 from ⟨⟨0, 0, by simp, by simp, by simp, .inl rfl⟩, l1, l2⟩)
    rw [centsZ_part x y, ho, hz]
    have := part_same p1 p3 p4 y1 l1 l2 hxy.symm
    simp only
    omega
  · injection h with e1 e2
    injection e2 with e2 e3
    cases e3

noncomputable def dist (c : Int) (num den : Int) : Int := max (centsZ num den - c) (c - centsZ num den)
theorem dist_0 (c num den : Int) : 0 ≤ dist c num den := by unfold dist; omega
/-- the best one so far is at least as near as this one -/
def Near (c : Int) (s : Int × Int × Int) (num den : Int) : Prop := 0 ≤ s.2.2 ∧ s.2.2 ≤ dist c num den
/-- the best one so far is one, if there is any -/
def Some1 (c m : Int) (s : Int × Int × Int) : Prop := 0 ≤ s.2.2 → okR s.1 s.2.1 = true ∧ s.2.1 ≤ m ∧ dist c s.1 s.2.1 = s.2.2
theorem bestStep_eq (c : Int) (s : Int × Int × Int) (num den : Int) : bestStep c s num den = if gz num den = 1 then (if s.2.2 < 0 ∨ dist c num den < s.2.2 then (num, den, dist c num den) else s) else s := rfl
theorem step_keep {c : Int} {s : Int × Int × Int} {a b num den : Int} (h : Near c s a b) : Near c (bestStep c s num den) a b := by
  rw [bestStep_eq]
  have := dist_0 c num den
  unfold Near at *
  split
  · split
    · simp only; omega
    · exact h
  · exact h
theorem step_new {c : Int} {s : Int × Int × Int} {num den : Int} (h : gz num den = 1) : Near c (bestStep c s num den) num den := by
  rw [bestStep_eq, if_pos h]
  have := dist_0 c num den
  unfold Near
  split
  · simp only; omega
  · omega
theorem step_some {c m : Int} {s : Int × Int × Int} {num den : Int} (h : Some1 c m s) (hn : 1 ≤ num ∧ num ≤ 1000000) (hd : 1 ≤ den ∧ den ≤ 1000000) (hm : den ≤ m) : Some1 c m (bestStep c s num den) := by
  rw [bestStep_eq]
  unfold Some1 at *
  split
  · rename_i hg
    split
    · intro _
      refine ⟨?_, hm, rfl⟩
      unfold okR inB
      simp [hg]
      omega
    · exact h
  · exact h
theorem row_keep {c den : Int} {s : Int × Int × Int} {a b : Int} (h : Near c s a b) (j : Nat) : Near c (bestRow c den s j) a b := by
  induction j with
  | zero => exact h
  | succ j ih => exact step_keep ih
theorem row_new {c den : Int} {s : Int × Int × Int} (i : Nat) (hg : gz (den + i) den = 1) : ∀ j : Nat, i < j → Near c (bestRow c den s j) (den + i) den := by
  intro j
  induction j with
  | zero => intro h; omega
  | succ j ih =>
    intro h
    rcases Nat.lt_or_ge i j with h1 | h1
    · exact step_keep (ih h1)
    · obtain rfl : i = j := by omega
      exact step_new hg
theorem row_some {c m den : Int} {s : Int × Int × Int} (h : Some1 c m s) (hd : 1 ≤ den ∧ den ≤ 1000) (hm : den ≤ m) : ∀ j : Nat, j ≤ 1000 → Some1 c m (bestRow c den s j) := by
  intro j
  induction j with
  | zero => intro _; exact h
  | succ j ih => intro hj; exact step_some (ih (by omega)) (by omega) (by omega) hm
theorem all_near {c : Int} (i k0 : Nat) (hg : gz ((k0 : Int) + 1 + i) (k0 + 1) = 1) (hi : i < k0 + 2) : ∀ k : Nat, k0 < k → Near c (bestAll c k) (k0 + 1 + i) (k0 + 1) := by
  intro k
  induction k with
  | zero => intro h; omega
  | succ k ih =>
    intro h
    rcases Nat.lt_or_ge k0 k with h1 | h1
    · exact row_keep (ih h1) _
    · obtain rfl : k0 = k := by omega
      exact row_new (den := k0 + 1) i hg _ hi
theorem all_some {c m : Int} : ∀ k : Nat, (k : Int) ≤ m → k ≤ 900 → Some1 c m (bestAll c k) := by
  intro k
  induction k with
  | zero => intro _ _ h; simp [bestAll] at h
  | succ k ih => intro h h2; exact row_some (ih (by omega) (by omega)) (by omega) (by omega) _ (by omega)
/-- no ratio with as small a number is nearer than the best one -/
theorem best_is {c m p q off : Int} (h : bestE c m = ((p, q), off, 0)) : okR p q = true ∧ q ≤ m ∧ dist c p q = off ∧ (1 ≤ m ∧ m ≤ 64) ∧ ∀ num den : Int, 1 ≤ den → den ≤ m → den ≤ num → num ≤ 2 * den → ∃ x y, doneR num den = (x, y, 0) ∧ okR x y = true ∧ off ≤ dist c x y := by
  unfold bestE at h
  split at h
  · rename_i hc
    simp only [Bool.and_eq_true] at hc
    obtain ⟨c1, c2⟩ := inB_yes hc.1
    obtain ⟨m1, m2⟩ := inB_yes hc.2
    injection h with e1 e2
    injection e1 with e3 e4
    injection e2 with e5 _
    have hs := all_some (c := c) (m := m) m.toNat (by omega) (by omega)
    have h1 := all_near (c := c) 0 0 (by decide) (by omega) m.toNat (by omega)
    obtain ⟨ok, hq, hd⟩ := hs h1.1
    rw [e3, e4] at ok hd
    rw [e4] at hq
    rw [e5] at hd
    refine ⟨ok, hq, hd, ⟨m1, m2⟩, fun num den d1 d2 n1 n2 => ?_⟩
    obtain ⟨x1, x2, x3⟩ := red_num num den (by omega)
    obtain ⟨y1, y2, y3⟩ := red_num den num d1
    rw [gz_comm den num] at y1 y2 y3
    have hdn : doneR num den = (num / gz num den, den / gz num den, 0) := by unfold doneR; rw [if_pos (by omega)]
    have hg := red_gcd num den (by omega)
    have gp := gz_pos num den (by omega)
    obtain ⟨okx, _⟩ := done_is (by omega) d1 hdn
    refine ⟨_, _, hdn, okx, ?_⟩
    have l1 : den / gz num den ≤ num / gz num den := Int.ediv_le_ediv (by omega) n1
    have l2 : num / gz num den ≤ 2 * (den / gz num den) := by
      generalize gz num den = g at *
      generalize num / g = X at *
      generalize den / g = Y at *
      have : X * g ≤ 2 * Y * g := by rw [Int.mul_assoc]; omega
      exact Int.le_of_mul_le_mul_right this (by omega)
    generalize num / gz num den = X at *
    generalize den / gz num den = Y at *
    have hn := all_near (c := c) (X - Y).toNat (Y - 1).toNat (by rw [show (((Y - 1).toNat : Nat) : Int) + 1 + ((X - Y).toNat : Nat) = X by omega, show (((Y - 1).toNat : Nat) : Int) + 1 = Y by omega]; exact hg) (by omega) m.toNat (by omega)
    rw [show (((Y - 1).toNat : Nat) : Int) + 1 + ((X - Y).toNat : Nat) = X by omega, show (((Y - 1).toNat : Nat) : Int) + 1 = Y by omega] at hn
    have := hn.2
    omega
  · injection h with e1 e2
    injection e2 with e2 e3
    cases e3
theorem okR_one : okR 1 1 = true := by decide
theorem pow_ok (n d : Int) (hn : okR n d = true) : ∀ k : Nat, powS n d k = (0, 0, 5) ∨ ∃ p q, powS n d k = (p, q, 0) ∧ okR p q = true := by
  obtain ⟨⟨a1, a2⟩, ⟨b1, b2⟩, _⟩ := okR_yes hn
  intro k
  induction k with
  | zero => exact .inr ⟨1, 1, rfl, okR_one⟩
  | succ k ih =>
    rcases ih with ih | ⟨p, q, ih, hp⟩
    · left; rw [powS, ih]; rfl
    · obtain ⟨⟨p1, p2⟩, ⟨q1, q2⟩, _⟩ := okR_yes hp
      have hx : 0 < p * n := Int.mul_pos (by omega) (by omega)
      have hy : 0 < q * d := Int.mul_pos (by omega) (by omega)
      rw [powS, ih]
      simp only [if_true]
      rcases done_code (p * n) (q * d) with h | h
      · right
        obtain ⟨ok, _⟩ := done_is (by omega) (by omega) h
        exact ⟨_, _, h, ok⟩
      · left; exact h
/-- a power is the power of one less, times the ratio -/
theorem pow_step {n d m p q : Int} (h : powE n d m = (p, q, 0)) (hm : m ≠ 0) : ∃ x y, powE n d (m - 1) = (x, y, 0) ∧ mulR x y n d = (p, q, 0) ∧ okR p q = true := by
  unfold powE at h
  split at h
  · rename_i hn
    split at h
    · rename_i hb
      obtain ⟨m1, m2⟩ := inB_yes hb
      have e : m.toNat = (m - 1).toNat + 1 := by omega
      rw [e, powS] at h
      split at h
      · rename_i hc
        have hok := pow_ok n d hn (m - 1).toNat
        rcases hok with hk | ⟨x, y, hk, okx⟩
        · rw [hk] at hc; cases hc
        · rw [hk] at h
          have hE : powE n d (m - 1) = (x, y, 0) := by
            unfold powE
            rw [if_pos hn, if_pos (inB_mk (by omega)), hk]
          refine ⟨x, y, hE, ?_, ?_⟩
          · unfold mulR
            rw [okx, hn]
            exact h
          · obtain ⟨⟨p1, p2⟩, ⟨q1, q2⟩, _⟩ := okR_yes okx
            obtain ⟨⟨a1, a2⟩, ⟨b1, b2⟩, _⟩ := okR_yes hn
            have hx : 0 < x * n := Int.mul_pos (by omega) (by omega)
            have hy : 0 < y * d := Int.mul_pos (by omega) (by omega)
            exact (done_is (x := x * n) (y := y * d) (by omega) (by omega) h).1
      · injection h with e1 e2
        injection e2 with e2 e3
        cases e3
    · injection h with e1 e2
      injection e2 with e2 e3
      cases e3
  · injection h with e1 e2
    injection e2 with e2 e3
    cases e3
theorem pow_zero {n d p q : Int} (h : powE n d 0 = (p, q, 0)) : p = 1 ∧ q = 1 := by
  unfold powE at h
  split at h
  · rw [if_pos (by decide)] at h
    injection h with e1 e2
    injection e2 with e2 e3
    exact ⟨e1.symm, e2.symm⟩
  · injection h with e1 e2
    injection e2 with e2 e3
    cases e3
theorem pow_bad {n d m p q c : Int} (h : powE n d m = (p, q, c)) (hc : c ≠ 0) : p = 0 := by
  unfold powE at h
  split at h
  · rename_i hn
    split at h
    · rcases pow_ok n d hn m.toNat with hk | ⟨x, y, hk, _⟩
      · rw [hk] at h; injection h with e1 _; exact e1.symm
      · rw [hk] at h; injection h with e1 e2; injection e2 with _ e3; exact absurd e3.symm hc
    · injection h with e1 _; exact e1.symm
  · injection h with e1 _; exact e1.symm
end Go.Proofs.YtdhgbincebcobaaDoor
