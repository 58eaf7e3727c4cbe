/- Plain facts of tunings: the order of the tones, and how cents rise. -/
import Derived.Test.YtobhmoohalkijaaDoorTu8
import Derived.Test.YtobhmoohalkijaaDoorRatLaw2
namespace Go.Proofs.YtobhmoohalkijaaDoor
open Go.ChangeShapes Go.WideShapes Go.ChangeAt Go.RowKit
set_option linter.unusedVariables false
set_option linter.unusedSimpArgs false
set_option maxRecDepth 100000

theorem cmpE_lt {n d m e : Int} (h : (cmpE n d m e).1 = -1) : okR n d = true ∧ okR m e = true ∧ n * e < m * d := by
  unfold cmpE at h
  split at h
  · rename_i h0
    rw [Bool.and_eq_true] at h0
    unfold cmpR at h
    simp only at h
    split at h
    · rename_i h1; exact ⟨h0.1, h0.2, h1⟩
    · split at h <;> omega
  · simp at h
theorem cmpE_mk {n d m e : Int} (h1 : okR n d = true) (h2 : okR m e = true) (h : cmpR n d m e < 0) : (cmpE n d m e).1 = -1 := by
  unfold cmpE
  rw [if_pos (by rw [h1, h2]; rfl)]
  unfold cmpR at h ⊢
  simp only
  split at h
  · rename_i h3; rw [if_pos h3]
  · split at h <;> omega
theorem tun_step {s : List UInt8} {l : List (Int × Int)} (h : tunB s l = true) {i : Nat} (hi : i < 11) : (cmpE (pat l i).1 (pat l i).2 (pat l (i + 1)).1 (pat l (i + 1)).2).1 = -1 := by
  obtain ⟨_, _, hk, _⟩ := tun_yes h
  have h1 := okTi_yes (hk i (by omega))
  have h2 := okTi_yes (hk (i + 1) (by omega))
  exact cmpE_mk h1.1 h2.1 (by have := h2.2.2 (by omega); rwa [Nat.add_sub_cancel] at this)
theorem tun_last {s : List UInt8} {l : List (Int × Int)} (h : tunB s l = true) : (pat l 11).1 < 2 * (pat l 11).2 := by
  obtain ⟨_, _, hk, _⟩ := tun_yes h
  exact (okTi_yes (hk 11 (by omega))).2.1
theorem low_two {n d m e : Int} (hd : 1 ≤ d) (he : 1 ≤ e) (h : n * e < m * d) (hm : m < 2 * e) : n < 2 * d := by
  rcases Int.lt_or_le n (2 * d) with h1 | h1
  · exact h1
  · have a1 := Int.mul_le_mul_of_nonneg_right h1 (show 0 ≤ e by omega)
    have a2 := Int.mul_le_mul_of_nonneg_right (show m ≤ 2 * e by omega) (show 0 ≤ d by omega)
    rw [Int.mul_assoc] at a1 a2
    rw [Int.mul_comm e d] at a2
    omega
theorem tun_mk {s : List UInt8} {l : List (Int × Int)} (hn : nmB s = true) (hl : l.length = 12) (h0 : (pat l 0).1 = 1 ∧ (pat l 0).2 = 1) (hc : ∀ i, i < 11 → (cmpE (pat l i).1 (pat l i).2 (pat l (i + 1)).1 (pat l (i + 1)).2).1 = -1) (h11 : (pat l 11).1 < 2 * (pat l 11).2) : tunB s l = true := by
  have hk : ∀ j, j ≤ 11 → okR (pat l (11 - j)).1 (pat l (11 - j)).2 = true ∧ (pat l (11 - j)).1 < 2 * (pat l (11 - j)).2 := by
    intro j
    induction j with
    | zero => intro _; exact ⟨(cmpE_lt (hc 10 (by omega))).2.1, h11⟩
    | succ j ih =>
      intro hj
      obtain ⟨i1, i2⟩ := ih (by omega)
      obtain ⟨c1, c2, c3⟩ := cmpE_lt (hc (11 - (j + 1)) (by omega))
      rw [show 11 - (j + 1) + 1 = 11 - j by omega] at c2 c3
      have k1 := okR_yes c1
      have k2 := okR_yes c2
      exact ⟨c1, low_two k1.2.1.1 k2.2.1.1 c3 i2⟩
  rw [tun_end hn hl (fun i hi => ?_), h0.1, h0.2]
  · rfl
  · obtain ⟨i1, i2⟩ := hk (11 - i) (by omega)
    rw [show 11 - (11 - i) = i by omega] at i1 i2
    unfold okTi
    rw [i1, decide_eq_true i2]
    rcases Nat.eq_zero_or_pos i with h | h
    · simp [h]
    · obtain ⟨c1, c2, c3⟩ := cmpE_lt (hc (i - 1) (by omega))
      rw [show i - 1 + 1 = i by omega] at c2 c3
      have : cmpR (pat l (i - 1)).1 (pat l (i - 1)).2 (pat l i).1 (pat l i).2 < 0 := by unfold cmpR; rw [if_pos c3]; omega
      simp [this]
theorem tun_bad {s : List UInt8} {l : List (Int × Int)} {i : Nat} (hi : i < 11) (h : (cmpE (pat l i).1 (pat l i).2 (pat l (i + 1)).1 (pat l (i + 1)).2).1 ≠ -1) : tunB s l = false := by
  cases ht : tunB s l
  · rfl
  · exact absurd (tun_step ht hi) h
theorem tun_bad0 {s : List UInt8} {l : List (Int × Int)} (h : ¬((pat l 0).1 = 1 ∧ (pat l 0).2 = 1)) : tunB s l = false := by
  cases ht : tunB s l
  · rfl
  · have := (tun_yes ht).2.2.2
    exact absurd ⟨by rw [this], by rw [this]⟩ h
theorem tun_bad11 {s : List UInt8} {l : List (Int × Int)} (h : ¬(pat l 11).1 < 2 * (pat l 11).2) : tunB s l = false := by
  cases ht : tunB s l
  · rfl
  · exact absurd (tun_last ht) h
theorem cents_one : centsZ 1 1 = 0 := by
  have h : octN 1 1 = (1, 1, 0) := octN_eq (by omega) (by omega) ⟨⟨0, 0, by decide, by decide, by decide, .inl rfl⟩, by decide, by decide⟩
  unfold centsZ
  rw [h]
  decide +kernel
theorem cents_two : centsZ 2 1 = 120000 := by
  have h : octN 2 1 = (2, 2, 1) := octN_eq (by omega) (by omega) ⟨⟨0, 1, by decide, by decide, by decide, .inl rfl⟩, by decide, by decide⟩
  unfold centsZ
  rw [h]
  decide +kernel
theorem tun_ge {s : List UInt8} {l : List (Int × Int)} (ht : tunB s l = true) : ∀ i, i < 12 → (pat l i).2 ≤ (pat l i).1 := by
  intro i
  induction i with
  | zero =>
    intro _
    have := (tun_yes ht).2.2.2
    rw [this]; decide
  | succ i ih =>
    intro hi
    have h1 := ih (by omega)
    obtain ⟨c1, c2, c3⟩ := cmpE_lt (tun_step ht (i := i) (by omega))
    have k1 := okR_yes c1
    have k2 := okR_yes c2
    rcases Int.lt_or_le (pat l (i + 1)).1 (pat l (i + 1)).2 with h | h
    · have a1 := Int.mul_le_mul_of_nonneg_right h1 (show 0 ≤ (pat l (i + 1)).2 by omega)
      have a2 := Int.mul_le_mul_of_nonneg_right (Int.le_of_lt h) (show 0 ≤ (pat l i).2 by omega)
      rw [Int.mul_comm (pat l i).2] at a1
      omega
    · exact h
theorem centsT_up (l : List (Int × Int)) (p : Int) : centsT l (p + 12) = centsT l p + 120000 := by
  unfold centsT
  rw [show (p + 12) % 12 = p % 12 by omega, show (p + 12) / 12 = p / 12 + 1 by omega]
  omega
end Go.Proofs.YtobhmoohalkijaaDoor
