/- Scales as masks: a set of tones is a number below 4096; the masks of a size in descending order are the scales in lexicographic order. -/
import Derived.Test.YtobhmoohalkijaaSc11
namespace Go.Proofs.Ytobhmoohalkijaa
open Go.ChangeShapes Go.WideShapes Go.ChangeAt Go.RowKit
set_option linter.unusedVariables false
set_option linter.unusedSimpArgs false
set_option maxRecDepth 100000

def bitN (t : Nat) : Nat := 2048 / 2 ^ t
theorem bit_eq : ∀ t, t < 12 → bitN t = 2 ^ (11 - t) := by decide +kernel
/-- the mask of the first tones of a list -/
def maskN (zs : List Int) : Nat → Nat
  | 0 => 0
  | k + 1 => maskN zs k ||| bitN (zs.getD k 0).toNat
/-- is a tone in a mask? -/
def onB (m t : Nat) : Bool := m &&& bitN t != 0
theorem on_test (m t : Nat) (h : t < 12) : onB m t = m.testBit (11 - t) := by
  unfold onB
  rw [bit_eq t h]
  generalize 11 - t = j
  cases hb : m.testBit j
  · have : m &&& 2 ^ j = 0 := by
      apply Nat.eq_of_testBit_eq
      intro i
      rw [Nat.testBit_and, Nat.testBit_two_pow, Nat.zero_testBit]
      by_cases hi : j = i
      · subst hi; rw [hb]; rfl
      · simp [hi]
    rw [this]; rfl
  · have : m &&& 2 ^ j ≠ 0 := by
      intro e
      have e2 : (m &&& 2 ^ j).testBit j = false := by rw [e]; simp
      rw [Nat.testBit_and, hb, Nat.testBit_two_pow] at e2
      simp at e2
    simpa using this
theorem mask_lt (zs : List Int) (k : Nat) (h : ∀ i, i < k → 0 ≤ zs.getD i 0 ∧ zs.getD i 0 ≤ 11) : maskN zs k < 4096 := by
  induction k with
  | zero => show (0 : Nat) < 4096; decide
  | succ k ih =>
    have h1 := ih (fun i hi => h i (by omega))
    have h2 := h k (by omega)
    unfold maskN
    have h3 : bitN (zs.getD k 0).toNat < 2 ^ 12 := by
      rw [bit_eq _ (by omega)]
      exact Nat.pow_lt_pow_right (by decide) (by omega)
    exact Nat.or_lt_two_pow (n := 12) h1 h3
theorem mask_on (zs : List Int) (k : Nat) (h : ∀ i, i < k → 0 ≤ zs.getD i 0 ∧ zs.getD i 0 ≤ 11) (t : Nat) (ht : t < 12) : onB (maskN zs k) t = true ↔ ∃ i, i < k ∧ zs.getD i 0 = t := by
  rw [on_test _ _ ht]
  induction k with
  | zero => simp [maskN]
  | succ k ih =>
    have h1 := ih (fun i hi => h i (by omega))
    have h2 := h k (by omega)
    unfold maskN
    rw [Nat.testBit_or, bit_eq _ (by omega), Nat.testBit_two_pow, Bool.or_eq_true, h1, decide_eq_true_eq]
    constructor
    · rintro (⟨i, hi, he⟩ | he)
      · exact ⟨i, by omega, he⟩
      · exact ⟨k, by omega, by omega⟩
    · rintro ⟨i, hi, he⟩
      by_cases hik : i = k
      · subst hik; right; omega
      · exact .inl ⟨i, by omega, he⟩
/-- the tones of a mask, the first ones -/
def tonesN (m : Nat) : Nat → List Int
  | 0 => []
  | k + 1 => if onB m k = true then tonesN m k ++ [(k : Int)] else tonesN m k
theorem tones_succ (m k : Nat) : tonesN m (k + 1) = if onB m k = true then tonesN m k ++ [(k : Int)] else tonesN m k := rfl
theorem com_succ (xs zs : List Int) (j : Nat) : comL xs zs (j + 1) = if hasB zs (xs.getD j 0) = true then comL xs zs j ++ [xs.getD j 0] else comL xs zs j := rfl
theorem tones_len (m k : Nat) : (tonesN m k).length ≤ k := by
  induction k with
  | zero => exact Nat.le_refl _
  | succ k ih =>
    rw [tones_succ]; split
    · simp; omega
    · omega
theorem take_snoc (zs : List Int) (j : Nat) (h : j < zs.length) : zs.take (j + 1) = zs.take j ++ [zs.getD j 0] := by
  rw [List.take_succ_eq_append_getElem h]; simp [List.getD, h]
/-- a mask that has the tones of a rising list that fulfil a test -/
theorem tones_of {zs : List Int} (hr : riseB 0 11 zs = true) (m : Nat) (p : Int → Bool) (hm : ∀ t : Nat, t < 12 → (onB m t = true ↔ (∃ i, i < zs.length ∧ zs.getD i 0 = t) ∧ p t = true)) : tonesN m 12 = zs.filter p := by
  have H := rise_all hr
  have hmono : ∀ d i, i + d + 1 < zs.length → zs.getD i 0 < zs.getD (i + d + 1) 0 := by
    intro d
    induction d with
    | zero => intro i hi; have := (H (i + 1) (by omega)).2 (by omega); simpa using this
    | succ d ih => intro i hi; have h1 := ih i (by omega); have := (H (i + (d + 1) + 1) hi).2 (by omega); simp only [Nat.add_sub_cancel] at this; have e : i + (d + 1) = i + d + 1 := by omega
                   rw [e] at this ⊢; omega
  have hlt : ∀ i j, i < j → j < zs.length → zs.getD i 0 < zs.getD j 0 := by
    intro i j hij hj
    have := hmono (j - i - 1) i (by omega)
    rwa [show i + (j - i - 1) + 1 = j by omega] at this
  have key : ∀ t, t ≤ 12 → ∃ j, j ≤ zs.length ∧ tonesN m t = (zs.take j).filter p ∧ (∀ i, i < j → zs.getD i 0 < t) ∧ (∀ i, j ≤ i → i < zs.length → (t : Int) ≤ zs.getD i 0) := by
    intro t
    induction t with
    | zero => intro _; exact ⟨0, Nat.zero_le _, rfl, fun i hi => by omega, fun i _ hi => (H i hi).1.1⟩
    | succ t ih =>
      intro ht
      obtain ⟨j, hj, e, h1, h2⟩ := ih (by omega)
      by_cases hc : j < zs.length ∧ zs.getD j 0 = t
      · obtain ⟨hj2, hz⟩ := hc
        refine ⟨j + 1, by omega, ?_, ?_, ?_⟩
        · rw [take_snoc zs j hj2, List.filter_append, ← e, hz, tones_succ]
          by_cases hp : p t = true
          · rw [if_pos ((hm t (by omega)).2 ⟨⟨j, hj2, hz⟩, hp⟩)]; simp [hp]
          · rw [if_neg (fun h => hp ((hm t (by omega)).1 h).2)]; simp [hp]
        · intro i hi
          by_cases hij : i = j
          · subst hij; rw [hz]; omega
          · have := h1 i (by omega); omega
        · intro i hi hi2
          have := hlt j i (by omega) hi2
          omega
      · refine ⟨j, hj, ?_, fun i hi => by have := h1 i hi; omega, ?_⟩
        · rw [tones_succ, if_neg, e]
          intro h
          obtain ⟨⟨i, hi, he⟩, _⟩ := (hm t (by omega)).1 h
          by_cases hij : i < j
          · have := h1 i hij; omega
          · by_cases hij2 : i = j
            · subst hij2; exact hc ⟨hi, he⟩
            · have h3 := hlt j i (by omega) hi
              have h4 := h2 j (Nat.le_refl _) (by omega)
              omega
        · intro i hi hi2
          have h4 := h2 i hi hi2
          by_cases hij : i = j
          · subst hij
            have : zs.getD i 0 ≠ t := fun he => hc ⟨hi2, he⟩
            omega
          · have h5 := hlt j i (by omega) hi2
            have h6 := h2 j (Nat.le_refl _) (by omega)
            omega
  obtain ⟨j, hj, e, _, h2⟩ := key 12 (Nat.le_refl _)
  have hjl : j = zs.length := by
    apply Classical.byContradiction
    intro hne
    have h3 := h2 j (Nat.le_refl _) (by omega)
    have h4 := (H j (by omega)).1.2
    omega
  rw [e, hjl, List.take_length]
theorem tones_mask {zs : List Int} (hr : riseB 0 11 zs = true) : tonesN (maskN zs zs.length) 12 = zs := by
  rw [tones_of hr (maskN zs zs.length) (fun _ => true) (fun t ht => by rw [mask_on zs zs.length (fun i hi => (rise_all hr i hi).1) t ht]; simp)]
  simp
theorem com_filter (xs zs : List Int) (j : Nat) (hj : j ≤ xs.length) : comL xs zs j = (xs.take j).filter (hasB zs) := by
  induction j with
  | zero => rfl
  | succ j ih =>
    rw [take_snoc xs j (by omega), List.filter_append, ← ih (by omega), com_succ]
    generalize xs.getD j 0 = y
    by_cases h : hasB zs y = true
    · rw [if_pos h]; simp [h]
    · rw [if_neg h]; simp [h]
theorem has_iff (zs : List Int) (t : Int) : hasB zs t = true ↔ ∃ i, i < zs.length ∧ zs.getD i 0 = t := by
  rcases idx_cases zs t with ⟨h, hn⟩ | ⟨k, h, hk, he, _⟩
  · constructor
    · intro hh; unfold hasB at hh; rw [h] at hh; exact absurd (of_decide_eq_true hh) (by omega)
    · rintro ⟨i, hi, he⟩; exact absurd he (hn i hi)
  · exact ⟨fun _ => ⟨k, hk, he⟩, fun _ => by unfold hasB; rw [h]; exact decide_eq_true (by omega)⟩
theorem tones_both {xs zs : List Int} (hx : riseB 0 11 xs = true) (hz : riseB 0 11 zs = true) : tonesN (maskN xs xs.length &&& maskN zs zs.length) 12 = comL xs zs xs.length := by
  rw [com_filter xs zs xs.length (Nat.le_refl _), List.take_length]
  refine tones_of hx _ (hasB zs) (fun t ht => ?_)
  rw [has_iff, ← mask_on xs xs.length (fun i hi => (rise_all hx i hi).1) t ht, ← mask_on zs zs.length (fun i hi => (rise_all hz i hi).1) t ht, on_test _ _ ht, on_test _ _ ht, on_test _ _ ht, Nat.testBit_and, Bool.and_eq_true]
/-- how many bits a byte, a mask has -/
def popB (b : Nat) : Nat := b % 2 + b / 2 % 2 + b / 4 % 2 + b / 8 % 2 + b / 16 % 2 + b / 32 % 2 + b / 64 % 2 + b / 128 % 2
def popN (m : Nat) : Nat := popB (m / 256) + popB (m % 256)
theorem pop_tones0 : ∀ m ∈ List.range 4096, (tonesN m 12).length = popN m := by decide +kernel
theorem pop_tones (m : Nat) (h : m < 4096) : (tonesN m 12).length = popN m := pop_tones0 m (by simpa using h)
theorem pop_mask {zs : List Int} (hr : riseB 0 11 zs = true) : popN (maskN zs zs.length) = zs.length := by
  rw [← pop_tones _ (mask_lt zs _ (fun i hi => (rise_all hr i hi).1)), tones_mask hr]
theorem mask_top {zs : List Int} (hs : scaleB zs = true) : 2048 ≤ maskN zs zs.length ∧ maskN zs zs.length < 4096 := by
  obtain ⟨⟨l1, l2⟩, hr, h0⟩ := scale_yes hs
  refine ⟨?_, mask_lt zs _ (fun i hi => (rise_all hr i hi).1)⟩
  have := (mask_on zs zs.length (fun i hi => (rise_all hr i hi).1) 0 (by decide)).2 ⟨0, by omega, by rw [h0]; rfl⟩
  rw [on_test _ _ (by decide)] at this
  have := Nat.ge_two_pow_of_testBit this
  simpa using this
/-- the masks with n tones, after some rounds -/
def masksN (n : Int) : Nat → List Nat
  | 0 => []
  | k + 1 => if (popN (4095 - k) : Int) = n then masksN n k ++ [4095 - k] else masksN n k
theorem masks_succ (n : Int) (k : Nat) : masksN n (k + 1) = if (popN (4095 - k) : Int) = n then masksN n k ++ [4095 - k] else masksN n k := rfl
theorem masks_len (n : Int) (k : Nat) : (masksN n k).length ≤ k := by
  induction k with
  | zero => exact Nat.le_refl _
  | succ k ih =>
    rw [masks_succ]; split
    · simp; omega
    · omega
theorem masks_get (n : Int) (k : Nat) : ∀ i, i < (masksN n k).length → ∃ j, j < k ∧ (popN (4095 - j) : Int) = n ∧ (masksN n k).getD i 0 = 4095 - j ∧ (masksN n j).length = i := by
  induction k with
  | zero => intro i hi; simp [masksN] at hi
  | succ k ih =>
    intro i hi
    rw [masks_succ] at hi ⊢
    by_cases h : (popN (4095 - k) : Int) = n
    · rw [if_pos h] at hi ⊢
      rw [List.length_append, List.length_singleton] at hi
      by_cases hik : i < (masksN n k).length
      · obtain ⟨j, hj, h1, h2, h3⟩ := ih i hik
        exact ⟨j, by omega, h1, by rw [← h2]; simp [List.getD, List.getElem?_append_left hik], h3⟩
      · have : i = (masksN n k).length := by omega
        subst this
        exact ⟨k, by omega, h, by simp [List.getD], rfl⟩
    · rw [if_neg h] at hi ⊢
      obtain ⟨j, hj, h1, h2, h3⟩ := ih i hi
      exact ⟨j, by omega, h1, h2, h3⟩
theorem masks_at (n : Int) (k j : Nat) (hj : j < k) (hp : (popN (4095 - j) : Int) = n) : (masksN n j).length < (masksN n k).length ∧ (masksN n k).getD (masksN n j).length 0 = 4095 - j := by
  induction k with
  | zero => omega
  | succ k ih =>
    rw [masks_succ]
    by_cases hjk : j = k
    · subst hjk
      rw [if_pos hp]
      exact ⟨by simp, by simp [List.getD]⟩
    · obtain ⟨h1, h2⟩ := ih (by omega)
      split
      · exact ⟨by simp; omega, by rw [← h2]; simp [List.getD, List.getElem?_append_left h1]⟩
      · exact ⟨h1, h2⟩
/-- one pass over the masks of a size: numbers and scales lead to each other -/
def scanB (n : Int) : Nat → Nat → Bool
  | 0, c => decide (chooseZ 11 (n - 1) = c)
  | f + 1, c => if (popN (2048 + f) : Int) = n then (decide (numO (tonesN (2048 + f) 12) (n.toNat - 1) = c) && decide (numG n 12 [0] c 1 = tonesN (2048 + f) 12)) && scanB n f (c + 1) else scanB n f c
theorem scan_all : ∀ n ∈ [5, 6, 7, 8, 9, 10, 11, 12], scanB n 2048 0 = true := by decide +kernel
theorem scan_use (n : Int) (f : Nat) : ∀ k, k + f = 2048 → scanB n f (masksN n k).length = true →
    (chooseZ 11 (n - 1) = ((masksN n 2048).length : Nat)) ∧ ∀ j, k ≤ j → j < 2048 → (popN (4095 - j) : Int) = n → numO (tonesN (4095 - j) 12) (n.toNat - 1) = ((masksN n j).length : Nat) ∧ numG n 12 [0] ((masksN n j).length : Nat) 1 = tonesN (4095 - j) 12 := by
  induction f with
  | zero =>
    intro k hk h
    obtain rfl : k = 2048 := by omega
    exact ⟨of_decide_eq_true h, fun j h1 h2 => by omega⟩
  | succ f ih =>
    intro k hk h
    unfold scanB at h
    have e : 2048 + f = 4095 - k := by omega
    rw [e] at h
    by_cases hp : (popN (4095 - k) : Int) = n
    · rw [if_pos hp, Bool.and_eq_true, Bool.and_eq_true, decide_eq_true_eq, decide_eq_true_eq] at h
      obtain ⟨⟨h1, h2⟩, h3⟩ := h
      have hl : (masksN n (k + 1)).length = (masksN n k).length + 1 := by
        rw [masks_succ, if_pos hp]; simp
      rw [← hl] at h3
      obtain ⟨g1, g2⟩ := ih (k + 1) (by omega) h3
      refine ⟨g1, fun j hj1 hj2 hq => ?_⟩
      by_cases hjk : j = k
      · subst hjk; exact ⟨h1, h2⟩
      · exact g2 j (by omega) hj2 hq
    · rw [if_neg hp] at h
      have hl : (masksN n (k + 1)).length = (masksN n k).length := by
        rw [masks_succ, if_neg hp]
      rw [← hl] at h
      obtain ⟨g1, g2⟩ := ih (k + 1) (by omega) h
      refine ⟨g1, fun j hj1 hj2 hq => ?_⟩
      by_cases hjk : j = k
      · subst hjk; exact absurd hq hp
      · exact g2 j (by omega) hj2 hq
theorem scan_n (n : Int) (h : 5 ≤ n ∧ n ≤ 12) : (chooseZ 11 (n - 1) = ((masksN n 2048).length : Nat)) ∧ ∀ j, j < 2048 → (popN (4095 - j) : Int) = n → numO (tonesN (4095 - j) 12) (n.toNat - 1) = ((masksN n j).length : Nat) ∧ numG n 12 [0] ((masksN n j).length : Nat) 1 = tonesN (4095 - j) 12 := by
  have hm : n ∈ [(5 : Int), 6, 7, 8, 9, 10, 11, 12] := by
    obtain rfl | rfl | rfl | rfl | rfl | rfl | rfl | rfl : n = 5 ∨ n = 6 ∨ n = 7 ∨ n = 8 ∨ n = 9 ∨ n = 10 ∨ n = 11 ∨ n = 12 := by omega
    all_goals simp
  obtain ⟨g1, g2⟩ := scan_use n 2048 0 rfl (scan_all n hm)
  exact ⟨g1, fun j hj => g2 j (Nat.zero_le _) hj⟩
/-- all masks of a size -/
def masksA (n : Int) : List Nat := masksN n 2048
theorem masks_count (n : Int) (h : 5 ≤ n ∧ n ≤ 12) : ((masksA n).length : Int) = chooseZ 11 (n - 1) := (scan_n n h).1.symm
/-- the mask of a scale stands at its number -/
theorem masks_scale {zs : List Int} (hs : scaleB zs = true) : ∃ k : Nat, numO zs (zs.length - 1) = k ∧ k < (masksA zs.length).length ∧ (masksA zs.length).getD k 0 = maskN zs zs.length ∧ ∀ i, i < k → (masksA zs.length).getD i 0 ≠ maskN zs zs.length := by
  obtain ⟨⟨l1, l2⟩, hr, h0⟩ := scale_yes hs
  obtain ⟨m1, m2⟩ := mask_top hs
  have hp := pop_mask hr
  have ht := tones_mask hr
  generalize maskN zs zs.length = m at *
  have e : 4095 - (4095 - m) = m := by omega
  have hp2 : (popN (4095 - (4095 - m)) : Int) = (zs.length : Int) := by rw [e, hp]
  obtain ⟨_, g⟩ := scan_n (zs.length : Int) (by omega)
  obtain ⟨g1, g2⟩ := g (4095 - m) (by omega) hp2
  obtain ⟨a1, a2⟩ := masks_at (zs.length : Int) 2048 (4095 - m) (by omega) hp2
  rw [e, ht] at g1
  rw [e] at a2
  refine ⟨_, by rw [← g1]; rfl, a1, a2, fun i hi he => ?_⟩
  obtain ⟨j, hj, h1, h2, h3⟩ := masks_get (zs.length : Int) 2048 i (by unfold masksA at *; omega)
  unfold masksA at he
  rw [h2] at he
  have : j = 4095 - m := by omega
  subst this
  omega
/-- the scale of a number has the mask that stands there -/
theorem masks_number {n : Int} (h : 5 ≤ n ∧ n ≤ 12) (k : Nat) (hk : k < (masksA n).length) : tonesN ((masksA n).getD k 0) 12 = numG n 12 [0] k 1 ∧ (masksA n).getD k 0 < 4096 := by
  obtain ⟨j, hj, h1, h2, h3⟩ := masks_get n 2048 k hk
  obtain ⟨_, g⟩ := scan_n n h
  obtain ⟨_, g2⟩ := g j hj h1
  unfold masksA
  rw [h2, ← g2, h3]
  exact ⟨rfl, by omega⟩
end Go.Proofs.Ytobhmoohalkijaa
