/- Scales: a scale goes on in all octaves; rotations, steps, degrees and numbers lead to each other. -/
import Derived.Test.YtljegggpgafkiaaSc14
import Derived.Test.YtljegggpgafkiaaMask
namespace Go.Proofs.Ytljegggpgafkiaa
open Go.ChangeShapes Go.WideShapes Go.ChangeAt Go.RowKit
set_option linter.unusedVariables false
set_option linter.unusedSimpArgs false
set_option maxRecDepth 100000

theorem scale_mk' {zs : List Int} (h5 : 5 ≤ zs.length) (h0 : zs.getD 0 0 = 0) (hr : ∀ i, i + 1 < zs.length → zs.getD i 0 < zs.getD (i + 1) 0) (hl : 0 ≤ zs.getD (zs.length - 1) 0 ∧ zs.getD (zs.length - 1) 0 ≤ 11) : scaleB zs = true := by
  have up : ∀ i, i < zs.length → 0 ≤ zs.getD i 0 := by
    intro i
    induction i with
    | zero => intro _; rw [h0]; exact Int.le_refl _
    | succ i ih => intro hi; have := ih (by omega); have := hr i hi; omega
  have dn : ∀ d i, i + d = zs.length - 1 → zs.getD i 0 ≤ 11 := by
    intro d
    induction d with
    | zero => intro i hi; rw [show i = zs.length - 1 by omega]; exact hl.2
    | succ d ih => intro i hi; have h1 := ih (i + 1) (by omega); have := hr i (by omega); omega
  have hri : riseB 0 11 zs = true := rise_yes (fun i hi => ⟨⟨up i hi, dn (zs.length - 1 - i) i (by omega)⟩, fun h => by
    obtain ⟨j, rfl⟩ : ∃ j, i = j + 1 := ⟨i - 1, by omega⟩
    exact hr j hi⟩)
  unfold scaleB
  rw [h0, hri]
  simpa using h5
/-- the tones of a scale in all octaves from the tonic on -/
def seqF (zs : List Int) (i : Nat) : Int := zs.getD (i % zs.length) 0 + 12 * ((i / zs.length : Nat) : Int)
theorem md_at (n q r : Nat) (h : r < n) : (n * q + r) % n = r ∧ (n * q + r) / n = q := by
  constructor
  · rw [Nat.mul_add_mod, Nat.mod_eq_of_lt h]
  · rw [Nat.mul_add_div (by omega), Nat.div_eq_of_lt h]; rfl
theorem seq_at (zs : List Int) (q r : Nat) (h : r < zs.length) : seqF zs (zs.length * q + r) = zs.getD r 0 + 12 * (q : Int) := by
  obtain ⟨h1, h2⟩ := md_at zs.length q r h
  unfold seqF
  rw [h1, h2]
theorem seq_low (zs : List Int) (r : Nat) (h : r < zs.length) : seqF zs r = zs.getD r 0 := by
  have := seq_at zs 0 r h
  simpa using this
theorem seq_cut (n i : Nat) (h : 0 < n) : ∃ q r, r < n ∧ i = n * q + r := ⟨i / n, i % n, Nat.mod_lt _ h, (Nat.div_add_mod i n).symm⟩
theorem seq_period (zs : List Int) (i : Nat) (h : 0 < zs.length) : seqF zs (i + zs.length) = seqF zs i + 12 := by
  obtain ⟨q, r, hr, rfl⟩ := seq_cut zs.length i h
  rw [show zs.length * q + r + zs.length = zs.length * (q + 1) + r by rw [Nat.mul_succ]; omega, seq_at zs _ r hr, seq_at zs _ r hr]
  push_cast; omega
theorem seq_periods (zs : List Int) (i q : Nat) (h : 0 < zs.length) : seqF zs (i + zs.length * q) = seqF zs i + 12 * (q : Int) := by
  induction q with
  | zero => simp
  | succ q ih =>
    rw [show i + zs.length * (q + 1) = (i + zs.length * q) + zs.length by rw [Nat.mul_succ]; omega, seq_period _ _ h, ih]
    push_cast; omega
theorem seq_lt {zs : List Int} (hs : scaleB zs = true) (i : Nat) : seqF zs i < seqF zs (i + 1) := by
  obtain ⟨⟨l1, l2⟩, hr, h0⟩ := scale_yes hs
  obtain ⟨q, r, hrn, rfl⟩ := seq_cut zs.length i (by omega)
  by_cases h : r + 1 < zs.length
  · rw [show zs.length * q + r + 1 = zs.length * q + (r + 1) by omega, seq_at zs q r hrn, seq_at zs q (r + 1) h]
    have := (rise_all hr (r + 1) h).2 (by omega)
    simp only [Nat.add_sub_cancel] at this
    omega
  · rw [show zs.length * q + r + 1 = zs.length * (q + 1) + 0 by rw [Nat.mul_succ]; omega, seq_at zs q r hrn, seq_at zs (q + 1) 0 (by omega), h0]
    have := scale_in hs r hrn
    push_cast; omega
theorem seq_lt_all {zs : List Int} (hs : scaleB zs = true) (i j : Nat) (h : i < j) : seqF zs i < seqF zs j := by
  obtain ⟨d, rfl⟩ : ∃ d, j = i + d + 1 := ⟨j - i - 1, by omega⟩
  clear h
  induction d with
  | zero => exact seq_lt hs i
  | succ d ih => exact Int.lt_trans ih (seq_lt hs (i + d + 1))
theorem seq_le_all {zs : List Int} (hs : scaleB zs = true) (i j : Nat) (h : i ≤ j) : seqF zs i ≤ seqF zs j := by
  rcases Nat.lt_or_ge i j with h1 | h1
  · exact Int.le_of_lt (seq_lt_all hs i j h1)
  · rw [show i = j by omega]; exact Int.le_refl _
theorem seq_gap {zs : List Int} (hs : scaleB zs = true) (k j : Nat) (h : j < zs.length) : 0 ≤ seqF zs (k + j) - seqF zs k ∧ seqF zs (k + j) - seqF zs k ≤ 11 := by
  have h1 := seq_le_all hs k (k + j) (by omega)
  have h2 := seq_lt_all hs (k + j) (k + zs.length) (by omega)
  have h3 := seq_period zs k (by omega)
  omega
theorem gap_mod {zs : List Int} (hs : scaleB zs = true) (k j : Nat) (hk : k < zs.length) (hj : j < zs.length) : (zs.getD ((k + j) % zs.length) 0 - zs.getD k 0) % 12 = seqF zs (k + j) - seqF zs k := by
  have h1 := seq_gap hs k j hj
  have h2 : seqF zs (k + j) = zs.getD ((k + j) % zs.length) 0 + 12 * (((k + j) / zs.length : Nat) : Int) := rfl
  have h3 := seq_low zs k hk
  generalize zs.getD ((k + j) % zs.length) 0 = x at *
  generalize (((k + j) / zs.length : Nat) : Int) = q at *
  omega
theorem getD_map_range (n : Nat) (f : Nat → Int) (j : Nat) (h : j < n) : ((List.range n).map f).getD j 0 = f j := by
  simp [List.getD, h]
theorem rot_at {zs : List Int} (hs : scaleB zs = true) (k j : Nat) (hk : k < zs.length) (hj : j < zs.length) : (rotL zs k zs.length).getD j 0 = seqF zs (k + j) - seqF zs k := by
  unfold rotL
  rw [getD_map_range _ _ j hj, gap_mod hs k j hk hj]
theorem ext_getD {xs ys : List Int} (hl : xs.length = ys.length) (h : ∀ i, i < xs.length → xs.getD i 0 = ys.getD i 0) : xs = ys := by
  apply List.ext_getElem hl
  intro i h1 h2
  have := h i h1
  simpa [List.getD, h1, h2] using this
theorem rot_scale {zs : List Int} (hs : scaleB zs = true) (k : Nat) (hk : k < zs.length) : scaleB (rotL zs k zs.length) = true := by
  obtain ⟨⟨l1, l2⟩, hr, h0⟩ := scale_yes hs
  have hl := rotL_len zs k zs.length
  refine scale_mk' (by omega) ?_ ?_ ?_
  · rw [rot_at hs k 0 hk (by omega)]; simp
  · intro i hi
    rw [hl] at hi
    rw [rot_at hs k i hk (by omega), rot_at hs k (i + 1) hk (by omega)]
    have := seq_lt hs (k + i)
    rw [show k + (i + 1) = k + i + 1 by omega]
    omega
  · rw [hl, rot_at hs k (zs.length - 1) hk (by omega)]
    exact seq_gap hs k (zs.length - 1) (by omega)
theorem rot_seq {zs : List Int} (hs : scaleB zs = true) (k i : Nat) (hk : k < zs.length) : seqF (rotL zs k zs.length) i = seqF zs (k + i) - seqF zs k := by
  have hl := rotL_len zs k zs.length
  obtain ⟨q, r, hr, rfl⟩ := seq_cut zs.length i (by omega)
  have h1 := seq_at (rotL zs k zs.length) q r (by omega)
  rw [hl] at h1
  rw [h1, rot_at hs k r hk hr, show k + (zs.length * q + r) = k + r + zs.length * q by omega, seq_periods _ _ _ (by omega)]
  omega
theorem rot_back {zs : List Int} (hs : scaleB zs = true) (k : Nat) (hk : k < zs.length) : rotL (rotL zs k zs.length) ((zs.length - k) % zs.length) zs.length = zs := by
  obtain ⟨⟨l1, l2⟩, hr, h0⟩ := scale_yes hs
  have hl := rotL_len zs k zs.length
  have hts := rot_scale hs k hk
  have hj : (zs.length - k) % zs.length < zs.length := Nat.mod_lt _ (by omega)
  apply ext_getD (by rw [rotL_len])
  intro i hi
  rw [rotL_len] at hi
  have h1 := rot_at hts ((zs.length - k) % zs.length) i (by omega) (by omega)
  rw [hl] at h1
  rw [h1, rot_seq hs k _ hk, rot_seq hs k _ hk, ← seq_low zs i hi]
  have hz : seqF zs 0 = 0 := by rw [seq_low zs 0 (by omega), h0]
  by_cases hk0 : k = 0
  · subst hk0
    rw [show (zs.length - 0) % zs.length = 0 by simp]
    simp only [Nat.zero_add]
    omega
  · rw [show (zs.length - k) % zs.length = zs.length - k from Nat.mod_eq_of_lt (by omega), show k + (zs.length - k + i) = i + zs.length by omega, show k + (zs.length - k) = 0 + zs.length by omega, seq_period _ _ (by omega), seq_period _ _ (by omega)]
    omega
theorem rotTo_some {xs zs : List Int} (h1 : scaleB xs = true) (h2 : scaleB zs = true) (k : Nat) (hk : k < xs.length) (h : rotL xs k xs.length = zs) : ∃ f : Nat, f ≤ k ∧ rotTo xs zs = ((f : Int), 0) ∧ rotL xs f xs.length = zs := by
  cases hf : (List.range xs.length).find? (fun i => decide (rotL xs i xs.length = zs)) with
  | none =>
    rw [List.find?_range_eq_none] at hf
    have := hf k hk
    simp [h] at this
  | some f =>
    rw [List.find?_range_eq_some] at hf
    obtain ⟨a, b, c⟩ := hf
    have a' : rotL xs f xs.length = zs := by simpa using a
    have b' : f < xs.length := by simpa using b
    have c' : ∀ j, j < f → rotL xs j xs.length ≠ zs := fun j hj => by simpa using c j hj
    refine ⟨f, ?_, rotTo_hit h1 h2 f b' a' c', a'⟩
    rcases Nat.lt_or_ge k f with h3 | h3
    · exact absurd h (c' k h3)
    · exact h3
theorem steps_len {zs : List Int} (hs : scaleB zs = true) : (stepsZ zs).length = zs.length := by
  have := (scale_yes hs).1.1
  simp [stepsZ, stepL]; omega
theorem steps_at {zs : List Int} (hs : scaleB zs = true) (i : Nat) (hi : i < zs.length) : (stepsZ zs).getD i 0 = seqF zs (i + 1) - seqF zs i := by
  obtain ⟨⟨l1, l2⟩, hr, h0⟩ := scale_yes hs
  have hsl : (stepL zs (zs.length - 1)).length = zs.length - 1 := stepL_len _ _
  unfold stepsZ
  by_cases h : i < zs.length - 1
  · have e : (stepL zs (zs.length - 1) ++ [12 - zs.getD (zs.length - 1) 0]).getD i 0 = (stepL zs (zs.length - 1)).getD i 0 := by
      rw [List.getD_eq_getElem?_getD, List.getElem?_append_left (by omega), ← List.getD_eq_getElem?_getD]
    rw [e]
    unfold stepL
    rw [getD_map_range _ _ i h, seq_low zs i hi, seq_low zs (i + 1) (by omega)]
  · have hi2 : i = zs.length - 1 := by omega
    subst hi2
    have e : (stepL zs (zs.length - 1) ++ [12 - zs.getD (zs.length - 1) 0]).getD (zs.length - 1) 0 = 12 - zs.getD (zs.length - 1) 0 := by
      rw [List.getD_eq_getElem?_getD, List.getElem?_append_right (by omega), hsl]; simp
    rw [e, show zs.length - 1 + 1 = 0 + zs.length by omega, seq_period _ _ (by omega), seq_low zs 0 (by omega), seq_low zs (zs.length - 1) hi, h0]
    omega
theorem step_rng {zs : List Int} (hs : scaleB zs = true) (i : Nat) : 1 ≤ seqF zs (i + 1) - seqF zs i ∧ seqF zs (i + 1) - seqF zs i ≤ 11 := by
  have h1 := seq_lt hs i
  have h2 := seq_gap hs i 1 (by have := (scale_yes hs).1.1; omega)
  omega
theorem steps_rot {zs : List Int} (hs : scaleB zs = true) (k i : Nat) (hk : k < zs.length) (hi : i < zs.length) : (stepsZ (rotL zs k zs.length)).getD i 0 = (stepsZ zs).getD ((i + k) % zs.length) 0 := by
  have hl := rotL_len zs k zs.length
  have h1 := steps_at (rot_scale hs k hk) i (by omega)
  rw [h1, rot_seq hs k _ hk, rot_seq hs k _ hk]
  have hm : (i + k) % zs.length < zs.length := Nat.mod_lt _ (by omega)
  rw [steps_at hs _ hm]
  by_cases h : i + k < zs.length
  · rw [Nat.mod_eq_of_lt h, show k + (i + 1) = i + k + 1 by omega, show k + i = i + k by omega]; omega
  · have e : (i + k) % zs.length = i + k - zs.length := by rw [Nat.mod_eq_sub_mod (by omega), Nat.mod_eq_of_lt (by omega)]
    have p1 := seq_period zs (i + k - zs.length) (by omega)
    have p2 := seq_period zs (i + k - zs.length + 1) (by omega)
    rw [show i + k - zs.length + zs.length = k + i by omega] at p1
    rw [show i + k - zs.length + 1 + zs.length = k + (i + 1) by omega] at p2
    rw [e]
    omega
theorem seq_zero {zs : List Int} (hs : scaleB zs = true) : seqF zs 0 = 0 := by
  obtain ⟨⟨l1, l2⟩, hr, h0⟩ := scale_yes hs
  rw [seq_low zs 0 (by omega), h0]
theorem seq_end {zs : List Int} (hs : scaleB zs = true) : seqF zs zs.length = 12 := by
  have := seq_period zs 0 (by have := (scale_yes hs).1.1; omega)
  rw [Nat.zero_add, seq_zero hs] at this
  omega
theorem com_both {xs zs : List Int} (i : Nat) (hi : i < (comL xs zs xs.length).length) : hasB xs ((comL xs zs xs.length).getD i 0) = true ∧ hasB zs ((comL xs zs xs.length).getD i 0) = true := by
  have hm : (comL xs zs xs.length).getD i 0 ∈ comL xs zs xs.length := by simp [List.getD, hi]
  rw [com_filter xs zs xs.length (Nat.le_refl _), List.take_length] at hm ⊢
  generalize (xs.filter (hasB zs)).getD i 0 = y at hm ⊢
  rw [List.mem_filter] at hm
  refine ⟨?_, hm.2⟩
  rw [has_iff]
  obtain ⟨j, hj, e⟩ := List.getElem_of_mem hm.1
  exact ⟨j, hj, by simp [List.getD, hj, e]⟩
theorem com_some {xs zs : List Int} (h1 : scaleB xs = true) (h2 : scaleB zs = true) : 1 ≤ (comL xs zs xs.length).length := by
  obtain ⟨⟨l1, l2⟩, _, h0⟩ := scale_yes h1
  obtain ⟨⟨l3, l4⟩, _, h3⟩ := scale_yes h2
  have hh : hasB zs 0 = true := by rw [has_iff]; exact ⟨0, by omega, h3⟩
  rw [com_filter xs zs xs.length (Nat.le_refl _), List.take_length]
  have hm : (0 : Int) ∈ xs := by
    have : xs.getD 0 0 ∈ xs := by simp [List.getD, show 0 < xs.length by omega]
    rwa [h0] at this
  exact List.length_pos_of_mem (List.mem_filter.2 ⟨hm, hh⟩)
/-- degrees and pitches -/
def pitP (zs : List Int) (d : Int) : Int := 12 * (d / zs.length) + zs.getD (d % zs.length).toNat 0
theorem pit_ok {zs : List Int} (hs : scaleB zs = true) (d : Int) (h : -(zs.length : Int) ≤ d ∧ d < 2 * zs.length) : pitZ zs d = (pitP zs d, 0) ∧ -12 ≤ pitP zs d ∧ pitP zs d ≤ 23 := by
  obtain ⟨⟨l1, l2⟩, _, _⟩ := scale_yes hs
  have q0 : (0 : Int) < (zs.length : Int) := by omega
  have k1 := Int.emod_nonneg d (show (zs.length : Int) ≠ 0 by omega)
  have k2 := Int.emod_lt_of_pos d q0
  have hk := scale_in hs (d % zs.length).toNat (by omega)
  have hq : -1 ≤ d / zs.length ∧ d / zs.length ≤ 1 := by
    constructor
    · exact Int.le_ediv_of_mul_le q0 (show -1 * (zs.length : Int) ≤ d by omega)
    · have := Int.ediv_lt_of_lt_mul q0 (show d < 2 * (zs.length : Int) by omega); omega
  refine ⟨?_, ?_, ?_⟩
  · unfold pitZ
    rw [if_pos hs, if_pos (inB_mk (by omega))]; rfl
  · unfold pitP; omega
  · unfold pitP; omega
theorem deg_back {zs : List Int} (hs : scaleB zs = true) (d : Int) (h : -(zs.length : Int) ≤ d ∧ d < 2 * zs.length) : degZ zs (pitP zs d) = (d, 0) ∧ hasB zs (pitP zs d % 12) = true := by
  obtain ⟨⟨l1, l2⟩, hr, _⟩ := scale_yes hs
  obtain ⟨_, p1, p2⟩ := pit_ok hs d h
  have q0 : (0 : Int) < (zs.length : Int) := by omega
  have k1 := Int.emod_nonneg d (show (zs.length : Int) ≠ 0 by omega)
  have k2 := Int.emod_lt_of_pos d q0
  have hk := scale_in hs (d % zs.length).toNat (by omega)
  have e1 : pitP zs d % 12 = zs.getD (d % zs.length).toNat 0 := by unfold pitP; omega
  have e2 : pitP zs d / 12 = d / zs.length := by unfold pitP; omega
  have hix : idxZ zs (zs.getD (d % zs.length).toNat 0) = ((d % zs.length).toNat : Nat) := idx_hit _ (by omega) rfl (fun i hi => by
    have h1 := seq_lt_all hs i _ hi
    rw [seq_low zs i (by omega), seq_low zs _ (by omega)] at h1
    omega)
  constructor
  · unfold degZ
    rw [if_pos hs, if_pos (inB_mk ⟨p1, p2⟩), e1, hix, if_neg (by omega), e2]
    have := Int.emod_add_mul_ediv d zs.length
    have hc : (zs.length : Int) * (d / zs.length) = d / zs.length * zs.length := Int.mul_comm _ _
    congr 1
    omega
  · rw [e1]
    unfold hasB
    rw [hix]
    exact decide_eq_true (by omega)
theorem pit_up {zs : List Int} (hs : scaleB zs = true) (d : Int) : pitP zs d < pitP zs (d + 1) := by
  obtain ⟨⟨l1, l2⟩, hr, h0⟩ := scale_yes hs
  have q0 : (0 : Int) < (zs.length : Int) := by omega
  have k1 := Int.emod_nonneg d (show (zs.length : Int) ≠ 0 by omega)
  have k2 := Int.emod_lt_of_pos d q0
  have hd := Int.emod_add_mul_ediv d zs.length
  have hk := scale_in hs (d % zs.length).toNat (by omega)
  generalize hq : d / (zs.length : Int) = q at *
  generalize hrr : d % (zs.length : Int) = r at *
  by_cases h : r + 1 < zs.length
  · have a1 : (d + 1) / (zs.length : Int) = q := by
      rw [← hd, show r + (zs.length : Int) * q + 1 = (r + 1) + (zs.length : Int) * q by omega, Int.add_mul_ediv_left _ _ (by omega), Int.ediv_eq_zero_of_lt (by omega) h]; omega
    have a2 : (d + 1) % (zs.length : Int) = r + 1 := by
      rw [← hd, show r + (zs.length : Int) * q + 1 = (r + 1) + (zs.length : Int) * q by omega, Int.add_mul_emod_self_left, Int.emod_eq_of_lt (by omega) h]
    unfold pitP
    rw [a1, a2, hq, hrr, show (r + 1).toNat = r.toNat + 1 by omega]
    have := (rise_all hr (r.toNat + 1) (by omega)).2 (by omega)
    simp only [Nat.add_sub_cancel] at this
    omega
  · have hrl : r + 1 = zs.length := by omega
    have e0 : d + 1 = (zs.length : Int) * (q + 1) := by rw [Int.mul_add, Int.mul_one]; omega
    have a1 : (d + 1) / (zs.length : Int) = q + 1 := by rw [e0, Int.mul_ediv_cancel_left _ (by omega)]
    have a2 : (d + 1) % (zs.length : Int) = 0 := by rw [e0, Int.mul_emod_right]
    unfold pitP
    rw [a1, a2, hq, hrr, show (0 : Int).toNat = 0 from rfl, h0]
    omega
/-- numbers and scales -/
theorem tones_scale0 : ∀ f, f < 2048 → 5 ≤ popN (2048 + f) → scaleB (tonesN (2048 + f) 12) = true := by decide +kernel
theorem tones_scale (m : Nat) (h : 2048 ≤ m ∧ m < 4096) (hp : 5 ≤ popN m) : scaleB (tonesN m 12) = true := by
  have := tones_scale0 (m - 2048) (by omega)
  rw [show 2048 + (m - 2048) = m by omega] at this
  exact this hp
theorem number_ok {zs : List Int} (hs : scaleB zs = true) : ∃ k : Nat, numbC zs = ((k : Int), 0) ∧ (k : Int) < chooseZ 11 (zs.length - 1) ∧ numC zs.length k = (zs, 0) := by
  obtain ⟨⟨l1, l2⟩, hr, h0⟩ := scale_yes hs
  obtain ⟨k, e, hk, hm, _⟩ := masks_scale hs
  have hc := masks_count (zs.length : Int) (by omega)
  have hn := (masks_number (n := (zs.length : Int)) (by omega) k hk).1
  refine ⟨k, by unfold numbC; rw [if_pos hs, e], by omega, ?_⟩
  unfold numC
  rw [if_pos ⟨inB_mk (by omega), inB_mk (by omega)⟩, ← hn, hm, tones_mask hr]
theorem number_other (n : Int) (hn : 5 ≤ n ∧ n ≤ 12) (k : Nat) (hk : (k : Int) < chooseZ 11 (n - 1)) : ∃ ys : List Int, numC n k = (ys, 0) ∧ scaleB ys = true ∧ (ys.length : Int) = n ∧ numbC ys = ((k : Int), 0) := by
  have hc := masks_count n hn
  have hkl : k < (masksA n).length := by omega
  obtain ⟨j, hj, h1, h2, h3⟩ := masks_get n 2048 k hkl
  obtain ⟨_, g⟩ := scan_n n hn
  obtain ⟨g1, g2⟩ := g j hj h1
  have hs := tones_scale (4095 - j) (by omega) (by omega)
  have hl := pop_tones (4095 - j) (by omega)
  refine ⟨tonesN (4095 - j) 12, ?_, hs, by omega, ?_⟩
  · unfold numC
    rw [if_pos ⟨inB_mk (by omega), inB_mk (by omega)⟩, ← g2, h3]
  · unfold numbC
    rw [if_pos hs, hl]
    rw [h3] at g1
    rw [show popN (4095 - j) - 1 = n.toNat - 1 by omega, g1]
theorem count_ok (n : Int) (hn : 5 ≤ n ∧ n ≤ 12) : countZ n = (chooseZ 11 (n - 1), 0) ∧ 1 ≤ chooseZ 11 (n - 1) ∧ chooseZ 11 (n - 1) ≤ 462 := by
  refine ⟨by unfold countZ; rw [if_pos (inB_mk hn)], ?_⟩
  obtain rfl | rfl | rfl | rfl | rfl | rfl | rfl | rfl : n = 5 ∨ n = 6 ∨ n = 7 ∨ n = 8 ∨ n = 9 ∨ n = 10 ∨ n = 11 ∨ n = 12 := by omega
  all_goals decide +kernel
/-- texts and names -/
theorem name_back0 : ∀ t, t < 12 → namedZ (nameL.getD t 0) = (t : Int) := by decide +kernel
theorem text_back {zs : List Int} (hs : scaleB zs = true) : readSc (textS zs).data.toList = some zs := by
  have h1 : (textS zs).data.toList = textL zs zs.length := by unfold textS; rw [if_pos hs]
  rw [h1]
  have h2 : (textL zs zs.length).map namedZ = zs := by
    apply ext_getD (by simp [textL])
    intro i hi
    have hi2 : i < zs.length := by simpa [textL] using hi
    have hz := scale_in hs i hi2
    have := name_back0 (zs.getD i 0).toNat (by omega)
    unfold textL
    rw [List.map_map, getD_map_range _ _ i hi2]
    simp only [Function.comp]
    rw [this]
    omega
  unfold readSc
  rw [h2, if_pos hs]
theorem text_size {zs : List Int} (hs : scaleB zs = true) : (textS zs).size ≤ 12 := by
  have := (scale_yes hs).1.2
  unfold textS
  rw [if_pos hs]
  show (textL zs zs.length).toArray.size ≤ 12
  simp [textL]; omega
theorem tone_back (t : Int) (h : 0 ≤ t ∧ t ≤ 11) : tnZ (toneS t).data.toList = (t, true) ∧ (toneS t).size = 1 := by
  have := name_back0 t.toNat (by omega)
  have e : toneS t = ⟨#[nameL.getD t.toNat 0]⟩ := by unfold toneS; rw [if_pos (inB_mk h)]
  rw [e]
  refine ⟨?_, rfl⟩
  show (if namedZ (nameL.getD t.toNat 0) < 0 then ((0 : Int), false) else (namedZ (nameL.getD t.toNat 0), true)) = (t, true)
  rw [this, if_neg (by omega)]
  congr 1
  omega
end Go.Proofs.Ytljegggpgafkiaa
