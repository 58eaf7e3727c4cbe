/- Plain facts for the law FnBasics: the nearest quotient is near and odd, the line stays between its ends, lists are read back. -/
import Derived.Test.YtfogcabhafhlmaaDoorListText
import Derived.Test.YtfogcabhafhlmaaDoorLine
namespace Go.Proofs.YtfogcabhafhlmaaDoor
set_option linter.unusedVariables false

theorem near_pos (a b : Int) (hb : 1 ≤ b) (ha : 0 ≤ a) : -b ≤ 2 * (a - (2*a+b)/(2*b) * b) ∧ 2 * (a - (2*a+b)/(2*b) * b) ≤ b := by
  have e := Int.mul_ediv_add_emod (2*a+b) (2*b)
  have m1 := Int.emod_nonneg (2*a+b) (b := 2*b) (by omega)
  have m2 := Int.emod_lt_of_pos (2*a+b) (b := 2*b) (by omega)
  generalize (2*a+b)/(2*b) = q at *
  generalize (2*a+b)%(2*b) = r at *
  have e1 : 2 * b * q = 2 * (b * q) := by rw [Int.mul_assoc]
  have e2 : q * b = b * q := Int.mul_comm _ _
  rw [e2]
  generalize b * q = t at *
  omega
theorem dv_odd (a b : Int) (hb : 1 ≤ b) : dv (-a) b = -dv a b := by
  rw [dv_pos _ _ (by omega), dv_pos _ _ (by omega)]
  rcases Int.lt_trichotomy a 0 with h | h | h
  · rw [dvp_pos _ _ (by omega), dvp_neg _ _ h, show 2 * -a + b = b - 2 * a by omega]; omega
  · subst h
    have : (b : Int) / (2 * b) = 0 := Int.ediv_eq_zero_of_lt (by omega) (by omega)
    simp [dvp, this]
  · rw [dvp_neg _ _ (by omega), dvp_pos _ _ (by omega), show b - 2 * -a = 2 * a + b by omega]
theorem dv_near (a b : Int) (hb : 1 ≤ b) : -b ≤ 2 * (a - dv a b * b) ∧ 2 * (a - dv a b * b) ≤ b := by
  by_cases h : 0 ≤ a
  · rw [dv_pos _ _ (by omega), dvp_pos _ _ h]; exact near_pos a b hb h
  · have := near_pos (-a) b hb (by omega)
    have e : dv a b = -((2 * -a + b) / (2 * b)) := by
      rw [dv_pos _ _ (by omega), dvp_neg _ _ (by omega), show 2 * -a + b = b - 2 * a by omega]
    rw [e, Int.neg_mul]
    generalize (2 * -a + b) / (2 * b) * b = t at *
    omega
/-- a part of d is between 0 and d -/
theorem dv_part (d x : Int) (hx : 0 ≤ x ∧ x < 1000) (hd : -100000 ≤ d ∧ d ≤ 100000) : (0 ≤ d → 0 ≤ dv (d * x) 1000 ∧ dv (d * x) 1000 ≤ d) ∧ (d ≤ 0 → d ≤ dv (d * x) 1000 ∧ dv (d * x) 1000 ≤ 0) := by
  have hn := dv_near (d * x) 1000 (by omega)
  refine ⟨fun h => ?_, fun h => ?_⟩
  · have h0 : 0 ≤ d * x := Int.mul_nonneg h hx.1
    have h1 : d * x ≤ d * 1000 := Int.mul_le_mul_of_nonneg_left (by omega) h
    generalize dv (d * x) 1000 = q at *
    generalize d * x = p at *
    omega
  · have h0 : 0 ≤ (-d) * x := Int.mul_nonneg (by omega) hx.1
    have h1 : (-d) * x ≤ (-d) * 1000 := Int.mul_le_mul_of_nonneg_left (by omega) (by omega)
    rw [Int.neg_mul] at h0 h1
    generalize dv (d * x) 1000 = q at *
    generalize d * x = p at *
    omega
theorem line_between (y z x : Int) (hx : 0 ≤ x ∧ x < 1000) (hy : -2500 ≤ y ∧ y ≤ 2500) (hz : -2500 ≤ z ∧ z ≤ 2500) : min y z ≤ lineZ 0 y 1000 z x ∧ lineZ 0 y 1000 z x ≤ max y z := by
  by_cases h0 : x ≤ 0
  · rw [line_low _ _ _ _ _ (.inl h0)]; omega
  · rw [line_mid _ _ _ _ _ (by omega) (by omega)]
    have := dv_part (z - y) x hx (by omega)
    rw [show x - 0 = x by omega, show (1000 : Int) - 0 = 1000 by omega]
    generalize dv ((z - y) * x) 1000 = q at *
    omega

theorem num_nocomma (z : Int) : ∀ b ∈ Lib.itoa z, b ≠ 44 := by
  have hd : ∀ u : Nat, ∀ b ∈ Lib.decDigits u, b ≠ 44 := fun u b hb e => by
    have := List.all_eq_true.1 (dec_digits u).1 b hb
    subst e
    exact absurd this (by decide)
  intro b hb e
  unfold Lib.itoa at hb
  split at hb
  · simp at hb
    rcases hb with hb | hb
    · subst hb; exact absurd e (by decide)
    · exact hd _ b hb e
  · exact hd _ b hb e
theorem glue_cons (b : UInt8) (x : List UInt8) (ps : List (List UInt8)) : glue [b] (glue x ps) = glue (b :: x) ps := by
  cases ps <;> rfl
theorem cut_app (c : UInt8) (x l : List UInt8) (h : ∀ b ∈ x, b ≠ c) : cutL c (x ++ l) = glue x (cutL c l) := by
  induction x with
  | nil => rw [glue_nil]; rfl
  | cons b x ih =>
    have hb := h b (by simp)
    have := cut_miss c b [] (x ++ l) hb
    rw [glue_nil] at this
    rw [List.cons_append, this, ih (fun b hb => h b (by simp [hb])), List.nil_append, glue_cons]
theorem cut_tail (r : List Int) : cutL 44 ((r.map fun z => 44 :: Lib.itoa z).flatten) = [] :: r.map Lib.itoa := by
  induction r with
  | nil => rfl
  | cons y r ih =>
    have := cut_hit 44 [] (Lib.itoa y ++ (r.map fun z => 44 :: Lib.itoa z).flatten)
    rw [glue_nil] at this
    rw [List.map_cons, List.flatten_cons, List.cons_append, this, cut_app _ _ _ (num_nocomma y), ih]
    simp [glue]
theorem cut_join (zs : List Int) (h : zs ≠ []) : cutL 44 (joinL zs) = zs.map Lib.itoa := by
  cases zs with
  | nil => exact absurd rfl h
  | cons z r =>
    unfold joinL
    rw [cut_app _ _ _ (num_nocomma z), cut_tail]
    simp [glue]
theorem fit_in {zs : List Int} (h : fitL zs = true) : (∀ z ∈ zs, -1000000000000 ≤ z ∧ z ≤ 1000000000000) ∧ zs.length ≤ 64 := by
  unfold fitL at h
  simp [inB] at h
  exact ⟨fun z hz => h.1 z hz, h.2⟩
theorem num_fit (z : Int) (h : -1000000000000 ≤ z ∧ z ≤ 1000000000000) : numZ (Lib.itoa z) = some z := num_itoa z (by omega)
theorem readP_itoa (zs : List Int) (h : ∀ z ∈ zs, -1000000000000 ≤ z ∧ z ≤ 1000000000000) : readP (zs.map Lib.itoa) = some zs := by
  induction zs with
  | nil => rfl
  | cons z r ih =>
    have hz := h z (by simp)
    rw [List.map_cons, readP, okv_some _ z (num_fit z hz) (by unfold inB; simp; omega), ih (fun z hz => h z (by simp [hz]))]
    rfl
theorem list_back (zs : List Int) (h : fitL zs = true) : readL (textL zs) = some zs := by
  obtain ⟨h1, h2⟩ := fit_in h
  unfold textL
  rw [if_pos h]
  unfold textE
  by_cases h0 : zs = []
  · subst h0; rfl
  · rw [if_neg h0]
    unfold readL
    have hc := cut_join zs h0
    have hne : joinL zs ≠ [45] := by
      intro e
      rw [e] at hc
      have e2 : cutL 44 [45] = [[45]] := by decide
      rw [e2] at hc
      cases zs with
      | nil => exact h0 rfl
      | cons z r =>
        simp at hc
        have := num_fit z (h1 z (by simp))
        rw [← hc.1] at this
        have e3 : numZ [45] = none := by decide
        rw [e3] at this
        cases this
    rw [if_neg hne, hc, List.length_map, if_neg (by omega), readP_itoa zs h1]
end Go.Proofs.YtfogcabhafhlmaaDoor
