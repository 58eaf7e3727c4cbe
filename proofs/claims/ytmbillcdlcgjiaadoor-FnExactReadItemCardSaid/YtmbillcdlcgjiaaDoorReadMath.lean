/- Reading decimal numbers: two ways that agree (no program). -/
import Derived.Lib.ItoaNum
import Derived.Lib.ParseIntB
import Derived.Lib.Strings
namespace Go.Proofs.YtmbillcdlcgjiaaDoor
set_option linter.unusedVariables false
set_option linter.unusedSimpArgs false
set_option maxRecDepth 100000

def isD (c : UInt8) : Bool := decide (48 ≤ c.toNat ∧ c.toNat ≤ 57)
def valFrom (a : Nat) (r : List UInt8) : Nat := r.foldl (fun n c => 10 * n + (c.toNat - 48)) a
theorem val_snoc (a : Nat) (r : List UInt8) (c : UInt8) : valFrom a (r ++ [c]) = 10 * valFrom a r + (c.toNat - 48) := by simp [valFrom]
theorem val_cons (a : Nat) (c : UInt8) (r : List UInt8) : valFrom a (c :: r) = valFrom (10 * a + (c.toNat - 48)) r := by unfold valFrom; rw [List.foldl_cons]
theorem val_ge (r : List UInt8) : ∀ a, a ≤ valFrom a r := by
  induction r with
  | nil => intro a; exact Nat.le_refl _
  | cons c r ih => intro a; rw [val_cons]; exact Nat.le_trans (by omega) (ih _)
theorem val_lt (r : List UInt8) (h : r.all isD = true) : valFrom 0 r < 10 ^ r.length := by
  suffices ∀ (r : List UInt8) (a : Nat), r.all isD = true → valFrom a r < (a + 1) * 10 ^ r.length by
    have := this r 0 h
    rwa [Nat.zero_add, Nat.one_mul] at this
  intro r
  induction r with
  | nil => intro a _; simp [valFrom]
  | cons c r ih =>
    intro a h
    simp only [List.all_cons, Bool.and_eq_true] at h
    have hc : c.toNat ≤ 57 := by have := h.1; simp [isD] at this; exact this.2
    rw [val_cons, List.length_cons, Nat.pow_succ]
    have := ih (10 * a + (c.toNat - 48)) h.2
    have h2 : (10 * a + (c.toNat - 48) + 1) * 10 ^ r.length ≤ (10 * (a + 1)) * 10 ^ r.length := Nat.mul_le_mul_right _ (by omega)
    calc valFrom (10 * a + (c.toNat - 48)) r < (10 * a + (c.toNat - 48) + 1) * 10 ^ r.length := this
      _ ≤ (10 * (a + 1)) * 10 ^ r.length := h2
      _ = (a + 1) * (10 ^ r.length * 10) := by rw [Nat.mul_comm 10 (a + 1), Nat.mul_assoc, Nat.mul_comm 10]
theorem digit_back (c : UInt8) (h : isD c = true) : UInt8.ofNat (48 + (c.toNat - 48)) = c := by
  simp [isD] at h
  have : 48 + (c.toNat - 48) = c.toNat := by omega
  rw [this]; simp
theorem digit_of (d : Nat) (h : d < 10) : (UInt8.ofNat (48 + d)).toNat = 48 + d := by rw [UInt8.toNat_ofNat', Nat.mod_eq_of_lt (by omega)]
theorem dec_of_val (r : List UInt8) (h : r.all isD = true) (hr : r ≠ []) (h0 : r.length = 1 ∨ r.head? ≠ some 48) : Lib.decDigits (valFrom 0 r) = r := by
  induction hn : r.length using Nat.strongRecOn generalizing r with
  | ind n ih =>
    rcases List.eq_nil_or_concat r with rfl | ⟨r', c, rfl⟩
    · exact absurd rfl hr
    · rw [List.concat_eq_append] at *
      rw [List.all_append, Bool.and_eq_true] at h
      have hc : isD c = true := by simpa using h.2
      have hc2 := hc
      simp [isD] at hc2
      rw [val_snoc]
      by_cases he : r' = []
      · subst he
        have : 10 * valFrom 0 [] + (c.toNat - 48) = c.toNat - 48 := by simp [valFrom]
        rw [this, Lib.decDigits, dif_pos (by omega), digit_back c hc]; rfl
      · have hh : r'.head? ≠ some 48 := by
          rcases h0 with h0 | h0
          · simp at h0; exact absurd h0 he
          · intro h2; apply h0
            cases r' with
            | nil => exact absurd rfl he
            | cons x y => simpa using h2
        have hv : 1 ≤ valFrom 0 r' := by
          cases r' with
          | nil => exact absurd rfl he
          | cons x y =>
            have hx : isD x = true := by have := h.1; simp at this; exact this.1
            have hx2 : x.toNat ≠ 48 := by
              intro e; apply hh
              have : x = 48 := UInt8.toNat_inj.1 (by simpa using e)
              simp [this]
            simp [isD] at hx
            rw [val_cons]
            exact Nat.le_trans (by omega) (val_ge y _)
        have hlen : r'.length < n := by rw [← hn]; simp
        have := ih r'.length hlen r' h.1 he (.inr hh) rfl
        rw [Lib.decDigits, dif_neg (by omega)]
        rw [show (10 * valFrom 0 r' + (c.toNat - 48)) / 10 = valFrom 0 r' by omega, show (10 * valFrom 0 r' + (c.toNat - 48)) % 10 = c.toNat - 48 by omega, this, digit_back c hc]
theorem dec_digits (u : Nat) : (Lib.decDigits u).all isD = true ∧ valFrom 0 (Lib.decDigits u) = u ∧ Lib.decDigits u ≠ [] ∧ ((Lib.decDigits u).length = 1 ∨ (Lib.decDigits u).head? ≠ some 48) := by
  induction u using Nat.strongRecOn with
  | ind u ih =>
    by_cases h : u < 10
    · rw [Lib.decDigits, dif_pos h]
      have := digit_of u h
      refine ⟨by simp [isD, this]; omega, by simp [valFrom, this] <;> omega, by simp, .inl rfl⟩
    · rw [Lib.decDigits, dif_neg h]
      obtain ⟨h1, h2, h3, h4⟩ := ih (u / 10) (by omega)
      have hd := digit_of (u % 10) (by omega)
      refine ⟨?_, ?_, by simp, .inr ?_⟩
      · rw [List.all_append, h1]; simp [isD, hd]; omega
      · rw [val_snoc, h2, hd]; omega
      · rw [List.head?_append]
        intro e
        cases hc : Lib.decDigits (u / 10) with
        | nil => exact h3 hc
        | cons x y =>
          rw [hc] at e h4 h2
          simp at e
          subst e
          rcases h4 with h4 | h4
          · have : y = [] := by simpa using h4
            subst this
            simp [valFrom] at h2
            omega
          · simp at h4

/-- the model's reading -/
def numZ (l : List UInt8) : Option Int :=
  let r := if l.head? = some 45 then l.tail else l
  if r = [] ∨ 18 < r.length ∨ (r.head? = some 48 ∧ 1 < l.length) ∨ r.all isD = false then none
  else some (if l.head? = some 45 then -(valFrom 0 r : Int) else (valFrom 0 r : Int))

theorem dec_len (u : Nat) : (Lib.decDigits u).length ≤ 18 ↔ u < 10 ^ 18 := by
  rw [Lib.decDigits_length]
  have h1 := Lib.lt_pow_nDigits u
  constructor
  · intro h
    exact Nat.lt_of_lt_of_le h1 (Nat.pow_le_pow_right (by omega) h)
  · intro h
    obtain ⟨d1, d2, d3, d4⟩ := dec_digits u
    rcases Nat.lt_or_ge 18 (Lib.nDigits u) with hg | hg
    · exfalso
      have hl := Lib.decDigits_length u
      have hne : (Lib.decDigits u).head? ≠ some 48 := by
        rcases d4 with d4 | d4
        · omega
        · exact d4
      cases hc : Lib.decDigits u with
      | nil => exact d3 hc
      | cons x y =>
        rw [hc] at hne d1 d2 hl
        have hx : isD x = true := by simp at d1; exact d1.1
        have hx2 : x.toNat ≠ 48 := by
          intro e; apply hne
          have : x = 48 := UInt8.toNat_inj.1 (by simpa using e)
          simp [this]
        simp [isD] at hx
        have hy : 18 ≤ y.length := by simp at hl; omega
        have : 10 ^ y.length ≤ valFrom 0 (x :: y) := by
          rw [val_cons]
          suffices ∀ (y : List UInt8) (a : Nat), a * 10 ^ y.length ≤ valFrom a y by
            refine Nat.le_trans ?_ (this y _)
            exact Nat.le_mul_of_pos_left _ (by omega)
          intro y
          induction y with
          | nil => intro a; simp [valFrom]
          | cons c y ih =>
            intro a
            rw [val_cons, List.length_cons, Nat.pow_succ]
            refine Nat.le_trans ?_ (ih _)
            rw [← Nat.mul_assoc, Nat.mul_right_comm]
            exact Nat.mul_le_mul_right _ (by omega)
        have h10 : 10 ^ 18 ≤ 10 ^ y.length := Nat.pow_le_pow_right (by omega) hy
        omega
    · exact hg
theorem itoa_neg' (v : Int) (h : v < 0) : Lib.itoa v = 45 :: Lib.decDigits v.natAbs := by unfold Lib.itoa; rw [if_pos h]
theorem itoa_pos' (v : Int) (h : 0 ≤ v) : Lib.itoa v = Lib.decDigits v.natAbs := by unfold Lib.itoa; rw [if_neg (by omega)]; congr 1; omega
theorem dec_head (u : Nat) : (Lib.decDigits u).head? ≠ some 45 := by
  intro e
  obtain ⟨d1, _, _, _⟩ := dec_digits u
  cases hc : Lib.decDigits u with
  | nil => rw [hc] at e; cases e
  | cons x y =>
    rw [hc] at e d1
    simp at e
    subst e
    simp [isD] at d1
theorem num_itoa (v : Int) (h : v.natAbs < 10 ^ 18) : numZ (Lib.itoa v) = some v := by
  obtain ⟨d1, d2, d3, d4⟩ := dec_digits v.natAbs
  have hl := (dec_len v.natAbs).2 h
  by_cases hv : v < 0
  · rw [itoa_neg' v hv]
    unfold numZ
    have h1 : (Lib.decDigits v.natAbs).head? ≠ some 48 := by
      rcases d4 with d4 | d4
      · intro e
        cases hc : Lib.decDigits v.natAbs with
        | nil => exact d3 hc
        | cons x y =>
          rw [hc] at d4 e d2
          have : y = [] := by simpa using d4
          subst this
          simp at e
          subst e
          simp [valFrom] at d2
          omega
      · exact d4
    simp only [List.head?_cons, if_true, List.tail_cons]
    rw [if_neg (by rintro (h | h | h | h); exact d3 h; omega; exact h1 h.1; rw [d1] at h; cases h), d2]
    congr 1; omega
  · rw [itoa_pos' v (by omega)]
    unfold numZ
    have h0 := dec_head v.natAbs
    simp only [if_neg h0]
    rw [if_neg (by
      rintro (h | h | h | h)
      · exact d3 h
      · omega
      · rcases d4 with d4 | d4
        · omega
        · exact d4 h.1
      · rw [d1] at h; cases h), d2]
    congr 1; omega
theorem num_some (l : List UInt8) (v : Int) (h : numZ l = some v) : l = Lib.itoa v ∧ v.natAbs < 10 ^ 18 := by
  unfold numZ at h
  by_cases hn : l.head? = some 45
  · simp only [if_pos hn] at h
    split at h
    · cases h
    · rename_i hc
      simp only [not_or, Bool.not_eq_false] at hc
      obtain ⟨c1, c2, c3, c4⟩ := hc
      cases l with
      | nil => cases hn
      | cons x r =>
        simp at hn
        subst hn
        simp only [List.tail_cons] at *
        have hh : r.head? ≠ some 48 := fun e => c3 ⟨e, by cases r with | nil => exact absurd rfl c1 | cons => simp⟩
        have hd := dec_of_val r c4 c1 (.inr hh)
        have hlt := val_lt r c4
        have hlt2 : valFrom 0 r < 10 ^ 18 := Nat.lt_of_lt_of_le hlt (Nat.pow_le_pow_right (by omega) (by omega))
        have hpos : 0 < valFrom 0 r := by
          rcases Nat.eq_zero_or_pos (valFrom 0 r) with h0 | h0
          · rw [h0] at hd
            rw [← hd] at hh
            exact absurd (by decide +kernel) hh
          · exact h0
        simp at h
        subst h
        refine ⟨?_, by omega⟩
        rw [itoa_neg' _ (by omega)]
        congr 1
        rw [show (-(valFrom 0 r : Int)).natAbs = valFrom 0 r by omega, hd]
  · simp only [if_neg hn] at h
    split at h
    · cases h
    · rename_i hc
      simp only [not_or, Bool.not_eq_false] at hc
      obtain ⟨c1, c2, c3, c4⟩ := hc
      have h0 : l.length = 1 ∨ l.head? ≠ some 48 := by
        by_cases h1 : 1 < l.length
        · exact .inr fun e => c3 ⟨e, h1⟩
        · exact .inl (by cases l with | nil => exact absurd rfl c1 | cons x y => simp at h1 ⊢; exact h1)
      have hd := dec_of_val l c4 c1 h0
      have hlt := val_lt l c4
      have hlt2 : valFrom 0 l < 10 ^ 18 := Nat.lt_of_lt_of_le hlt (Nat.pow_le_pow_right (by omega) (by omega))
      simp at h
      subst h
      refine ⟨?_, by omega⟩
      rw [itoa_pos' _ (by omega), show ((valFrom 0 l : Int)).natAbs = valFrom 0 l by omega, hd]

theorem parseM_val (r : List UInt8) : ∀ a, r.all isD = true → valFrom a r < 10 ^ 18 → Lib.parseUintM (2 ^ 64 - 1) a r = .ok (valFrom a r) := by
  induction r with
  | nil => intro a _ _; rfl
  | cons c r ih =>
    intro a h hv
    simp only [List.all_cons, Bool.and_eq_true] at h
    have hc := h.1
    simp [isD] at hc
    rw [val_cons] at hv ⊢
    have hg := val_ge r (10 * a + (c.toNat - 48))
    unfold Lib.parseUintM
    rw [if_pos hc, if_neg (by omega), if_neg (by omega), show a * 10 + (c.toNat - 48) = 10 * a + (c.toNat - 48) by omega]
    exact ih _ h.2 hv
theorem parse_itoa (v : Int) (h : v.natAbs < 10 ^ 18) : Lib.parseIntB 64 (Lib.itoa v) = .ok v := by
  obtain ⟨d1, d2, d3, d4⟩ := dec_digits v.natAbs
  have hp : Lib.parseUintB 64 (Lib.decDigits v.natAbs) = .ok v.natAbs := by
    unfold Lib.parseUintB
    rw [if_neg d3, parseM_val _ 0 d1 (by rw [d2]; exact h), d2]
  by_cases hv : v < 0
  · rw [itoa_neg' v hv]
    unfold Lib.parseIntB
    have e : (45 : UInt8).toNat = 43 ∨ (45 : UInt8).toNat = 45 := by decide
    simp only [if_pos e, hp]
    rw [if_neg (by simp), if_neg (by omega), if_pos (by decide)]
    congr 1; omega
  · rw [itoa_pos' v (by omega)]
    cases hc : Lib.decDigits v.natAbs with
    | nil => exact absurd hc d3
    | cons x y =>
      rw [hc] at hp d1
      have hx : isD x = true := by simp at d1; exact d1.1
      simp [isD] at hx
      unfold Lib.parseIntB
      simp only [if_neg (show ¬(x.toNat = 43 ∨ x.toNat = 45) by omega), hp]
      rw [if_neg (by omega), if_neg (by omega), if_neg (by omega)]
      congr 1; omega

/-- the program's reading -/
def readZ (l : List UInt8) : Option Int :=
  if 18 < (Lib.trimPrefix l [45]).length then none else match Lib.parseIntB 64 l with
    | .ok v => if Lib.itoa v = l then some v else none
    | _ => none
theorem trim_itoa (v : Int) : Lib.trimPrefix (Lib.itoa v) [45] = Lib.decDigits v.natAbs := by
  by_cases hv : v < 0
  · rw [itoa_neg' v hv]; simp [Lib.trimPrefix, Lib.hasPrefix]
  · rw [itoa_pos' v (by omega)]
    have := dec_head v.natAbs
    unfold Lib.trimPrefix
    rw [if_neg]
    intro h
    apply this
    cases hc : Lib.decDigits v.natAbs with
    | nil => rw [hc] at h; simp [Lib.hasPrefix] at h
    | cons x y => rw [hc] at h; simp [Lib.hasPrefix] at h; simp [h]
theorem read_num (l : List UInt8) : readZ l = numZ l := by
  cases hn : numZ l with
  | some v =>
    obtain ⟨rfl, hv⟩ := num_some l v hn
    unfold readZ
    rw [trim_itoa, if_neg (by have := (dec_len v.natAbs).2 hv; omega), parse_itoa v hv]
    simp
  | none =>
    unfold readZ
    split
    · rfl
    · rename_i ht
      split
      · rename_i v hp
        split
        · rename_i he
          subst he
          rw [trim_itoa] at ht
          rw [num_itoa v ((dec_len v.natAbs).1 (by omega))] at hn
          cases hn
        · rfl
      · rfl
end Go.Proofs.YtmbillcdlcgjiaaDoor
