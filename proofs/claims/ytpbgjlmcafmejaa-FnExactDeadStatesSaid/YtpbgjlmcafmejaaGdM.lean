/- Dead states: plain facts. -/
import Derived.Test.YtpbgjlmcafmejaaGcM
namespace Go.Proofs.Ytpbgjlmcafmejaa
open Go.ChangeShapes Go.WideShapes Go.ChangeAt Go.RowKit
set_option linter.unusedVariables false
set_option linter.unusedSimpArgs false
set_option maxRecDepth 100000

/-- from s a state of fs is reached by at most k arcs -/
def rB (fs : List Int) (l : List (Int × Int × Int)) : Nat → Nat → Bool
  | 0, s => hasB fs (s : Int)
  | k + 1, s => rB fs l k s || l.any (fun t => t.1.toNat == s && rB fs l k t.2.2.toNat)
theorem rB_up {fs : List Int} {l : List (Int × Int × Int)} {k s : Nat} (h : rB fs l k s = true) : rB fs l (k + 1) s = true := by
  show (rB fs l k s || _) = true
  rw [h]; rfl
theorem rB_le {fs : List Int} {l : List (Int × Int × Int)} {k j s : Nat} (hkj : k ≤ j) (h : rB fs l k s = true) : rB fs l j s = true := by
  induction j with
  | zero => obtain rfl : k = 0 := by omega
            exact h
  | succ j ih =>
    by_cases e : k = j + 1
    · subst e; exact h
    · exact rB_up (ih (by omega))
theorem rB_arc {fs : List Int} {l : List (Int × Int × Int)} {k : Nat} {t : Int × Int × Int} (ht : t ∈ l) (h : rB fs l k t.2.2.toNat = true) : rB fs l (k + 1) t.1.toNat = true := by
  show (rB fs l k t.1.toNat || l.any (fun u => u.1.toNat == t.1.toNat && rB fs l k u.2.2.toNat)) = true
  have : l.any (fun u => u.1.toNat == t.1.toNat && rB fs l k u.2.2.toNat) = true := List.any_eq_true.2 ⟨t, ht, by simp [h]⟩
  rw [this, Bool.or_true]
theorem rB_cases {fs : List Int} {l : List (Int × Int × Int)} {k s : Nat} (h : rB fs l (k + 1) s = true) : rB fs l k s = true ∨ ∃ t ∈ l, t.1.toNat = s ∧ rB fs l k t.2.2.toNat = true := by
  have h' : (rB fs l k s || l.any (fun u => u.1.toNat == s && rB fs l k u.2.2.toNat)) = true := h
  rcases Bool.or_eq_true _ _ ▸ h' with h1 | h1
  · exact .inl h1
  · obtain ⟨t, ht, h2⟩ := List.any_eq_true.1 h1
    simp only [Bool.and_eq_true, beq_iff_eq] at h2
    exact .inr ⟨t, ht, h2.1, h2.2⟩
theorem count_eq {p q : Nat → Bool} : ∀ (L : List Nat), (∀ x ∈ L, p x = true → q x = true) → L.countP p = L.countP q → ∀ x ∈ L, q x = true → p x = true
  | [], _, _, x, hx, _ => by cases hx
  | a :: L, hpq, he, x, hx, hq => by
    have hle : L.countP p ≤ L.countP q := List.countP_mono_left (fun x hx h => hpq x (by simp [hx]) h)
    rw [List.countP_cons, List.countP_cons] at he
    cases hpa : p a with
    | true =>
      have hqa := hpq a (by simp) hpa
      rw [hpa, hqa] at he
      simp at he
      rcases List.mem_cons.1 hx with rfl | hx
      · exact hpa
      · exact count_eq L (fun x hx h => hpq x (by simp [hx]) h) he x hx hq
    | false =>
      cases hqa : q a with
      | true => rw [hpa, hqa] at he; simp at he; omega
      | false =>
        rw [hpa, hqa] at he
        simp at he
        rcases List.mem_cons.1 hx with rfl | hx
        · rw [hqa] at hq; cases hq
        · exact count_eq L (fun x hx h => hpq x (by simp [hx]) h) he x hx hq
/-- n states: what is reached at all is reached by n - 1 arcs -/
theorem rB_bound {fs : List Int} {l : List (Int × Int × Int)} {n : Nat} (hn : 1 ≤ n) (ht : ∀ t ∈ l, t.2.2.toNat < n) {k s : Nat} (hs : s < n) (h : rB fs l k s = true) : rB fs l (n - 1) s = true := by
  have hstab : ∀ j, (∀ x, x < n → rB fs l (j + 1) x = true → rB fs l j x = true) → ∀ i x, x < n → rB fs l (j + i) x = true → rB fs l j x = true := by
    intro j hj i
    induction i with
    | zero => intro x _ hx; exact hx
    | succ i ih =>
      intro x hx h1
      rcases rB_cases h1 with h2 | ⟨t, htl, hts, h2⟩
      · exact ih x hx h2
      · have h3 := ih _ (ht t htl) h2
        have h4 := rB_arc htl h3
        rw [hts] at h4
        exact hj x hx h4
  have hex : ∃ j, j ≤ n - 1 ∧ ∀ x, x < n → rB fs l (j + 1) x = true → rB fs l j x = true := by
    apply Classical.byContradiction
    intro hno
    have hstep : ∀ j, j ≤ n - 1 → (List.range n).countP (rB fs l j) < (List.range n).countP (rB fs l (j + 1)) := fun j hj => by
      have hle : (List.range n).countP (rB fs l j) ≤ (List.range n).countP (rB fs l (j + 1)) := List.countP_mono_left (fun x _ h => rB_up h)
      rcases Nat.lt_or_eq_of_le hle with h1 | h1
      · exact h1
      · exact absurd ⟨j, hj, fun x hx hxx => count_eq (List.range n) (fun x _ h => rB_up h) h1 x (List.mem_range.2 hx) hxx⟩ hno
    have hgrow : ∀ j, j ≤ n → j + (List.range n).countP (rB fs l 0) ≤ (List.range n).countP (rB fs l j) := by
      intro j
      induction j with
      | zero => intro _; omega
      | succ j ih =>
        intro hj
        have := ih (by omega)
        have := hstep j (by omega)
        omega
    have h1 := hgrow n (Nat.le_refl _)
    have h2 : (List.range n).countP (rB fs l n) ≤ n := by
      have := List.countP_le_length (p := rB fs l n) (l := List.range n)
      simpa using this
    have h0 : (List.range n).countP (rB fs l 0) = 0 := by omega
    have hz : ∀ x, x < n → rB fs l 0 x = false := fun x hx => by
      rw [List.countP_eq_zero] at h0
      simpa using h0 x (List.mem_range.2 hx)
    refine hno ⟨0, by omega, fun x hx h3 => ?_⟩
    rcases rB_cases h3 with h4 | ⟨t, htl, hts, h4⟩
    · exact h4
    · rw [hz _ (ht t htl)] at h4; cases h4
  obtain ⟨j, hj, hjs⟩ := hex
  rcases Nat.lt_or_ge k j with h1 | h1
  · exact rB_le (by omega) h
  · exact rB_le hj (hstab j hjs (k - j) s hs (by rw [show j + (k - j) = k by omega]; exact h))
/-! the program's distances -/
def dStep (D : Nat → Int) (t : Int × Int × Int) : Nat → Int := upd D t.1.toNat (min (D t.1.toNat) (D t.2.2.toNat + 1))
def dRound (l : List (Int × Int × Int)) (D : Nat → Int) : Nat → Int := l.foldl dStep D
def dist0 (fs : List Int) (n : Nat) : Nat → Int := fun s => if s < n ∧ hasB fs (s : Int) = false then 32 else 0
def distN (fs : List Int) (l : List (Int × Int × Int)) (n : Nat) : Nat → Nat → Int
  | 0 => dist0 fs n
  | r + 1 => dRound l (distN fs l n r)
theorem dStep_le (D : Nat → Int) (t : Int × Int × Int) (s : Nat) : dStep D t s ≤ D s := by
  unfold dStep upd
  split
  · rename_i h; subst h; omega
  · omega
theorem dRound_le (l : List (Int × Int × Int)) : ∀ (D : Nat → Int) (s : Nat), dRound l D s ≤ D s := by
  induction l with
  | nil => intro D s; exact Int.le_refl _
  | cons t l ih => intro D s; exact Int.le_trans (ih (dStep D t) s) (dStep_le D t s)
theorem dRound_arc (l : List (Int × Int × Int)) : ∀ (D : Nat → Int) (t : Int × Int × Int), t ∈ l → dRound l D t.1.toNat ≤ D t.2.2.toNat + 1 := by
  induction l with
  | nil => intro D t ht; cases ht
  | cons u l ih =>
    intro D t ht
    rcases List.mem_cons.1 ht with rfl | ht
    · refine Int.le_trans (dRound_le l (dStep D t) t.1.toNat) ?_
      unfold dStep upd
      rw [if_pos rfl]
      omega
    · have h1 := ih (dStep D u) t ht
      have h2 := dStep_le D u t.2.2.toNat
      show dRound l (dStep D u) t.1.toNat ≤ _
      omega
/-- what the distances say is so -/
def DOk (fs : List Int) (l : List (Int × Int × Int)) (n : Nat) (D : Nat → Int) : Prop := ∀ s, s < n → 0 ≤ D s ∧ D s ≤ 32 ∧ (D s < 32 → rB fs l (D s).toNat s = true)
theorem dStep_ok {fs : List Int} {l : List (Int × Int × Int)} {n : Nat} {D : Nat → Int} (h : DOk fs l n D) {t : Int × Int × Int} (ht : t ∈ l) (h2 : t.2.2.toNat < n) : DOk fs l n (dStep D t) := by
  intro s hs
  unfold dStep upd
  split
  · rename_i e
    subst e
    have h1 := h _ hs
    have h3 := h _ h2
    by_cases hc : D t.2.2.toNat + 1 < D t.1.toNat
    · rw [Int.min_eq_right (by omega)]
      refine ⟨by omega, by omega, fun hlt => ?_⟩
      have := rB_arc ht (h3.2.2 (by omega))
      rwa [show (D t.2.2.toNat + 1).toNat = (D t.2.2.toNat).toNat + 1 by omega]
    · rw [Int.min_eq_left (by omega)]
      exact h1
  · exact h s hs
theorem dFold_ok {fs : List Int} {l : List (Int × Int × Int)} {n : Nat} (ht : ∀ t ∈ l, t.2.2.toNat < n) : ∀ (m : List (Int × Int × Int)) (D : Nat → Int), (∀ t ∈ m, t ∈ l) → DOk fs l n D → DOk fs l n (m.foldl dStep D)
  | [], D, _, h => h
  | t :: m, D, hm, h => dFold_ok ht m (dStep D t) (fun u hu => hm u (by simp [hu])) (dStep_ok h (hm t (by simp)) (ht t (hm t (by simp))))
theorem dist0_ok (fs : List Int) (l : List (Int × Int × Int)) (n : Nat) : DOk fs l n (dist0 fs n) := by
  intro s hs
  unfold dist0
  split
  · exact ⟨by decide, by decide, fun h => by omega⟩
  · rename_i h
    refine ⟨by decide, by decide, fun _ => ?_⟩
    show hasB fs (s : Int) = true
    cases hh : hasB fs (s : Int) with
    | true => rfl
    | false => exact absurd ⟨hs, hh⟩ h
theorem distN_ok {fs : List Int} {l : List (Int × Int × Int)} {n : Nat} (ht : ∀ t ∈ l, t.2.2.toNat < n) : ∀ r, DOk fs l n (distN fs l n r)
  | 0 => dist0_ok fs l n
  | r + 1 => dFold_ok ht l _ (fun _ h => h) (distN_ok ht r)
theorem distN_reach {fs : List Int} {l : List (Int × Int × Int)} {n : Nat} (ht : ∀ t ∈ l, t.2.2.toNat < n) : ∀ r s, s < n → rB fs l r s = true → distN fs l n r s ≤ r
  | 0, s, hs, h => by
    show dist0 fs n s ≤ 0
    unfold dist0
    rw [if_neg (fun hh => by have h' : hasB fs (s : Int) = true := h; rw [hh.2] at h'; cases h')]
    decide
  | r + 1, s, hs, h => by
    rcases rB_cases h with h1 | ⟨t, htl, hts, h1⟩
    · have h2 := distN_reach ht r s hs h1
      have h3 := dRound_le l (distN fs l n r) s
      show dRound l (distN fs l n r) s ≤ _
      omega
    · have h2 := distN_reach ht r _ (ht t htl) h1
      have h3 := dRound_arc l (distN fs l n r) t htl
      rw [hts] at h3
      show dRound l (distN fs l n r) s ≤ _
      omega
/-! the model's living states -/
def aStep (A : Nat → Bool) (t : Int × Int × Int) : Nat → Bool := fun s => if A t.2.2.toNat = true then (if s = t.1.toNat then true else A s) else A s
def aRound (l : List (Int × Int × Int)) (A : Nat → Bool) : Nat → Bool := l.foldl aStep A
def aliveN (fs : List Int) (l : List (Int × Int × Int)) : Nat → Nat → Bool
  | 0 => fun s => hasB fs (s : Int)
  | r + 1 => aRound l (aliveN fs l r)
theorem aStep_up {A : Nat → Bool} (t : Int × Int × Int) {s : Nat} (h : A s = true) : aStep A t s = true := by
  unfold aStep
  split
  · split
    · rfl
    · exact h
  · exact h
theorem aRound_up (l : List (Int × Int × Int)) : ∀ (A : Nat → Bool) (s : Nat), A s = true → aRound l A s = true := by
  induction l with
  | nil => intro A s h; exact h
  | cons t l ih => intro A s h; exact ih (aStep A t) s (aStep_up t h)
theorem aRound_arc (l : List (Int × Int × Int)) : ∀ (A : Nat → Bool) (t : Int × Int × Int), t ∈ l → A t.2.2.toNat = true → aRound l A t.1.toNat = true := by
  induction l with
  | nil => intro A t ht; cases ht
  | cons u l ih =>
    intro A t ht h
    rcases List.mem_cons.1 ht with rfl | ht
    · refine aRound_up l (aStep A t) _ ?_
      unfold aStep
      rw [if_pos h, if_pos rfl]
    · exact ih (aStep A u) t ht (aStep_up u h)
def AOk (fs : List Int) (l : List (Int × Int × Int)) (A : Nat → Bool) : Prop := ∀ s, A s = true → ∃ k, rB fs l k s = true
theorem aStep_ok {fs : List Int} {l : List (Int × Int × Int)} {A : Nat → Bool} (h : AOk fs l A) {t : Int × Int × Int} (ht : t ∈ l) : AOk fs l (aStep A t) := by
  intro s hs
  unfold aStep at hs
  split at hs
  · rename_i h1
    split at hs
    · rename_i h2
      subst h2
      obtain ⟨k, hk⟩ := h _ h1
      exact ⟨k + 1, rB_arc ht hk⟩
    · exact h s hs
  · exact h s hs
theorem aFold_ok {fs : List Int} {l : List (Int × Int × Int)} : ∀ (m : List (Int × Int × Int)) (A : Nat → Bool), (∀ t ∈ m, t ∈ l) → AOk fs l A → AOk fs l (m.foldl aStep A)
  | [], A, _, h => h
  | t :: m, A, hm, h => aFold_ok m (aStep A t) (fun u hu => hm u (by simp [hu])) (aStep_ok h (hm t (by simp)))
theorem aliveN_ok (fs : List Int) (l : List (Int × Int × Int)) : ∀ r, AOk fs l (aliveN fs l r)
  | 0 => fun s h => ⟨0, h⟩
  | r + 1 => aFold_ok l _ (fun _ h => h) (aliveN_ok fs l r)
theorem aliveN_reach (fs : List Int) (l : List (Int × Int × Int)) : ∀ r s, rB fs l r s = true → aliveN fs l r s = true
  | 0, s, h => h
  | r + 1, s, h => by
    rcases rB_cases h with h1 | ⟨t, htl, hts, h1⟩
    · exact aRound_up l _ _ (aliveN_reach fs l r s h1)
    · have := aRound_arc l _ t htl (aliveN_reach fs l r _ h1)
      rw [hts] at this
      exact this
/-- both say the same -/
theorem dead_same {fs : List Int} {l : List (Int × Int × Int)} {n : Nat} (h1 : 1 ≤ n) (h32 : n ≤ 32) (ht : ∀ t ∈ l, t.2.2.toNat < n) {s : Nat} (hs : s < n) : decide (distN fs l n n s = 32) = !aliveN fs l n s := by
  have hd := distN_ok (fs := fs) ht n s hs
  cases ha : aliveN fs l n s with
  | true =>
    obtain ⟨k, hk⟩ := aliveN_ok fs l n s ha
    have h2 := rB_bound h1 ht hs hk
    have h3 := distN_reach ht n s hs (rB_le (by omega) h2)
    have h4 := distN_reach ht (n - 1) s hs h2
    have h5 : distN fs l n n s ≤ distN fs l n (n - 1) s := by
      obtain ⟨m, rfl⟩ : ∃ m, n = m + 1 := ⟨n - 1, by omega⟩
      exact dRound_le l _ s
    exact decide_eq_false (by omega)
  | false =>
    refine decide_eq_true (Classical.byContradiction fun hne => ?_)
    have h2 := hd.2.2 (by omega)
    have h3 := aliveN_reach fs l n s (rB_le (by omega) (rB_bound h1 ht hs h2))
    rw [ha] at h3; cases h3
end Go.Proofs.Ytpbgjlmcafmejaa
