/- Ragas: plain facts. -/
import Derived.Test.YtobhmoohalkijaaRg
import Derived.Test.YtobhmoohalkijaaSc2
import Derived.Test.YtobhmoohalkijaaName
namespace Go.Proofs.Ytobhmoohalkijaa
open Go.ChangeShapes Go.WideShapes Go.ChangeAt Go.RowKit
set_option linter.unusedVariables false
set_option linter.unusedSimpArgs false
set_option maxRecDepth 100000

/-- a pair of different tones -/
def pairB (p : List Int) : Bool := decide (p.length = 2) && (inB (p.getD 0 0) 0 11 && (inB (p.getD 1 0) 0 11 && decide (p.getD 0 0 ≠ p.getD 1 0)))
/-- one pair before another -/
def lessP (p q : List Int) : Bool := decide (p.getD 0 0 < q.getD 0 0 ∨ (p.getD 0 0 = q.getD 0 0 ∧ p.getD 1 0 < q.getD 1 0))
def stepB (L : List (List Int)) (i : Nat) : Bool := pairB (L.getD i []) && (decide (i = 0) || lessP (L.getD (i - 1) []) (L.getD i []))
def pairsB (L : List (List Int)) : Bool := decide (L.length ≤ 8) && (List.range L.length).all (stepB L)
theorem pairs_no {L : List (List Int)} (i : Nat) (h : i < L.length) (hs : stepB L i = false) : pairsB L = false := by
  unfold pairsB
  rw [Bool.and_eq_false_iff]
  refine .inr ?_
  rw [List.all_eq_false]
  exact ⟨i, by simpa using h, by simp [hs]⟩
theorem pairs_all {L : List (List Int)} (h : ∀ i, i < L.length → stepB L i = true) : pairsB L = decide (L.length ≤ 8) := by
  unfold pairsB
  rw [show (List.range L.length).all (stepB L) = true by rw [List.all_eq_true]; intro i hi; exact h i (by simpa using hi), Bool.and_true]
theorem pairs_long {L : List (List Int)} (h : 8 < L.length) : pairsB L = false := by
  unfold pairsB
  rw [decide_eq_false (by omega), Bool.false_and]
theorem pair_yes {p : List Int} (h : pairB p = true) : ∃ a b, p = [a, b] ∧ (0 ≤ a ∧ a ≤ 11) ∧ (0 ≤ b ∧ b ≤ 11) ∧ a ≠ b := by
  unfold pairB at h
  simp only [Bool.and_eq_true, decide_eq_true_eq] at h
  obtain ⟨h1, h2, h3, h4⟩ := h
  match p, h1 with
  | [a, b], _ => exact ⟨a, b, rfl, by simpa using inB_yes h2, by simpa using inB_yes h3, by simpa using h4⟩
theorem pairs_yes {L : List (List Int)} (h : pairsB L = true) : L.length ≤ 8 ∧ ∀ i, i < L.length → stepB L i = true := by
  unfold pairsB at h
  simp only [Bool.and_eq_true, decide_eq_true_eq, List.all_eq_true] at h
  exact ⟨h.1, fun i hi => h.2 i (by simpa using hi)⟩
theorem pairs_at {L : List (List Int)} (h : pairsB L = true) (i : Nat) (hi : i < L.length) : ∃ a b, L.getD i [] = [a, b] ∧ (0 ≤ a ∧ a ≤ 11) ∧ (0 ≤ b ∧ b ≤ 11) ∧ a ≠ b := by
  have := (pairs_yes h).2 i hi
  unfold stepB at this
  rw [Bool.and_eq_true] at this
  exact pair_yes this.1
/-- a tone of a raga -/
def hasT (R : Rg) (t : Int) : Bool := hasB R.u t || hasB R.d t
def okG (R : Rg) : Bool := nmB R.s.data.toList && (scaleB R.u && (scaleB R.d && (hasT R R.x && (hasT R R.y && (decide (R.x ≠ R.y) && pairsB R.f)))))
structure OkG (R : Rg) : Prop where
  n : nmB R.s.data.toList = true
  u : scaleB R.u = true
  d : scaleB R.d = true
  x : hasT R R.x = true
  y : hasT R R.y = true
  ne : R.x ≠ R.y
  f : pairsB R.f = true
theorem ok_yes {R : Rg} (h : okG R = true) : OkG R := by
  unfold okG at h
  simp only [Bool.and_eq_true, decide_eq_true_eq] at h
  exact ⟨h.1, h.2.1, h.2.2.1, h.2.2.2.1, h.2.2.2.2.1, h.2.2.2.2.2.1, h.2.2.2.2.2.2⟩
theorem has_scale {zs : List Int} {t : Int} (hs : scaleB zs = true) (h : hasB zs t = true) : 0 ≤ t ∧ t ≤ 11 := by
  unfold hasB at h
  have h0 : 0 ≤ idxZ zs t := by simpa using h
  obtain ⟨k, hk, he⟩ : ∃ k, k < zs.length ∧ zs.getD k 0 = t := by
    apply Classical.byContradiction
    intro hn
    have : ∀ i, i < zs.length → zs.getD i 0 ≠ t := fun i hi he => hn ⟨i, hi, he⟩
    rw [idx_miss this] at h0
    omega
  rw [← he]
  exact scale_in hs k hk
theorem hast_rng {R : Rg} (h : OkG R) {t : Int} (ht : hasT R t = true) : 0 ≤ t ∧ t ≤ 11 := by
  unfold hasT at ht
  rw [Bool.or_eq_true] at ht
  rcases ht with h1 | h1
  · exact has_scale h.u h1
  · exact has_scale h.d h1
end Go.Proofs.Ytobhmoohalkijaa
