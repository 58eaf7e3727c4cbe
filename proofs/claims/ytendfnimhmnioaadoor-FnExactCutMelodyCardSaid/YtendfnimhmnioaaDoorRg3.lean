/- The laws' own copies of slices of slices and of ragas. -/
import Derived.Test.YtendfnimhmnioaaDoorRg2
import Derived.Test.YtendfnimhmnioaaDoorLaw
namespace Go.Proofs.YtendfnimhmnioaaDoor
open Go.ChangeShapes Go.WideShapes Go.ChangeAt Go.RowKit
set_option linter.unusedVariables false
set_option linter.unusedSimpArgs false
set_option maxRecDepth 100000

theorem owndown {w : World} {b1 b2 e size n : Nat} {v : Value} {xs : List Value} (hb : b1 ≤ b2) (h : w.ownsRow b2 e size v n xs) : w.ownsRow b1 e size v n xs := by
  refine ⟨h.1, ?_⟩
  rcases h.2 with h | ⟨g, cap, cur, hv, hg, hr⟩
  · exact .inl h
  · exact .inr ⟨g, cap, cur, hv, Nat.le_trans hb hg, hr⟩
theorem ownset {w : World} {base b e size n : Nat} {v : Value} {xs : List Value} (h : w.ownsRow base e size v n xs) (hb : b < base) (o : Nat) (u : Value) : (w.setCell ⟨b, o, none⟩ u).ownsRow base e size v n xs := by
  refine ⟨h.1, ?_⟩
  rcases h.2 with h2 | ⟨g, cap, cur, hv, hg, hc, r⟩
  · exact .inl h2
  · exact .inr ⟨g, cap, cur, hv, hg, by rw [Below.heap_setCell _ _ _ _ (by show g ≠ b; omega)]; exact hc, r⟩
/-- the first j cells are rows -/
def rfil (V : Nat → Value) (n j : Nat) : List Value := (List.range n).map fun i => if i < j then V i else .slice none 0 0
theorem rfil_len (V : Nat → Value) (n j : Nat) : (rfil V n j).length = n := by simp [rfil]
theorem rfil_zero (V : Nat → Value) (n : Nat) : rfil V n 0 = List.replicate n (.slice none 0 0) := by
  apply List.ext_getElem?; intro i
  by_cases hi : i < n <;> simp [rfil, hi]
theorem rfil_all (V : Nat → Value) (n : Nat) : rfil V n n = (List.range n).map V := by
  unfold rfil; apply List.map_congr_left; intro i hi; simp at hi; simp [hi]
theorem rfil_step (V V' : Nat → Value) (n j : Nat) (u : Value) (h : j < n) (hu : V' j = u) (hv : ∀ i, i < j → V' i = V i) : (rfil V n j).set j u = rfil V' n (j + 1) := by
  apply List.ext_getElem?; intro i
  by_cases hi : i < n
  · rw [List.getElem?_set]
    by_cases hij : j = i
    · subst hij; simp [rfil, h, hu]
    · by_cases hlt : i < j
      · simp [rfil, hi, hij, hlt, hv i hlt, show i < j + 1 by omega]
      · simp [rfil, hi, hij, hlt, show ¬ i < j + 1 by omega]
  · rw [List.getElem?_eq_none (by rw [List.length_set, rfil_len]; omega), List.getElem?_eq_none (by rw [rfil_len]; omega)]
end Go.Proofs.YtendfnimhmnioaaDoor
