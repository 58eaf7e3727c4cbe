/- The laws' own copies of slices of slices and of ragas. -/
import Derived.Test.YtendfnimhmnioaaRg2
import Derived.Test.YtendfnimhmnioaaLaw
namespace Go.Proofs.Ytendfnimhmnioaa
open Go.ChangeShapes Go.WideShapes Go.ChangeAt Go.RowKit
set_option linter.unusedVariables false
set_option linter.unusedSimpArgs false
set_option maxRecDepth 100000

theorem owndown {w : World} {b1 b2 e size n : Nat} {v : Value} {xs : List Value} (hb : b1 ≤ b2) (h : w.ownsRow b2 e size v n xs) : w.ownsRow b1 e size v n xs := by
  refine ⟨h.1, ?_⟩
  rcases h.2 with h | ⟨g, cap, cur, hv, hg, hr⟩
  · exact .inl h
  · exact .inr ⟨g, cap, cur, hv, Nat.le_trans hb hg, hr⟩
theorem ownset {w : World} {base b e size n : Nat} {v : Value} {xs : List Value} (h : w.ownsRow base e size v n xs) (hb : b < base) (o : Nat) (u : Value) : (w.setCell ⟨b, o, none⟩ u).ownsRow base e size v n xs := by
  refine ⟨h.1, ?_⟩
  rcases h.2 with h2 | ⟨g, cap, cur, hv, hg, hc, r⟩
  · exact .inl h2
  · exact .inr ⟨g, cap, cur, hv, hg, by rw [Below.heap_setCell _ _ _ _ (by show g ≠ b; omega)]; exact hc, r⟩
/-- rows of the call's own, each in its own block -/
structure RowsOwn (w : World) (base : Nat) (v : Value) (L : List (List Int)) (V : Nat → Value) : Prop where
  out : w.ownsRow base 24 1 v L.length ((List.range L.length).map V)
  row : ∀ k, k < L.length → w.ownsRow base 2 1 (V k) (L.getD k []).length (ints (L.getD k []))
  top : ∀ k, k < L.length → ∀ g, (V k).ownBlock = some g → v.ownBlock ≠ some g
  two : ∀ j k, j < k → k < L.length → ∀ g, (V j).ownBlock = some g → (V k).ownBlock ≠ some g
theorem RowsOwn.below {w w' : World} {base : Nat} {v : Value} {L : List (List Int)} {V : Nat → Value} (h : RowsOwn w base v L V) (hb : Below w.heap.size w w') : RowsOwn w' base v L V :=
  ⟨own_below h.out hb, fun k hk => own_below (h.row k hk) hb, h.top, h.two⟩
theorem RowsOwn.down {w : World} {b1 b2 : Nat} {v : Value} {L : List (List Int)} {V : Nat → Value} (hb : b1 ≤ b2) (h : RowsOwn w b2 v L V) : RowsOwn w b1 v L V :=
  ⟨owndown hb h.out, fun k hk => owndown hb (h.row k hk), h.top, h.two⟩
theorem RowsOwn.set {w : World} {base b : Nat} {v : Value} {L : List (List Int)} {V : Nat → Value} (h : RowsOwn w base v L V) (hb : b < base) (o : Nat) (u : Value) : RowsOwn (w.setCell ⟨b, o, none⟩ u) base v L V := by
  have key : ∀ {e size n : Nat} {v : Value} {xs : List Value}, w.ownsRow base e size v n xs → (w.setCell ⟨b, o, none⟩ u).ownsRow base e size v n xs := fun h => by
    refine ⟨h.1, ?_⟩
    rcases h.2 with h2 | ⟨g, cap, cur, hv, hg, hc, r⟩
    · exact .inl h2
    · exact .inr ⟨g, cap, cur, hv, hg, by rw [Below.heap_setCell _ _ _ _ (by show g ≠ b; omega)]; exact hc, r⟩
  exact ⟨key h.out, fun k hk => key (h.row k hk), h.top, h.two⟩
theorem RowsOwn.at {w : World} {base : Nat} {v : Value} {L : List (List Int)} {V : Nat → Value} (h : RowsOwn w base v L V) : RowsAt w v L := by
  rcases Nat.eq_zero_or_pos L.length with h0 | h0
  · refine .inl ⟨List.eq_nil_of_length_eq_zero h0, ?_⟩
    rcases h.out.2 with ⟨hv, _⟩ | ⟨g, cap, cur, hv, _⟩
    · exact ⟨none, 0, hv⟩
    · exact ⟨some ⟨g, 0, none⟩, cap, by rw [hv, h0]⟩
  · obtain ⟨g, cap, rfl, _, hlt⟩ := h.out.form h0
    refine .inr ⟨g, 0, cap, rfl, hlt, fun k hk => ⟨V k, ?_, (h.row k hk).1 |> fun _ => IntsAt.own (h.row k hk)⟩⟩
    rw [Nat.zero_add, h.out.cellAt k (by omega)]
    simp [hk]
theorem infoRow : (Try.prog.info? 24).map (fun i => (i.zero, i.size, i.bytes)) = some (some (.slice none 0 0), 1, 24) := by kernel_rfl
/-- the first j cells are rows -/
def rfil (V : Nat → Value) (n j : Nat) : List Value := (List.range n).map fun i => if i < j then V i else .slice none 0 0
theorem rfil_len (V : Nat → Value) (n j : Nat) : (rfil V n j).length = n := by simp [rfil]
theorem rfil_zero (V : Nat → Value) (n : Nat) : rfil V n 0 = List.replicate n (.slice none 0 0) := by
  apply List.ext_getElem?; intro i
  by_cases hi : i < n <;> simp [rfil, hi]
theorem rfil_all (V : Nat → Value) (n : Nat) : rfil V n n = (List.range n).map V := by
  unfold rfil; apply List.map_congr_left; intro i hi; simp at hi; simp [hi]
theorem rfil_step (V V' : Nat → Value) (n j : Nat) (u : Value) (h : j < n) (hu : V' j = u) (hv : ∀ i, i < j → V' i = V i) : (rfil V n j).set j u = rfil V' n (j + 1) := by
  apply List.ext_getElem?; intro i
  by_cases hi : i < n
  · rw [List.getElem?_set]
    by_cases hij : j = i
    · subst hij; simp [rfil, h, hu]
    · by_cases hlt : i < j
      · simp [rfil, hi, hij, hlt, hv i hlt, show i < j + 1 by omega]
      · simp [rfil, hi, hij, hlt, show ¬ i < j + 1 by omega]
  · rw [List.getElem?_eq_none (by rw [List.length_set, rfil_len]; omega), List.getElem?_eq_none (by rw [rfil_len]; omega)]
/-- what the copying of rows keeps -/
structure RCopy (L : List (List Int)) (w : World) (j : Nat) (V : Nat → Value) (wr : World) : Prop where
  out : wr.ownsRow w.heap.size 24 1 (.slice (some ⟨w.heap.size, 0, none⟩) L.length L.length) L.length (rfil V L.length j)
  row : ∀ k, k < j → wr.ownsRow (w.heap.size + 1) 2 1 (V k) (L.getD k []).length (ints (L.getD k []))
  two : ∀ i k, i < k → k < j → ∀ g, (V i).ownBlock = some g → (V k).ownBlock ≠ some g
  sz : w.heap.size + 1 ≤ wr.heap.size
  bel : Below w.heap.size w wr
theorem RCopy.step {L : List (List Int)} {w : World} {j : Nat} {V : Nat → Value} {wr w1 : World} (h : RCopy L w j V wr) (hj : j < L.length) {u : Value} (ho : w1.ownsRow wr.heap.size 2 1 u (L.getD j []).length (ints (L.getD j []))) (hb : Below wr.heap.size wr w1) :
    ∃ V', RCopy L w (j + 1) V' (w1.setCell ⟨w.heap.size, j, none⟩ u) := by
  refine ⟨fun i => if i = j then u else V i, ?_, ?_, ?_, ?_, ?_⟩
  · have hs := (own_below h.out hb).stored j u
    rw [rfil_step V (fun i => if i = j then u else V i) L.length j u hj (by simp) (fun i hi => by simp; omega)] at hs
    exact hs.1
  · have key : ∀ {e size n : Nat} {v : Value} {xs : List Value}, w1.ownsRow (w.heap.size + 1) e size v n xs → (w1.setCell ⟨w.heap.size, j, none⟩ u).ownsRow (w.heap.size + 1) e size v n xs := fun h => by
      refine ⟨h.1, ?_⟩
      rcases h.2 with h2 | ⟨g, cap, cur, hv, hg, hc, r⟩
      · exact .inl h2
      · exact .inr ⟨g, cap, cur, hv, hg, by rw [Below.heap_setCell _ _ _ _ (by show g ≠ w.heap.size; omega)]; exact hc, r⟩
    intro k hk
    by_cases hkj : k = j
    · subst hkj
      simp only [if_true]
      exact key (owndown h.sz ho)
    · simp only [if_neg hkj]
      exact key (own_below (h.row k (by omega)) hb)
  · intro i k hik hk g hg
    by_cases hkj : k = j
    · subst hkj
      have hi : ¬ i = k := by omega
      simp only [if_neg hi, if_true] at hg ⊢
      have h1 := own_hi (h.row i hik) g hg
      intro h2
      have := own_lo ho g h2
      omega
    · have hi : ¬ i = j := by omega
      simp only [if_neg hi, if_neg hkj] at hg ⊢
      exact h.two i k hik (by omega) g hg
  · rw [show (w1.setCell ⟨w.heap.size, j, none⟩ u).heap.size = w1.heap.size by simp]
    exact Nat.le_trans h.sz hb.size
  · exact (h.bel.trans (hb.mono h.bel.size)).setCell (Nat.le_refl _) _
end Go.Proofs.Ytendfnimhmnioaa
