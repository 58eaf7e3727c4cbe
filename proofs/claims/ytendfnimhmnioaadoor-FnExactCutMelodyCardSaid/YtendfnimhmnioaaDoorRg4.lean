/- The laws' own functions over ragas: szRaga, eqRaga, toRaga. -/
import Derived.Test.YtendfnimhmnioaaDoorRg3
namespace Go.Proofs.YtendfnimhmnioaaDoor
open Go.ChangeShapes Go.WideShapes Go.ChangeAt Go.RowKit
set_option linter.unusedVariables false
set_option linter.unusedSimpArgs false
set_option maxRecDepth 100000

/-- a block of values -/
def BoxN (w : World) (g : Nat) (xs : Array Value) (t : TypeId) : Prop := w.heap[g]? = some (.cells xs t (0, 0))
theorem BoxN.c {w : World} {g : Nat} {xs : Array Value} {t : TypeId} (h : BoxN w g xs t) {k : Nat} {v : Value} (hk : xs[k]? = some v) : w.cell? ⟨g, k, none⟩ = some v := by unfold BoxN at h; simp [World.cell?, h, hk]
theorem BoxN.fr {w : World} {g : Nat} {xs : Array Value} {t : TypeId} (h : BoxN w g xs t) (o : Nat) : w.frozen? ⟨g, o, none⟩ = false := by unfold BoxN at h; simp [World.frozen?, h]
theorem BoxN.lt {w : World} {g : Nat} {xs : Array Value} {t : TypeId} (h : BoxN w g xs t) : g < w.heap.size := by
  unfold BoxN at h
  rcases Nat.lt_or_ge g w.heap.size with h1 | h1
  · exact h1
  · rw [Array.getElem?_eq_none h1] at h; cases h
theorem BoxN.below {w w' : World} {g : Nat} {xs : Array Value} {t : TypeId} (h : BoxN w g xs t) (hb : Below w.heap.size w w') : BoxN w' g xs t := by
  have := hb.block g h.lt
  unfold BoxN at h ⊢
  rw [this, h]
theorem BoxN.alloc {w : World} {g : Nat} {xs : Array Value} {t : TypeId} (h : BoxN w g xs t) (o : Obj) : BoxN (w.alloc o) g xs t := h.below ((Below.refl _ _).alloc (Nat.le_refl _) _)
theorem BoxN.draws {w : World} {g : Nat} {xs : Array Value} {t : TypeId} (h : BoxN w g xs t) (k : Nat) : BoxN (w.drewN k) g xs t := h
theorem BoxN.at (w : World) (g : Nat) (xs : Array Value) (t : TypeId) (h : g = w.heap.size) : BoxN (w.alloc (.cells xs t)) g xs t := by subst h; exact heap_alloc_new w _
theorem BoxN.put {w : World} {g : Nat} {xs : Array Value} {t : TypeId} (h : BoxN w g xs t) (k : Nat) (u : Value) : BoxN (w.setCell ⟨g, k, none⟩ u) g (xs.setIfInBounds k u) t := heap_setCell_same w g k _ _ u h
theorem BoxN.other {w : World} {g b o : Nat} {xs : Array Value} {t : TypeId} (hg : b ≠ g) (h : BoxN w g xs t) (u : Value) : BoxN (w.setCell ⟨b, o, none⟩ u) g xs t := by
  unfold BoxN at h ⊢
  rw [Below.heap_setCell _ _ _ _ (by show g ≠ b; omega)]; exact h
theorem rg_form {w : World} {v : Value} {R : Rg} (h : RgAt w v R) : ∃ A a B b C c, v = .agg #[.string R.s, .slice A R.u.length a, .slice B R.d.length b, .int .i64 R.x, .int .i64 R.y, .slice C R.f.length c] ∧ IntsAt w (.slice A R.u.length a) R.u ∧ IntsAt w (.slice B R.d.length b) R.d ∧ RowsAt w (.slice C R.f.length c) R.f := by
  obtain ⟨u, d, f, rfl, h1, h2, h3⟩ := h
  obtain ⟨A, a, rfl⟩ := ints_form h1
  obtain ⟨B, b, rfl⟩ := ints_form h2
  obtain ⟨C, c, rfl⟩ := rows_form h3
  exact ⟨A, a, B, b, C, c, rfl, h1, h2, h3⟩
theorem quietB {w w' : World} (h : ∃ n, w' = w.drewN n) : Below w.heap.size w w' := by
  obtain ⟨n, rfl⟩ := h
  exact below_draws (Below.refl _ _) n
theorem BoxN.drop {w : World} {g : Nat} {xs : Array Value} {t : TypeId} (h : BoxN w g xs t) {W : World} (hb : Below w.heap.size w W) : BoxN W g xs t := h.below hb
end Go.Proofs.YtendfnimhmnioaaDoor
