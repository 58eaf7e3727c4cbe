/- A block of some values: an array. -/
import Derived.Test.YtjjiibmbaggjoaaTuLaw
namespace Go.Proofs.Ytjjiibmbaggjoaa
open Go.ChangeShapes Go.WideShapes Go.ChangeAt Go.RowKit
set_option linter.unusedVariables false
set_option linter.unusedSimpArgs false
set_option maxRecDepth 100000

/-- a block that holds these values -/
def ArrAt (w : World) (g : Nat) (vs : List Value) (t : TypeId) : Prop := w.heap[g]? = some (.cells vs.toArray t (0, 0))
theorem ArrAt.cell {w : World} {g : Nat} {vs : List Value} {t : TypeId} (h : ArrAt w g vs t) (k : Nat) : w.cell? ⟨g, k, none⟩ = vs[k]? := by
  unfold ArrAt at h
  simp [World.cell?, h]
theorem ArrAt.f0 {w : World} {g : Nat} {vs : List Value} {t : TypeId} (h : ArrAt w g vs t) (o : Nat) : w.frozen? ⟨g, o, none⟩ = false := by
  unfold ArrAt at h; simp [World.frozen?, h]
theorem ArrAt.lt {w : World} {g : Nat} {vs : List Value} {t : TypeId} (h : ArrAt w g vs t) : g < w.heap.size := by
  unfold ArrAt at h
  rcases Nat.lt_or_ge g w.heap.size with h1 | h1
  · exact h1
  · rw [Array.getElem?_eq_none h1] at h; cases h
theorem ArrAt.below {w w' : World} {g : Nat} {vs : List Value} {t : TypeId} (h : ArrAt w g vs t) (hb : Below w.heap.size w w') : ArrAt w' g vs t := by
  have := hb.block g h.lt
  unfold ArrAt at h ⊢
  rw [this, h]
theorem ArrAt.alloc {w : World} {g : Nat} {vs : List Value} {t : TypeId} (h : ArrAt w g vs t) (o : Obj) : ArrAt (w.alloc o) g vs t := h.below ((Below.refl _ _).alloc (Nat.le_refl _) _)
theorem ArrAt.draws {w : World} {g : Nat} {vs : List Value} {t : TypeId} (h : ArrAt w g vs t) (k : Nat) : ArrAt (w.drewN k) g vs t := h
theorem ArrAt.at (w : World) (g : Nat) (vs : List Value) (t : TypeId) (h : g = w.heap.size) : ArrAt (w.alloc (.cells vs.toArray t)) g vs t := by subst h; exact heap_alloc_new w _
theorem ArrAt.put {w : World} {g : Nat} {vs : List Value} {t : TypeId} (h : ArrAt w g vs t) (k : Nat) (u : Value) : ArrAt (w.setCell ⟨g, k, none⟩ u) g (vs.set k u) t := by
  have := heap_setCell_same w g k _ _ u h
  unfold ArrAt
  rw [this]
  simp
theorem ArrAt.other {w : World} {g b o : Nat} {vs : List Value} {t : TypeId} (hg : b ≠ g) (h : ArrAt w g vs t) (u : Value) : ArrAt (w.setCell ⟨b, o, none⟩ u) g vs t := by
  unfold ArrAt at h ⊢
  rw [Below.heap_setCell _ _ _ _ (by show g ≠ b; omega)]; exact h
/-- an array being filled from the front -/
def arrV (f : Nat → Value) (z : Value) (n k : Nat) : List Value := (List.range n).map fun i => if i < k then f i else z
theorem arrV_set (f : Nat → Value) (z : Value) (n k : Nat) : (arrV f z n k).set k (f k) = arrV f z n (k + 1) := by
  apply List.ext_getElem?
  intro i
  unfold arrV
  by_cases hn : i < n
  · by_cases h : k = i
    · subst h; simp [hn]
    · have : i < k ↔ i < k + 1 := by omega
      simp [hn, h, this]
  · rw [List.getElem?_eq_none (by simp; omega), List.getElem?_eq_none (by simp; omega)]
theorem arrV_at (f : Nat → Value) (z : Value) (n k i : Nat) (h : i < n) : (arrV f z n k)[i]? = some (if i < k then f i else z) := by simp [arrV, h]
/-- .. being changed from the front -/
def arrM (f g : Nat → Value) (n k : Nat) : List Value := (List.range n).map fun i => if i < k then f i else g i
theorem arrM_set (f g : Nat → Value) (n k : Nat) : (arrM f g n k).set k (f k) = arrM f g n (k + 1) := by
  apply List.ext_getElem?
  intro i
  unfold arrM
  by_cases hn : i < n
  · by_cases h : k = i
    · subst h; simp [hn]
    · have : i < k ↔ i < k + 1 := by omega
      simp [hn, h, this]
  · rw [List.getElem?_eq_none (by simp; omega), List.getElem?_eq_none (by simp; omega)]
theorem arrM_at (f g : Nat → Value) (n k i : Nat) (h : i < n) : (arrM f g n k)[i]? = some (if i < k then f i else g i) := by simp [arrM, h]
theorem ArrAt.own {w : World} {g base n : Nat} {vs : List Value} {t : TypeId} (h : ArrAt w g vs t) (size : Nat) (hg : base ≤ g) (hn : vs.length = n * size) (hm : n ≤ maxLen) : w.ownsRow base t size (.slice (some ⟨g, 0, none⟩) n n) n vs :=
  ⟨hn, .inr ⟨g, n, vs.toArray, rfl, hg, h, Nat.le_refl _, hm, by simpa using hn, by simp [← hn]⟩⟩
end Go.Proofs.Ytjjiibmbaggjoaa
