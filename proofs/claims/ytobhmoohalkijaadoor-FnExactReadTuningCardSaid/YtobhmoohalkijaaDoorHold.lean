/- What a law's own cells keep behind calls that only make memory: a list of cells at once. -/
import Derived.Test.YtobhmoohalkijaaDoorKit
namespace Go.Proofs.YtobhmoohalkijaaDoor
open Go.ChangeShapes Go.WideShapes Go.ChangeAt Go.RowKit
set_option linter.unusedVariables false
set_option linter.unusedSimpArgs false
set_option maxRecDepth 100000

/-- the cells of a list hold what they held, and nothing that was in w has changed -/
def Holds (w : World) (L : List (Nat × Nat × Value)) (W : World) : Prop := (∀ p ∈ L, W.cell? ⟨p.1, p.2.1, none⟩ = some p.2.2 ∧ p.1 < W.heap.size) ∧ Below w.heap.size w W
theorem Holds.start (w : World) : Holds w [] w := ⟨fun _ h => (by cases h), Below.refl _ _⟩
theorem Holds.below {w W W' : World} {L : List (Nat × Nat × Value)} (h : Holds w L W) (hb : Below W.heap.size W W') : Holds w L W' :=
  ⟨fun p hp => ⟨(hb.cell (p := ⟨p.1, p.2.1, none⟩) (h.1 p hp).2).trans (h.1 p hp).1, Nat.lt_of_lt_of_le (h.1 p hp).2 hb.size⟩, h.2.trans (hb.mono h.2.size)⟩
theorem Holds.draws {w W : World} {L : List (Nat × Nat × Value)} (h : Holds w L W) (n : Nat) : Holds w L (W.drewN n) := h.below (below_draws (Below.refl _ _) n)
theorem Holds.alloc {w W : World} {L : List (Nat × Nat × Value)} (h : Holds w L W) (o : Obj) : Holds w L (W.alloc o) := h.below ((Below.refl _ _).alloc (Nat.le_refl _) _)
theorem Holds.add {w W : World} {L : List (Nat × Nat × Value)} {g k : Nat} {v : Value} (h : Holds w L W) (hc : W.cell? ⟨g, k, none⟩ = some v) : Holds w ((g, k, v) :: L) W := by
  refine ⟨fun p hp => ?_, h.2⟩
  rcases List.mem_cons.1 hp with rfl | hp
  · refine ⟨hc, ?_⟩
    rcases Nat.lt_or_ge g W.heap.size with h1 | h1
    · exact h1
    · simp [World.cell?, Array.getElem?_eq_none h1] at hc
  · exact h.1 p hp
theorem Holds.get {w W : World} {L : List (Nat × Nat × Value)} (h : Holds w L W) {g k : Nat} {v : Value} (hp : (g, k, v) ∈ L) : W.cell? ⟨g, k, none⟩ = some v := (h.1 _ hp).1
theorem Holds.lt {w W : World} {L : List (Nat × Nat × Value)} (h : Holds w L W) {g k : Nat} {v : Value} (hp : (g, k, v) ∈ L) : g < W.heap.size := (h.1 _ hp).2
theorem cell_heap {W : World} {g : Nat} {cs : Array Value} {t : TypeId} {fz : Nat × Nat} (h : W.heap[g]? = some (.cells cs t fz)) (k : Nat) : W.cell? ⟨g, k, none⟩ = cs[k]? := by
  simp [World.cell?, h]
/-- a new block of two cells -/
theorem Holds.pair {w W : World} {L : List (Nat × Nat × Value)} (h : Holds w L W) (x y : Value) (t : TypeId) (fz : Nat × Nat) : Holds w ((W.heap.size, 1, y) :: (W.heap.size, 0, x) :: L) (W.alloc (.cells #[x, y] t fz)) := by
  have e : (W.alloc (.cells #[x, y] t fz)).heap[W.heap.size]? = some (.cells #[x, y] t fz) := heap_alloc_new W _
  exact ((h.alloc _).add (g := W.heap.size) (k := 0) (v := x) ((cell_heap e _).trans rfl)).add (g := W.heap.size) (k := 1) (v := y) ((cell_heap e _).trans rfl)
end Go.Proofs.YtobhmoohalkijaaDoor
