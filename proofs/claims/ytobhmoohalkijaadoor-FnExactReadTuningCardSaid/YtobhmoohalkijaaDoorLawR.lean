/- Small words for the laws of chapter 2: what a law's own boxes keep behind a call. -/
import Derived.Test.YtobhmoohalkijaaDoorRatE
import Derived.Deep.RegionHeld3
import Derived.Deep.CutRange
import Derived.Lib.SmallJoins
namespace Go.Proofs.YtobhmoohalkijaaDoor
open Go.ChangeShapes Go.WideShapes Go.ChangeAt Go.RowKit
set_option linter.unusedVariables false
set_option linter.unusedSimpArgs false
set_option maxRecDepth 100000

theorem keep2 {w W W' : World} {n d m e : Value} (h : W.cell? ⟨w.heap.size, 0, none⟩ = some n ∧ W.cell? ⟨w.heap.size, 1, none⟩ = some d ∧ W.cell? ⟨w.heap.size + 1, 0, none⟩ = some m ∧ W.cell? ⟨w.heap.size + 1, 1, none⟩ = some e ∧ w.heap.size + 2 ≤ W.heap.size ∧ Below w.heap.size w W) (hb : Below W.heap.size W W') :
    W'.cell? ⟨w.heap.size, 0, none⟩ = some n ∧ W'.cell? ⟨w.heap.size, 1, none⟩ = some d ∧ W'.cell? ⟨w.heap.size + 1, 0, none⟩ = some m ∧ W'.cell? ⟨w.heap.size + 1, 1, none⟩ = some e ∧ w.heap.size + 2 ≤ W'.heap.size ∧ Below w.heap.size w W' := by
  obtain ⟨h1, h2, h3, h4, h5, h6⟩ := h
  have hs := hb.size
  exact ⟨(hb.cell (p := ⟨w.heap.size, 0, none⟩) (by show w.heap.size < _; omega)).trans h1, (hb.cell (p := ⟨w.heap.size, 1, none⟩) (by show w.heap.size < _; omega)).trans h2, (hb.cell (p := ⟨w.heap.size + 1, 0, none⟩) (by show w.heap.size + 1 < _; omega)).trans h3,
    (hb.cell (p := ⟨w.heap.size + 1, 1, none⟩) (by show w.heap.size + 1 < _; omega)).trans h4, by omega, h6.trans (hb.mono h6.size)⟩
theorem keep2sz {w W : World} {n d m e : Value} (h : W.cell? ⟨w.heap.size, 0, none⟩ = some n ∧ W.cell? ⟨w.heap.size, 1, none⟩ = some d ∧ W.cell? ⟨w.heap.size + 1, 0, none⟩ = some m ∧ W.cell? ⟨w.heap.size + 1, 1, none⟩ = some e ∧ w.heap.size + 2 ≤ W.heap.size ∧ Below w.heap.size w W) : w.heap.size + 2 ≤ W.heap.size := h.2.2.2.2.1
theorem keep2ss {w W : World} {b o o' : Nat} {n d m e u u' : Value} (h : W.cell? ⟨w.heap.size, 0, none⟩ = some n ∧ W.cell? ⟨w.heap.size, 1, none⟩ = some d ∧ W.cell? ⟨w.heap.size + 1, 0, none⟩ = some m ∧ W.cell? ⟨w.heap.size + 1, 1, none⟩ = some e ∧ w.heap.size + 2 ≤ W.heap.size ∧ Below w.heap.size w W) (hb : w.heap.size + 2 ≤ b) :
    ((W.setCell ⟨b, o, none⟩ u).setCell ⟨b, o', none⟩ u').cell? ⟨w.heap.size, 0, none⟩ = some n ∧ ((W.setCell ⟨b, o, none⟩ u).setCell ⟨b, o', none⟩ u').cell? ⟨w.heap.size, 1, none⟩ = some d ∧ ((W.setCell ⟨b, o, none⟩ u).setCell ⟨b, o', none⟩ u').cell? ⟨w.heap.size + 1, 0, none⟩ = some m ∧ ((W.setCell ⟨b, o, none⟩ u).setCell ⟨b, o', none⟩ u').cell? ⟨w.heap.size + 1, 1, none⟩ = some e ∧ w.heap.size + 2 ≤ ((W.setCell ⟨b, o, none⟩ u).setCell ⟨b, o', none⟩ u').heap.size ∧ Below w.heap.size w ((W.setCell ⟨b, o, none⟩ u).setCell ⟨b, o', none⟩ u') := by
  obtain ⟨h1, h2, h3, h4, h5, h6⟩ := h
  have k : ∀ c p, c < w.heap.size + 2 → ((W.setCell ⟨b, o, none⟩ u).setCell ⟨b, o', none⟩ u').cell? ⟨c, p, none⟩ = W.cell? ⟨c, p, none⟩ := fun c p hc => by
    rw [World.cell?_setCell_other _ _ _ _ (by intro e; injection e with e1; omega), World.cell?_setCell_other _ _ _ _ (by intro e; injection e with e1; omega)]
  exact ⟨(k _ _ (by omega)).trans h1, (k _ _ (by omega)).trans h2, (k _ _ (by omega)).trans h3, (k _ _ (by omega)).trans h4, by simpa [World.setCell] using h5, (h6.setCell (by show w.heap.size ≤ b; omega) _).setCell (by show w.heap.size ≤ b; omega) _⟩
theorem keep3 {w W W' : World} {g : Nat} {n d m e x y : Value} (h : W.cell? ⟨g, 0, none⟩ = some x ∧ W.cell? ⟨g, 1, none⟩ = some y ∧ g < W.heap.size ∧ W.cell? ⟨w.heap.size, 0, none⟩ = some n ∧ W.cell? ⟨w.heap.size, 1, none⟩ = some d ∧ W.cell? ⟨w.heap.size + 1, 0, none⟩ = some m ∧ W.cell? ⟨w.heap.size + 1, 1, none⟩ = some e ∧ w.heap.size + 2 ≤ W.heap.size ∧ Below w.heap.size w W) (hb : Below W.heap.size W W') :
    W'.cell? ⟨g, 0, none⟩ = some x ∧ W'.cell? ⟨g, 1, none⟩ = some y ∧ g < W'.heap.size ∧ W'.cell? ⟨w.heap.size, 0, none⟩ = some n ∧ W'.cell? ⟨w.heap.size, 1, none⟩ = some d ∧ W'.cell? ⟨w.heap.size + 1, 0, none⟩ = some m ∧ W'.cell? ⟨w.heap.size + 1, 1, none⟩ = some e ∧ w.heap.size + 2 ≤ W'.heap.size ∧ Below w.heap.size w W' := by
  obtain ⟨h1, h2, h3, h4⟩ := h
  have hs := hb.size
  exact ⟨(hb.cell (p := ⟨g, 0, none⟩) h3).trans h1, (hb.cell (p := ⟨g, 1, none⟩) h3).trans h2, Nat.lt_of_lt_of_le h3 hs, keep2 h4 hb⟩
theorem keep3sz {w W : World} {g : Nat} {n d m e x y : Value} (h : W.cell? ⟨g, 0, none⟩ = some x ∧ W.cell? ⟨g, 1, none⟩ = some y ∧ g < W.heap.size ∧ W.cell? ⟨w.heap.size, 0, none⟩ = some n ∧ W.cell? ⟨w.heap.size, 1, none⟩ = some d ∧ W.cell? ⟨w.heap.size + 1, 0, none⟩ = some m ∧ W.cell? ⟨w.heap.size + 1, 1, none⟩ = some e ∧ w.heap.size + 2 ≤ W.heap.size ∧ Below w.heap.size w W) : g < W.heap.size ∧ w.heap.size + 2 ≤ W.heap.size := ⟨h.2.2.1, keep2sz h.2.2.2⟩
theorem keep3ss {w W : World} {g b o o' : Nat} {n d m e x y u u' : Value} (h : W.cell? ⟨g, 0, none⟩ = some x ∧ W.cell? ⟨g, 1, none⟩ = some y ∧ g < W.heap.size ∧ W.cell? ⟨w.heap.size, 0, none⟩ = some n ∧ W.cell? ⟨w.heap.size, 1, none⟩ = some d ∧ W.cell? ⟨w.heap.size + 1, 0, none⟩ = some m ∧ W.cell? ⟨w.heap.size + 1, 1, none⟩ = some e ∧ w.heap.size + 2 ≤ W.heap.size ∧ Below w.heap.size w W) (hb : g < b ∧ w.heap.size + 2 ≤ b) :
    ((W.setCell ⟨b, o, none⟩ u).setCell ⟨b, o', none⟩ u').cell? ⟨g, 0, none⟩ = some x ∧ ((W.setCell ⟨b, o, none⟩ u).setCell ⟨b, o', none⟩ u').cell? ⟨g, 1, none⟩ = some y ∧ g < ((W.setCell ⟨b, o, none⟩ u).setCell ⟨b, o', none⟩ u').heap.size ∧ ((W.setCell ⟨b, o, none⟩ u).setCell ⟨b, o', none⟩ u').cell? ⟨w.heap.size, 0, none⟩ = some n ∧ ((W.setCell ⟨b, o, none⟩ u).setCell ⟨b, o', none⟩ u').cell? ⟨w.heap.size, 1, none⟩ = some d ∧ ((W.setCell ⟨b, o, none⟩ u).setCell ⟨b, o', none⟩ u').cell? ⟨w.heap.size + 1, 0, none⟩ = some m ∧ ((W.setCell ⟨b, o, none⟩ u).setCell ⟨b, o', none⟩ u').cell? ⟨w.heap.size + 1, 1, none⟩ = some e ∧ w.heap.size + 2 ≤ ((W.setCell ⟨b, o, none⟩ u).setCell ⟨b, o', none⟩ u').heap.size ∧ Below w.heap.size w ((W.setCell ⟨b, o, none⟩ u).setCell ⟨b, o', none⟩ u') := by
  obtain ⟨h1, h2, h3, h4⟩ := h
  have k : ∀ c p, c < b → ((W.setCell ⟨b, o, none⟩ u).setCell ⟨b, o', none⟩ u').cell? ⟨c, p, none⟩ = W.cell? ⟨c, p, none⟩ := fun c p hc => by
    rw [World.cell?_setCell_other _ _ _ _ (by intro e; injection e with e1; omega), World.cell?_setCell_other _ _ _ _ (by intro e; injection e with e1; omega)]
  exact ⟨(k _ _ hb.1).trans h1, (k _ _ hb.1).trans h2, by simpa [World.setCell] using h3, keep2ss h4 hb.2⟩
theorem put_cells {W : World} {b : Nat} {x y : Value} (h0 : W.cell? ⟨b, 0, none⟩ = some (.int .i64 0)) (h1 : W.cell? ⟨b, 1, none⟩ = some (.int .i64 0)) :
    ((W.setCell ⟨b, 0, none⟩ x).setCell ⟨b, 1, none⟩ y).cell? ⟨b, 0, none⟩ = some x ∧ ((W.setCell ⟨b, 0, none⟩ x).setCell ⟨b, 1, none⟩ y).cell? ⟨b, 1, none⟩ = some y := by
  have a := World.cell?_setCell_other W ⟨b, 0, none⟩ ⟨b, 1, none⟩ x (by intro e; injection e with e1 e2; cases e2)
  refine ⟨?_, World.cell?_setCell_same _ _ _ (a.trans h1)⟩
  rw [World.cell?_setCell_other _ ⟨b, 1, none⟩ ⟨b, 0, none⟩ y (by intro e; injection e with e1 e2; cases e2)]
  exact World.cell?_setCell_same _ _ _ h0
/-- behind a statement of a law of two ratios: its boxes, and a ratio in a block of its own -/
def CutA (w : World) (n d m e : Value) (g : Nat) (x y : Value) (W : World) : Prop := W.cell? ⟨g, 0, none⟩ = some x ∧ W.cell? ⟨g, 1, none⟩ = some y ∧ g < W.heap.size ∧ W.cell? ⟨w.heap.size, 0, none⟩ = some n ∧ W.cell? ⟨w.heap.size, 1, none⟩ = some d ∧ W.cell? ⟨w.heap.size + 1, 0, none⟩ = some m ∧ W.cell? ⟨w.heap.size + 1, 1, none⟩ = some e ∧ w.heap.size + 2 ≤ W.heap.size ∧ Below w.heap.size w W
def CutB (w : World) (g h : Nat) (x y : Value) (W : World) : Prop := (W.cell? ⟨g, 0, none⟩ = some x ∧ W.cell? ⟨g, 1, none⟩ = some y) ∧ (W.cell? ⟨h, 0, none⟩ = some x ∧ W.cell? ⟨h, 1, none⟩ = some y) ∧ Below w.heap.size w W
theorem cutB_mk {w W : World} {g h : Nat} {n d m e x y : Value} (hk : W.cell? ⟨g, 0, none⟩ = some x ∧ W.cell? ⟨g, 1, none⟩ = some y ∧ g < W.heap.size ∧ W.cell? ⟨w.heap.size, 0, none⟩ = some n ∧ W.cell? ⟨w.heap.size, 1, none⟩ = some d ∧ W.cell? ⟨w.heap.size + 1, 0, none⟩ = some m ∧ W.cell? ⟨w.heap.size + 1, 1, none⟩ = some e ∧ w.heap.size + 2 ≤ W.heap.size ∧ Below w.heap.size w W) (h0 : W.cell? ⟨h, 0, none⟩ = some x) (h1 : W.cell? ⟨h, 1, none⟩ = some y) : CutB w g h x y W := ⟨⟨hk.1, hk.2.1⟩, ⟨h0, h1⟩, hk.2.2.2.2.2.2.2.2⟩
theorem rat_open {P : Program} {f : FuncId} {args : Array Value} {t : Int × Int × Int} (h : ∀ W, Calls P f args W (RatOut t W)) (W : World) : Calls P f args W fun e w' => e = .returned (.tuple #[.agg #[.int .i64 t.1, .int .i64 t.2.1], .int .i64 t.2.2]) ∧ Below W.heap.size W w' := h W
theorem two_open {P : Program} {f : FuncId} {args : Array Value} {t : Int × Int} (h : ∀ W, Calls P f args W (TwoOut t W)) (W : World) : Calls P f args W fun e w' => e = .returned (.tuple #[.int .i64 t.1, .int .i64 t.2]) ∧ Below W.heap.size W w' := h W
theorem octe_open {P : Program} {f : FuncId} {args : Array Value} {t : (Int × Int) × Int × Int} (h : ∀ W, Calls P f args W (OctEOut t W)) (W : World) : Calls P f args W fun e w' => e = .returned (.tuple #[.agg #[.int .i64 t.1.1, .int .i64 t.1.2], .int .i64 t.2.1, .int .i64 t.2.2]) ∧ Below W.heap.size W w' := h W
theorem bcel3 {W w1 : World} (hb : Below W.heap.size W w1) : (∀ b o, b < W.heap.size → w1.cell? ⟨b, o, none⟩ = W.cell? ⟨b, o, none⟩) ∧ (∀ b o, b < W.heap.size → w1.frozen? ⟨b, o, none⟩ = W.frozen? ⟨b, o, none⟩) ∧ (∀ x, x < W.heap.size → x < w1.heap.size) :=
  ⟨fun b o h => hb.cell (p := ⟨b, o, none⟩) h, fun b o h => hb.frozen (p := ⟨b, o, none⟩) h, fun x h => Nat.lt_of_lt_of_le h hb.size⟩
end Go.Proofs.YtobhmoohalkijaaDoor
