/- Laws over tunings: a tuning that a region makes and lays in a block of its own. -/
import Derived.Test.YtjjiibmbaggjoaaTuLaw
import Derived.Test.YtjjiibmbaggjoaaTuG
namespace Go.Proofs.Ytjjiibmbaggjoaa
open Go.ChangeShapes Go.WideShapes Go.ChangeAt Go.RowKit
set_option linter.unusedVariables false
set_option linter.unusedSimpArgs false
set_option maxRecDepth 100000

theorem keepEs {q W : World} {b1 b2 x1 x2 y1 y2 b o : Nat} {p1 p2 q1 q2 u : Value} (hx : b1 < q.heap.size ∧ b2 < q.heap.size)
    (h : W.cell? ⟨b1, x1, none⟩ = some p1 ∧ W.cell? ⟨b1, x2, none⟩ = some p2 ∧ W.cell? ⟨b2, y1, none⟩ = some q1 ∧ W.cell? ⟨b2, y2, none⟩ = some q2 ∧ b1 < W.heap.size ∧ b2 < W.heap.size ∧ Below q.heap.size q W) (hb : q.heap.size ≤ b) :
    (W.setCell ⟨b, o, none⟩ u).cell? ⟨b1, x1, none⟩ = some p1 ∧ (W.setCell ⟨b, o, none⟩ u).cell? ⟨b1, x2, none⟩ = some p2 ∧ (W.setCell ⟨b, o, none⟩ u).cell? ⟨b2, y1, none⟩ = some q1 ∧ (W.setCell ⟨b, o, none⟩ u).cell? ⟨b2, y2, none⟩ = some q2 ∧ b1 < (W.setCell ⟨b, o, none⟩ u).heap.size ∧ b2 < (W.setCell ⟨b, o, none⟩ u).heap.size ∧ Below q.heap.size q (W.setCell ⟨b, o, none⟩ u) := by
  obtain ⟨h1, h2, h3, h4, h5, h6, h7⟩ := h
  have key : ∀ {g k : Nat} {v : Value}, g < q.heap.size → W.cell? ⟨g, k, none⟩ = some v → (W.setCell ⟨b, o, none⟩ u).cell? ⟨g, k, none⟩ = some v := fun {g k v} hg hc => by
    rw [← hc]
    unfold World.cell?
    rw [Below.heap_setCell _ _ _ _ (by show g ≠ b; omega)]
  exact ⟨key hx.1 h1, key hx.1 h2, key hx.2 h3, key hx.2 h4, by simpa using h5, by simpa using h6, h7.setCell hb _⟩
theorem own_setne {w : World} {base e size n g o : Nat} {v u : Value} {xs : List Value} (h : w.ownsRow base e size v n xs) (hn : ∀ k, v.ownBlock = some k → k ≠ g) : (w.setCell ⟨g, o, none⟩ u).ownsRow base e size v n xs := by
  refine ⟨h.1, ?_⟩
  rcases h.2 with h2 | ⟨k, cap, cur, hv, hg, hc, r⟩
  · exact .inl h2
  · exact .inr ⟨k, cap, cur, hv, hg, by rw [Below.heap_setCell _ _ _ _ (by show k ≠ g; exact hn k (by rw [hv]; rfl))]; exact hc, r⟩
/-- what a region that makes a tuning leaves -/
structure ResT (q : World) (g : Nat) (te : TypeId) (s : ByteArray) (v : Value) (l : List (Int × Int)) (wx : World) : Prop where
  c0 : wx.cell? ⟨g, 0, none⟩ = some (.string s)
  c1 : wx.cell? ⟨g, 1, none⟩ = some v
  lo : q.heap.size ≤ g
  own : wx.ownsRow q.heap.size te 2 v l.length (pcl l)
  ne : ∀ k, v.ownBlock = some k → k ≠ g
  bel : Below q.heap.size q wx
theorem bcel3' {W w1 : World} (hb : Below W.heap.size W w1) : (∀ b o, b < W.heap.size → w1.cell? ⟨b, o, none⟩ = W.cell? ⟨b, o, none⟩) ∧ (∀ b o, b < W.heap.size → w1.frozen? ⟨b, o, none⟩ = W.frozen? ⟨b, o, none⟩) ∧ (∀ x, x < W.heap.size → x < w1.heap.size) :=
  ⟨fun b o h => hb.cell (p := ⟨b, o, none⟩) h, fun b o h => hb.frozen (p := ⟨b, o, none⟩) h, fun x h => Nat.lt_of_lt_of_le h hb.size⟩
theorem put2 {W : World} {b : Nat} {x y x0 y0 : Value} (h0 : W.cell? ⟨b, 0, none⟩ = some x0) (h1 : W.cell? ⟨b, 1, none⟩ = some y0) :
    ((W.setCell ⟨b, 0, none⟩ x).setCell ⟨b, 1, none⟩ y).cell? ⟨b, 0, none⟩ = some x ∧ ((W.setCell ⟨b, 0, none⟩ x).setCell ⟨b, 1, none⟩ y).cell? ⟨b, 1, none⟩ = some y := by
  have a := World.cell?_setCell_other W ⟨b, 0, none⟩ ⟨b, 1, none⟩ x (by intro e; injection e with e1 e2; cases e2)
  refine ⟨?_, World.cell?_setCell_same _ _ _ (a.trans h1)⟩
  rw [World.cell?_setCell_other _ ⟨b, 1, none⟩ ⟨b, 0, none⟩ y (by intro e; injection e with e1 e2; cases e2)]
  exact World.cell?_setCell_same _ _ _ h0
/-- a call's result stored into a block of two cells: behind the stores -/
theorem resT_put {q W : World} {g te : Nat} {s : ByteArray} {v x0 y0 : Value} {l : List (Int × Int)} (h0 : W.cell? ⟨g, 0, none⟩ = some x0) (h1 : W.cell? ⟨g, 1, none⟩ = some y0) (lo : q.heap.size ≤ g)
    (own : W.ownsRow q.heap.size te 2 v l.length (pcl l)) (ne : ∀ k, v.ownBlock = some k → k ≠ g) (bel : Below q.heap.size q W) : ResT q g te s v l ((W.setCell ⟨g, 0, none⟩ (.string s)).setCell ⟨g, 1, none⟩ v) :=
  ⟨(put2 h0 h1).1, (put2 h0 h1).2, lo, own_setne (own_setne own ne) ne, ne, (bel.setCell lo _).setCell lo _⟩
theorem resT_new {q W : World} {te t : Nat} {s : ByteArray} {v : Value} {l : List (Int × Int)}
    (own : W.ownsRow q.heap.size te 2 v l.length (pcl l)) (bel : Below q.heap.size q W) : ResT q W.heap.size te s v l (W.alloc (.cells #[.string s, v] t)) := by
  have e := BoxAt.at W W.heap.size (.string s) v t rfl
  refine ⟨e.c0, e.c1, bel.size, own.alloc _, fun k hk => ?_, bel.alloc bel.size _⟩
  have := (own.lt k hk).2
  omega
end Go.Proofs.Ytjjiibmbaggjoaa
