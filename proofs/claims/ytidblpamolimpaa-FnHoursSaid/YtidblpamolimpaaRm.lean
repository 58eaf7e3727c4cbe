/- Ragas that a law marks: copies whose rows lie apart, and what marking leaves. -/
import Derived.Test.YtidblpamolimpaaRg4
namespace Go.Proofs.Ytidblpamolimpaa
open Go.ChangeShapes Go.WideShapes Go.ChangeAt Go.RowKit
set_option linter.unusedVariables false
set_option linter.unusedSimpArgs false
set_option maxRecDepth 100000

/-- all that was there stands, but for blocks from lo to hi -/
structure Turn (lo hi : Nat) (w w' : World) : Prop where
  os : w'.os = w.os
  tape : w'.tape = w.tape
  output : w'.output = w.output
  size : w.heap.size ≤ w'.heap.size
  block : ∀ b, b < w.heap.size → b < lo ∨ hi ≤ b → w'.heap[b]? = w.heap[b]?
theorem Turn.refl (lo hi : Nat) (w : World) : Turn lo hi w w := ⟨rfl, rfl, rfl, Nat.le_refl _, fun _ _ _ => rfl⟩
theorem Turn.trans {lo hi : Nat} {a b c : World} (h : Turn lo hi a b) (h' : Turn lo hi b c) : Turn lo hi a c :=
  ⟨h'.os.trans h.os, h'.tape.trans h.tape, h'.output.trans h.output, Nat.le_trans h.size h'.size, fun x hx hy => (h'.block x (Nat.lt_of_lt_of_le hx h.size) hy).trans (h.block x hx hy)⟩
theorem Turn.grown {lo hi : Nat} {w w' : World} {row : Option Nat} (h : w.grownBy w' row) (hr : ∀ k, row = some k → lo ≤ k ∧ k < hi) : Turn lo hi w w' :=
  ⟨h.os, h.tape, h.output, h.size, fun b hb hy => h.block b hb (fun e => by have := hr b e.symm; omega)⟩
theorem Turn.below {lo hi : Nat} {w w' : World} (h : Below w.heap.size w w') : Turn lo hi w w' := ⟨h.os, h.tape, h.output, h.size, fun b hb _ => h.block b hb⟩
theorem Turn.keeps {lo hi B : Nat} {a w w' : World} (h : Turn lo hi w w') (hb : Below B a w) (h1 : B ≤ lo) (h2 : B ≤ w.heap.size) : Below B a w' :=
  hb.trans ⟨h.os, h.tape, h.output, h.size, fun b hb => h.block b (by omega) (by omega)⟩
theorem BoxN.turn {lo hi g : Nat} {w w' : World} {xs : Array Value} {t : TypeId} (h : BoxN w g xs t) (ht : Turn lo hi w w') (hg : g < lo ∨ hi ≤ g) : BoxN w' g xs t := by
  have := ht.block g h.lt hg
  unfold BoxN at h ⊢
  rw [this, h]
theorem own_turn {lo hi base e size n : Nat} {w w' : World} {v : Value} {xs : List Value} (h : w.ownsRow base e size v n xs) (ht : Turn lo hi w w') (hg : ∀ g, v.ownBlock = some g → g < lo ∨ hi ≤ g) : w'.ownsRow base e size v n xs := by
  refine ⟨h.1, ?_⟩
  rcases h.2 with h2 | ⟨g, cap, cur, hv, hbg, hc, r⟩
  · exact .inl h2
  · have hlt : g < w.heap.size := (Array.getElem?_eq_some_iff.1 hc).1
    exact .inr ⟨g, cap, cur, hv, hbg, by rw [ht.block g hlt (hg g (by rw [hv]; rfl))]; exact hc, r⟩
theorem ne_row {v : Value} {row : Option Nat} (h : ∀ g, row = some g → v.ownBlock ≠ some g) : v.ownBlock = none ∨ v.ownBlock ≠ row := by
  cases hr : row with
  | none =>
    cases hv : v.ownBlock with
    | none => exact .inl rfl
    | some g => exact .inr (by simp)
  | some g => exact .inr (h g hr)
theorem rows_kept {w w' : World} {Q : Nat} {v : Value} {L : List (List Int)} {V : Nat → Value} {row : Option Nat} (h : RowsOwn w Q v L V) (hg : w.grownBy w' row) (hr : ∀ g, row = some g → g < Q) : RowsOwn w' Q v L V :=
  ⟨h.out.kept hg (ne_row (fun x hx e => by have := own_lo h.out x e; have := hr x hx; omega)), fun k hk => (h.row k hk).kept hg (ne_row (fun x hx e => by have := own_lo (h.row k hk) x e; have := hr x hx; omega)), h.top, h.two⟩
theorem BoxN.grownR {g : Nat} {w w' : World} {xs : Array Value} {t : TypeId} {row : Option Nat} (h : BoxN w g xs t) (hg : w.grownBy w' row) (hn : ¬ some g = row) : BoxN w' g xs t := by
  have := hg.block g h.lt hn
  unfold BoxN at h ⊢
  rw [this, h]
theorem Turn.weaken {lo lo' hi : Nat} {w w' : World} (h : Turn lo' hi w w') (hl : lo ≤ lo') : Turn lo hi w w' :=
  ⟨h.os, h.tape, h.output, h.size, fun b hb hy => h.block b hb (by omega)⟩
end Go.Proofs.Ytidblpamolimpaa
