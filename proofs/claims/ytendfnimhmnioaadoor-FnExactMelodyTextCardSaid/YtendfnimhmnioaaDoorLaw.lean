/- Laws over lists of int64: rows of memory that stay apart. -/
import Derived.Test.YtendfnimhmnioaaDoorRow
namespace Go.Proofs.YtendfnimhmnioaaDoor
open Go.ChangeShapes Go.WideShapes Go.ChangeAt Go.RowKit
set_option linter.unusedVariables false
set_option linter.unusedSimpArgs false
set_option maxRecDepth 100000

theorem own_below {w w' : World} {base e size n : Nat} {v : Value} {xs : List Value} (h : w.ownsRow base e size v n xs) (hb : Below w.heap.size w w') : w'.ownsRow base e size v n xs := by
  refine ⟨h.1, ?_⟩
  rcases h.2 with h2 | ⟨g, cap, cur, hv, hg, hc, r⟩
  · exact .inl h2
  · have hlt : g < w.heap.size := (Array.getElem?_eq_some_iff.1 hc).1
    exact .inr ⟨g, cap, cur, hv, hg, by rw [hb.block g hlt]; exact hc, r⟩
theorem own_hi {w : World} {base e size n : Nat} {v : Value} {xs : List Value} (h : w.ownsRow base e size v n xs) : ∀ g, v.ownBlock = some g → g < w.heap.size := fun g hg => (h.lt g hg).2
theorem own_lo {w : World} {base e size n : Nat} {v : Value} {xs : List Value} (h : w.ownsRow base e size v n xs) : ∀ g, v.ownBlock = some g → base ≤ g := fun g hg => (h.lt g hg).1
/-- an older row stands while a younger one is written -/
theorem own_young {w w' : World} {base b2 N e size n n2 e2 s2 : Nat} {v v2 : Value} {xs ys : List Value} {w2 : World} (h : w.ownsRow base e size v n xs) (hi : ∀ g, v.ownBlock = some g → g < N) (hm : w2.ownsRow b2 e2 s2 v2 n2 ys) (hN : N ≤ b2) (hg : w.grownBy w' v2.ownBlock) : w'.ownsRow base e size v n xs := by
  refine h.kept hg ?_
  cases hv : v.ownBlock with
  | none => exact .inl rfl
  | some g =>
    refine .inr (fun e => ?_)
    have h1 := hi g hv
    have h2 := own_lo hm g e.symm
    omega
/-- a younger row stands while an older one is written -/
theorem own_old {w w' : World} {base N e size n : Nat} {v v2 : Value} {xs : List Value} (h : w.ownsRow base e size v n xs) (hi : ∀ g, v2.ownBlock = some g → g < N) (hN : N ≤ base) (hg : w.grownBy w' v2.ownBlock) : w'.ownsRow base e size v n xs := by
  refine h.kept hg ?_
  cases hv : v.ownBlock with
  | none => exact .inl rfl
  | some g =>
    refine .inr (fun e => ?_)
    have h1 := hi g e.symm
    have h2 := own_lo h g hv
    omega
theorem below_dr {w w' : World} (h : ∃ n, w' = w.drewN n) : Below w.heap.size w w' := by
  obtain ⟨n, rfl⟩ := h
  exact below_draws (Below.refl _ _) n
theorem below_eq {w w' : World} (h : w = w') : Below w.heap.size w w' := by
  subst h; exact Below.refl _ _
theorem below_mark {w0 w w' : World} {base e size n : Nat} {v : Value} {xs : List Value} (hb : Below w0.heap.size w0 w) (h : w.ownsRow base e size v n xs) (hB : w0.heap.size ≤ base) (hg : w.grownBy w' v.ownBlock) : Below w0.heap.size w0 w' :=
  hb.grown hg hb.size (fun k hk => Nat.le_trans hB (own_lo h k hk))
theorem grown_size {w w' : World} {row : Option Nat} (h : w.grownBy w' row) : w.heap.size ≤ w'.heap.size := h.size
theorem own_len {w : World} {base e size n : Nat} {v : Value} {xs : List Value} (h : w.ownsRow base e size v n xs) : ∃ A c, v = .slice A n c := by
  rcases h.2 with ⟨hv, h0⟩ | ⟨g, cap, cur, hv, _⟩
  · exact ⟨none, 0, by rw [hv, h0]⟩
  · exact ⟨_, _, hv⟩
/-- a new list and something beside it -/
def RowOut (ys : List Int) (cv : Value) (w : World) (e : Ending) (w' : World) : Prop :=
  ∃ v, e = .returned (.tuple #[v, cv]) ∧ w'.ownsRow w.heap.size 2 1 v ys.length (ints ys) ∧ Below w.heap.size w w'
/-- some value, memory perhaps made -/
def ValOut (cv : Value) (w : World) (e : Ending) (w' : World) : Prop := e = .returned cv ∧ Below w.heap.size w w'
end Go.Proofs.YtendfnimhmnioaaDoor
