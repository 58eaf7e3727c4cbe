/- Ragas as values and in memory; a raga that came in. -/
import Derived.Test.YtendfnimhmnioaaDoorRow
import Derived.Deep.Matrix
import Derived.Lib.SmallJoins
namespace Go.Proofs.YtendfnimhmnioaaDoor
open Go.ChangeShapes Go.WideShapes Go.ChangeAt Go.RowKit
set_option linter.unusedVariables false
set_option linter.unusedSimpArgs false
set_option maxRecDepth 100000

/-- a raga -/
structure Rg where
  s : ByteArray
  u : List Int
  d : List Int
  x : Int
  y : Int
  f : List (List Int)
/-- a slice of slices that reads as these rows -/
def RowsAt (w : World) (v : Value) (L : List (List Int)) : Prop :=
  (L = [] ∧ ∃ A c, v = .slice A 0 c) ∨ ∃ b off c, v = .slice (some ⟨b, off, none⟩) L.length c ∧ b < w.heap.size ∧ ∀ k, k < L.length → ∃ u, w.cell? ⟨b, off + k, none⟩ = some u ∧ IntsAt w u (L.getD k [])
theorem RowsAt.below {w w' : World} {v : Value} {L : List (List Int)} (h : RowsAt w v L) (hb : Below w.heap.size w w') : RowsAt w' v L := by
  rcases h with h | ⟨b, off, c, h1, h2, h3⟩
  · exact .inl h
  · refine .inr ⟨b, off, c, h1, Nat.lt_of_lt_of_le h2 hb.size, fun k hk => ?_⟩
    obtain ⟨u, hu, hi⟩ := h3 k hk
    exact ⟨u, (hb.cell (p := ⟨b, off + k, none⟩) h2).trans hu, hi.below hb⟩
theorem ints_form {w : World} {v : Value} {zs : List Int} (h : IntsAt w v zs) : ∃ A c, v = .slice A zs.length c := by
  rcases h with ⟨rfl, A, c, rfl⟩ | ⟨b, off, c, rfl, _⟩
  · exact ⟨A, c, rfl⟩
  · exact ⟨_, c, rfl⟩
theorem rows_form {w : World} {v : Value} {L : List (List Int)} (h : RowsAt w v L) : ∃ A c, v = .slice A L.length c := by
  rcases h with ⟨rfl, A, c, rfl⟩ | ⟨b, off, c, rfl, _⟩
  · exact ⟨A, c, rfl⟩
  · exact ⟨_, c, rfl⟩
def rgV (s : ByteArray) (u d : Value) (x y : Int) (f : Value) : Value := .agg #[.string s, u, d, .int .i64 x, .int .i64 y, f]
/-- a value that reads as a raga -/
def RgAt (w : World) (v : Value) (R : Rg) : Prop := ∃ u d f, v = rgV R.s u d R.x R.y f ∧ IntsAt w u R.u ∧ IntsAt w d R.d ∧ RowsAt w f R.f
theorem RgAt.below {w w' : World} {v : Value} {R : Rg} (h : RgAt w v R) (hb : Below w.heap.size w w') : RgAt w' v R := by
  obtain ⟨u, d, f, h0, h1, h2, h3⟩ := h
  exact ⟨u, d, f, h0, h1.below hb, h2.below hb, h3.below hb⟩
/-- lengths that a program may reckon with; numbers of 64 bits -/
structure Sm (R : Rg) : Prop where
  s : R.s.size ≤ 1048576
  u : R.u.length ≤ 1048576
  d : R.d.length ≤ 1048576
  f : R.f.length ≤ 1048576
  g : ∀ k, k < R.f.length → (R.f.getD k []).length ≤ 1048576
  x : (Lit.int .i64 R.x).wf = true
  y : (Lit.int .i64 R.y).wf = true
structure Sm0 (R : Rg) : Prop where
  s : R.s.size ≤ maxLen
  u : R.u.length ≤ 9223372036854775807
  d : R.d.length ≤ 9223372036854775807
  f : R.f.length ≤ 9223372036854775807
  g : ∀ k, k < R.f.length → (R.f.getD k []).length ≤ 9223372036854775807
  x : (Lit.int .i64 R.x).wf = true
  y : (Lit.int .i64 R.y).wf = true

section
variable {H : Type} {enc : TypeId × Value → H} {P : Program} {w : World} {base : Nat} {spare : Nat → Bool} {held : Bool}
theorem array6 {α : Type} {cs : Array α} (h : cs.size = 6) : ∃ c0 c1 c2 c3 c4 c5, cs = #[c0, c1, c2, c3, c4, c5] := by
  obtain ⟨l⟩ := cs
  match l, h with
  | [c0, c1, c2, c3, c4, c5], _ => exact ⟨c0, c1, c2, c3, c4, c5, rfl⟩
theorem trod_struct6 {t : TypeId} {f0 f1 f2 f3 f4 f5 : Field} {fuel : Nat} {cs : List Value} {x : DataW H × List MemPlace} (ht : P.underlying t = some (.struct #[f0, f1, f2, f3, f4, f5])) (h : DataW.trod enc P w base spare held fuel t cs = some x) :
    ∃ y0 y1 y2 y3 y4 y5 n, cs.length = P.cellsOf t ∧ DataW.trod enc P w base spare held n f0.type ((cs.drop f0.offset).take (P.cellsOf f0.type)) = some y0 ∧
      DataW.trod enc P w base spare held n f1.type ((cs.drop f1.offset).take (P.cellsOf f1.type)) = some y1 ∧ DataW.trod enc P w base spare held n f2.type ((cs.drop f2.offset).take (P.cellsOf f2.type)) = some y2 ∧
      DataW.trod enc P w base spare held n f3.type ((cs.drop f3.offset).take (P.cellsOf f3.type)) = some y3 ∧ DataW.trod enc P w base spare held n f4.type ((cs.drop f4.offset).take (P.cellsOf f4.type)) = some y4 ∧
      DataW.trod enc P w base spare held n f5.type ((cs.drop f5.offset).take (P.cellsOf f5.type)) = some y5 := by
  obtain ⟨xs, n, _, rfl, hl, hlen, hf⟩ := DataW.trod_struct ht h
  match xs, hlen with
  | [y0, y1, y2, y3, y4, y5], _ => exact ⟨y0, y1, y2, y3, y4, y5, n, hl, by simpa using hf 0 f0 rfl, by simpa using hf 1 f1 rfl, by simpa using hf 2 f2 rfl, by simpa using hf 3 f3 rfl, by simpa using hf 4 f4 rfl, by simpa using hf 5 f5 rfl⟩
theorem open_agg6 {r : Reach} {b0 : Nat} {t : TypeId} {f0 f1 f2 f3 f4 f5 : Field} {v : Value} {d : DataW H} {p : List MemPlace} (hs : P.underlying t = some (.struct #[f0, f1, f2, f3, f4, f5])) (hone : Go.Deep.oneCellFields P #[f0, f1, f2, f3, f4, f5] = true) (hC : P.cellsOf t = 6)
    (hv : Value.okWide P w r b0 t v) (h : DataW.Trod enc P w base spare held t v d p) :
    ∃ (v0 v1 v2 v3 v4 v5 : Value) (y0 y1 y2 y3 y4 y5 : DataW H × List MemPlace) (n : Nat), v = .agg #[v0, v1, v2, v3, v4, v5] ∧
      DataW.trod enc P w base spare held n f0.type [v0] = some y0 ∧ DataW.trod enc P w base spare held n f1.type [v1] = some y1 ∧ DataW.trod enc P w base spare held n f2.type [v2] = some y2 ∧
      DataW.trod enc P w base spare held n f3.type [v3] = some y3 ∧ DataW.trod enc P w base spare held n f4.type [v4] = some y4 ∧ DataW.trod enc P w base spare held n f5.type [v5] = some y5 := by
  obtain ⟨cs, rfl, hsz⟩ := okWide_struct hs hv
  obtain ⟨c0, c1, c2, c3, c4, c5, rfl⟩ := array6 (hsz.trans hC)
  obtain ⟨fuel, hf⟩ := h
  obtain ⟨y0, y1, y2, y3, y4, y5, n, _, h0, h1, h2, h3, h4, h5⟩ := trod_struct6 hs hf
  obtain ⟨o0, k0⟩ := Go.Deep.hone_of hone 0 f0 rfl
  obtain ⟨o1, k1⟩ := Go.Deep.hone_of hone 1 f1 rfl
  obtain ⟨o2, k2⟩ := Go.Deep.hone_of hone 2 f2 rfl
  obtain ⟨o3, k3⟩ := Go.Deep.hone_of hone 3 f3 rfl
  obtain ⟨o4, k4⟩ := Go.Deep.hone_of hone 4 f4 rfl
  obtain ⟨o5, k5⟩ := Go.Deep.hone_of hone 5 f5 rfl
  exact ⟨c0, c1, c2, c3, c4, c5, y0, y1, y2, y3, y4, y5, n, rfl, by simpa [Value.cells, o0, k0] using h0, by simpa [Value.cells, o1, k1] using h1, by simpa [Value.cells, o2, k2] using h2, by simpa [Value.cells, o3, k3] using h3, by simpa [Value.cells, o4, k4] using h4, by simpa [Value.cells, o5, k5] using h5⟩
end
theorem add_off (b o k : Nat) : (⟨b, o, none⟩ : Addr).add k = ⟨b, o + k, none⟩ := by unfold Addr.add; split <;> simp_all
/-- one row of numbers, from its cells -/
theorem ints_of_cells {W : World} {A : Option Addr} {n cap : Nat} {zs : List Int} (hn : n ≤ cap) (hz : zs.length = cap) (h0 : A = none → cap = 0) (h : ∀ a, A = some a → ∀ c, c < cap → W.cell? (a.add c) = some (.int .i64 (zs.getD c 0))) :
    IntsAt W (.slice A n cap) (zs.take n) := by
  have hll : (zs.take n).length = n := by rw [List.length_take]; omega
  by_cases hl0 : n = 0
  · subst hl0
    exact .inl ⟨rfl, A, cap, rfl⟩
  · cases A with
    | none => have := h0 rfl; omega
    | some a =>
      obtain ⟨b, off, spot⟩ := a
      have hc := h _ rfl
      have hspot : spot = none := by simpa [Addr.add] using World.cell?_spot (hc 0 (by omega))
      subst hspot
      have hb : b < W.heap.size := by
        have := hc 0 (by omega)
        rcases Nat.lt_or_ge b W.heap.size with h | h
        · exact h
        · simp [World.cell?, Addr.add, Array.getElem?_eq_none h] at this
      refine .inr ⟨b, off, cap, by rw [hll], hb, fun k hk => ?_⟩
      rw [hll] at hk
      have := hc k (by omega)
      rw [add_off] at this
      rw [this]
      simp [List.getD, hk]
end Go.Proofs.YtendfnimhmnioaaDoor
