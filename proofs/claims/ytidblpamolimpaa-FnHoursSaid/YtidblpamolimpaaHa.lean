/- Items of a concert as values and in memory; items that came in. -/
import Derived.Test.YtidblpamolimpaaRg4
import Derived.Deep.Slices
import Derived.Deep.Strs
namespace Go.Proofs.Ytidblpamolimpaa
open Go.ChangeShapes Go.WideShapes Go.ChangeAt Go.RowKit
set_option linter.unusedVariables false
set_option linter.unusedSimpArgs false
set_option maxRecDepth 100000

/-- an item -/
structure It where
  nm : ByteArray
  f : Int
  u : Int
  s : Int
  m : Int
  p : Int
instance : DecidableEq It := fun a b => decidable_of_iff (a.nm = b.nm ∧ a.f = b.f ∧ a.u = b.u ∧ a.s = b.s ∧ a.m = b.m ∧ a.p = b.p) (by
  cases a; cases b; simp)
def it0 : It := ⟨⟨#[]⟩, 0, 0, 0, 0, 0⟩
instance : Inhabited It := ⟨it0⟩
/-- an item's cells -/
def itc (x : It) : List Value := [.string x.nm, .int .i64 x.f, .int .i64 x.u, .int .i64 x.s, .int .i64 x.m, .int .i64 x.p]
def itV (x : It) : Value := .agg #[.string x.nm, .int .i64 x.f, .int .i64 x.u, .int .i64 x.s, .int .i64 x.m, .int .i64 x.p]
def icl (l : List It) : List Value := l.flatMap itc
theorem icl_cons (x : It) (l : List It) : icl (x :: l) = .string x.nm :: .int .i64 x.f :: .int .i64 x.u :: .int .i64 x.s :: .int .i64 x.m :: .int .i64 x.p :: icl l := by simp [icl, itc]
theorem icl_len (l : List It) : (icl l).length = 6 * l.length := by
  induction l with
  | nil => rfl
  | cons x l ih => rw [icl_cons]; simp only [List.length_cons, ih]; omega
theorem icl_app (l m : List It) : icl (l ++ m) = icl l ++ icl m := by simp [icl]
def iat (l : List It) (k : Nat) : It := l.getD k it0
theorem iat_get {l : List It} {k : Nat} (h : k < l.length) : iat l k = l[k] := by simp [iat, h]
/-- an item lies in these cells -/
structure C6 (w : World) (b o : Nat) (x : It) : Prop where
  c0 : w.cell? ⟨b, o, none⟩ = some (.string x.nm)
  c1 : w.cell? ⟨b, o + 1, none⟩ = some (.int .i64 x.f)
  c2 : w.cell? ⟨b, o + 2, none⟩ = some (.int .i64 x.u)
  c3 : w.cell? ⟨b, o + 3, none⟩ = some (.int .i64 x.s)
  c4 : w.cell? ⟨b, o + 4, none⟩ = some (.int .i64 x.m)
  c5 : w.cell? ⟨b, o + 5, none⟩ = some (.int .i64 x.p)
theorem C6.below {w w' : World} {b o : Nat} {x : It} (h : C6 w b o x) (hl : b < w.heap.size) (hb : Below w.heap.size w w') : C6 w' b o x :=
  ⟨(hb.cell (p := ⟨b, o, none⟩) hl).trans h.c0, (hb.cell (p := ⟨b, o + 1, none⟩) hl).trans h.c1, (hb.cell (p := ⟨b, o + 2, none⟩) hl).trans h.c2, (hb.cell (p := ⟨b, o + 3, none⟩) hl).trans h.c3, (hb.cell (p := ⟨b, o + 4, none⟩) hl).trans h.c4, (hb.cell (p := ⟨b, o + 5, none⟩) hl).trans h.c5⟩
theorem icl_at (l : List It) (k : Nat) (h : k < l.length) : (icl l)[k * 6]? = some (.string (iat l k).nm) ∧ (icl l)[k * 6 + 1]? = some (.int .i64 (iat l k).f) ∧ (icl l)[k * 6 + 2]? = some (.int .i64 (iat l k).u) ∧
    (icl l)[k * 6 + 3]? = some (.int .i64 (iat l k).s) ∧ (icl l)[k * 6 + 4]? = some (.int .i64 (iat l k).m) ∧ (icl l)[k * 6 + 5]? = some (.int .i64 (iat l k).p) := by
  induction l generalizing k with
  | nil => cases h
  | cons x l ih =>
    rw [icl_cons]
    cases k with
    | zero => exact ⟨rfl, rfl, rfl, rfl, rfl, rfl⟩
    | succ k =>
      have := ih k (by simpa using h)
      rw [show (k + 1) * 6 = k * 6 + 1 + 1 + 1 + 1 + 1 + 1 by omega]
      rw [show k * 6 + 1 + 1 + 1 + 1 + 1 + 1 + 1 = (k * 6 + 1) + 1 + 1 + 1 + 1 + 1 + 1 by omega, show k * 6 + 1 + 1 + 1 + 1 + 1 + 1 + 2 = (k * 6 + 2) + 1 + 1 + 1 + 1 + 1 + 1 by omega, show k * 6 + 1 + 1 + 1 + 1 + 1 + 1 + 3 = (k * 6 + 3) + 1 + 1 + 1 + 1 + 1 + 1 by omega,
        show k * 6 + 1 + 1 + 1 + 1 + 1 + 1 + 4 = (k * 6 + 4) + 1 + 1 + 1 + 1 + 1 + 1 by omega, show k * 6 + 1 + 1 + 1 + 1 + 1 + 1 + 5 = (k * 6 + 5) + 1 + 1 + 1 + 1 + 1 + 1 by omega]
      simp only [List.getElem?_cons_succ]
      exact this
theorem icl_set (l : List It) (k : Nat) (x : It) (h : k < l.length) : ((((((icl l).set (k * 6) (.string x.nm)).set (k * 6 + 1) (.int .i64 x.f)).set (k * 6 + 2) (.int .i64 x.u)).set (k * 6 + 3) (.int .i64 x.s)).set (k * 6 + 4) (.int .i64 x.m)).set (k * 6 + 5) (.int .i64 x.p) = icl (l.set k x) := by
  induction l generalizing k with
  | nil => cases h
  | cons q l ih =>
    cases k with
    | zero => simp [icl_cons]
    | succ k =>
      rw [icl_cons, List.set_cons_succ, icl_cons, show (k + 1) * 6 = k * 6 + 1 + 1 + 1 + 1 + 1 + 1 by omega]
      rw [show k * 6 + 1 + 1 + 1 + 1 + 1 + 1 + 1 = (k * 6 + 1) + 1 + 1 + 1 + 1 + 1 + 1 by omega, show k * 6 + 1 + 1 + 1 + 1 + 1 + 1 + 2 = (k * 6 + 2) + 1 + 1 + 1 + 1 + 1 + 1 by omega, show k * 6 + 1 + 1 + 1 + 1 + 1 + 1 + 3 = (k * 6 + 3) + 1 + 1 + 1 + 1 + 1 + 1 by omega,
        show k * 6 + 1 + 1 + 1 + 1 + 1 + 1 + 4 = (k * 6 + 4) + 1 + 1 + 1 + 1 + 1 + 1 by omega, show k * 6 + 1 + 1 + 1 + 1 + 1 + 1 + 5 = (k * 6 + 5) + 1 + 1 + 1 + 1 + 1 + 1 by omega]
      simp only [List.set_cons_succ]
      rw [ih k (by simpa using h)]
/-- a slice that reads as these items -/
def ItsAt (w : World) (v : Value) (l : List It) : Prop :=
  (l = [] ∧ ∃ A c, v = .slice A 0 c) ∨ ∃ b off c, v = .slice (some ⟨b, off, none⟩) l.length c ∧ b < w.heap.size ∧ ∀ k, k < l.length → C6 w b (off + k * 6) (iat l k)
theorem ItsAt.below {w w' : World} {v : Value} {l : List It} (h : ItsAt w v l) (hb : Below w.heap.size w w') : ItsAt w' v l := by
  rcases h with h | ⟨b, off, c, h1, h2, h3⟩
  · exact .inl h
  · exact .inr ⟨b, off, c, h1, Nat.lt_of_lt_of_le h2 hb.size, fun k hk => (h3 k hk).below h2 hb⟩
theorem ItsAt.draws {w : World} {v : Value} {l : List It} (h : ItsAt w v l) (n : Nat) : ItsAt (w.drewN n) v l := by
  rcases h with h | ⟨b, off, c, h1, h2, h3⟩
  · exact .inl h
  · exact .inr ⟨b, off, c, h1, h2, fun k hk => ⟨(h3 k hk).c0, (h3 k hk).c1, (h3 k hk).c2, (h3 k hk).c3, (h3 k hk).c4, (h3 k hk).c5⟩⟩
theorem its_len {w : World} {v : Value} {l : List It} (h : ItsAt w v l) : ∃ A c, v = .slice A l.length c := by
  rcases h with ⟨rfl, A, c, h⟩ | ⟨b, o, c, h, _⟩
  · exact ⟨A, c, h⟩
  · exact ⟨_, c, h⟩
theorem ItsAt.form {w : World} {v : Value} {l : List It} (h : ItsAt w v l) (hl : 0 < l.length) : ∃ b o c, v = .slice (some ⟨b, o, none⟩) l.length c ∧ b < w.heap.size ∧ ∀ k, k < l.length → C6 w b (o + k * 6) (iat l k) := by
  rcases h with ⟨rfl, _⟩ | h
  · simp at hl
  · exact h
theorem ItsAt.own {w : World} {base : Nat} {v : Value} {l : List It} (h : w.ownsRow base 25 6 v l.length (icl l)) : ItsAt w v l := by
  rcases Nat.eq_zero_or_pos l.length with h0 | h0
  · refine .inl ⟨List.eq_nil_of_length_eq_zero h0, ?_⟩
    rcases h.2 with ⟨hv, _⟩ | ⟨g, cap, cur, hv, _⟩
    · exact ⟨none, 0, hv⟩
    · exact ⟨some ⟨g, 0, none⟩, cap, by rw [hv, h0]⟩
  · obtain ⟨g, cap, rfl, _, hlt⟩ := h.form h0
    refine .inr ⟨g, 0, cap, rfl, hlt, fun k hk => ?_⟩
    obtain ⟨a0, a1, a2, a3, a4, a5⟩ := icl_at l k hk
    rw [Nat.zero_add]
    exact ⟨(h.cellAt (k * 6) (by omega)).trans a0, (h.cellAt (k * 6 + 1) (by omega)).trans a1, (h.cellAt (k * 6 + 2) (by omega)).trans a2, (h.cellAt (k * 6 + 3) (by omega)).trans a3, (h.cellAt (k * 6 + 4) (by omega)).trans a4, (h.cellAt (k * 6 + 5) (by omega)).trans a5⟩
/-- numbers of 64 bits, a text of a length that there is -/
structure WfI (x : It) : Prop where
  n : x.nm.size ≤ maxLen
  f : (Lit.int .i64 x.f).wf = true
  u : (Lit.int .i64 x.u).wf = true
  s : (Lit.int .i64 x.s).wf = true
  m : (Lit.int .i64 x.m).wf = true
  p : (Lit.int .i64 x.p).wf = true
theorem cells_strI : Try.prog.cellsOf 9 = 1 := by kernel_rfl
end Go.Proofs.Ytidblpamolimpaa
