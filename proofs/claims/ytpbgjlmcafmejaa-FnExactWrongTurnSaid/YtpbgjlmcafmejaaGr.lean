/- Grammars as values and in memory; a grammar that came in. -/
import Derived.Test.YtpbgjlmcafmejaaRg4
import Derived.Deep.Slices
import Derived.Deep.Strs
namespace Go.Proofs.Ytpbgjlmcafmejaa
open Go.ChangeShapes Go.WideShapes Go.ChangeAt Go.RowKit
set_option linter.unusedVariables false
set_option linter.unusedSimpArgs false
set_option maxRecDepth 100000

/-- arcs as cells -/
def tcl (l : List (Int × Int × Int)) : List Value := l.flatMap fun p => [.int .i64 p.1, .int .i64 p.2.1, .int .i64 p.2.2]
theorem tcl_len (l : List (Int × Int × Int)) : (tcl l).length = 3 * l.length := by
  induction l with
  | nil => rfl
  | cons p l ih => simp [tcl] at ih ⊢; omega
theorem tcl_app (l m : List (Int × Int × Int)) : tcl (l ++ m) = tcl l ++ tcl m := by simp [tcl]
theorem tcl_cons (p : Int × Int × Int) (l : List (Int × Int × Int)) : tcl (p :: l) = .int .i64 p.1 :: .int .i64 p.2.1 :: .int .i64 p.2.2 :: tcl l := by simp [tcl]
def tat (l : List (Int × Int × Int)) (k : Nat) : Int × Int × Int := l.getD k (0, 0, 0)
theorem tat_get {l : List (Int × Int × Int)} {k : Nat} (h : k < l.length) : tat l k = l[k] := by simp [tat, h]
theorem tcl_at0 (l : List (Int × Int × Int)) (k : Nat) (h : k < l.length) : (tcl l)[k * 3]? = some (.int .i64 (tat l k).1) := by
  induction l generalizing k with
  | nil => cases h
  | cons p l ih =>
    rw [tcl_cons]
    cases k with
    | zero => rfl
    | succ k => rw [show (k + 1) * 3 = k * 3 + 1 + 1 + 1 by omega, List.getElem?_cons_succ, List.getElem?_cons_succ, List.getElem?_cons_succ]; exact ih k (by simpa using h)
theorem tcl_at1 (l : List (Int × Int × Int)) (k : Nat) (h : k < l.length) : (tcl l)[k * 3 + 1]? = some (.int .i64 (tat l k).2.1) := by
  induction l generalizing k with
  | nil => cases h
  | cons p l ih =>
    rw [tcl_cons]
    cases k with
    | zero => rfl
    | succ k => rw [show (k + 1) * 3 + 1 = k * 3 + 1 + 1 + 1 + 1 by omega, List.getElem?_cons_succ, List.getElem?_cons_succ, List.getElem?_cons_succ]; exact ih k (by simpa using h)
theorem tcl_at2 (l : List (Int × Int × Int)) (k : Nat) (h : k < l.length) : (tcl l)[k * 3 + 2]? = some (.int .i64 (tat l k).2.2) := by
  induction l generalizing k with
  | nil => cases h
  | cons p l ih =>
    rw [tcl_cons]
    cases k with
    | zero => rfl
    | succ k => rw [show (k + 1) * 3 + 2 = k * 3 + 2 + 1 + 1 + 1 by omega, List.getElem?_cons_succ, List.getElem?_cons_succ, List.getElem?_cons_succ]; exact ih k (by simpa using h)
theorem tcl_set (l : List (Int × Int × Int)) (k : Nat) (p : Int × Int × Int) (h : k < l.length) : (((tcl l).set (k * 3) (.int .i64 p.1)).set (k * 3 + 1) (.int .i64 p.2.1)).set (k * 3 + 2) (.int .i64 p.2.2) = tcl (l.set k p) := by
  induction l generalizing k with
  | nil => cases h
  | cons q l ih =>
    cases k with
    | zero => simp [tcl_cons]
    | succ k => rw [tcl_cons, List.set_cons_succ, tcl_cons, show (k + 1) * 3 = k * 3 + 1 + 1 + 1 by omega]; simp only [List.set_cons_succ]; rw [ih k (by simpa using h)]

/-- a slice that reads as these arcs -/
def TrsAt (w : World) (v : Value) (l : List (Int × Int × Int)) : Prop :=
  (l = [] ∧ ∃ A c, v = .slice A 0 c) ∨ ∃ b off c, v = .slice (some ⟨b, off, none⟩) l.length c ∧ b < w.heap.size ∧ ∀ k, k < l.length → w.cell? ⟨b, off + k * 3, none⟩ = some (.int .i64 (tat l k).1) ∧ w.cell? ⟨b, off + k * 3 + 1, none⟩ = some (.int .i64 (tat l k).2.1) ∧ w.cell? ⟨b, off + k * 3 + 2, none⟩ = some (.int .i64 (tat l k).2.2)
theorem TrsAt.below {w w' : World} {v : Value} {l : List (Int × Int × Int)} (h : TrsAt w v l) (hb : Below w.heap.size w w') : TrsAt w' v l := by
  rcases h with h | ⟨b, off, c, h1, h2, h3⟩
  · exact .inl h
  · exact .inr ⟨b, off, c, h1, Nat.lt_of_lt_of_le h2 hb.size, fun k hk => ⟨(hb.cell (p := ⟨b, off + k * 3, none⟩) h2).trans (h3 k hk).1, (hb.cell (p := ⟨b, off + k * 3 + 1, none⟩) h2).trans (h3 k hk).2.1, (hb.cell (p := ⟨b, off + k * 3 + 2, none⟩) h2).trans (h3 k hk).2.2⟩⟩
theorem TrsAt.draws {w : World} {v : Value} {l : List (Int × Int × Int)} (h : TrsAt w v l) (n : Nat) : TrsAt (w.drewN n) v l := h
theorem trs_len {w : World} {v : Value} {l : List (Int × Int × Int)} (h : TrsAt w v l) : ∃ A c, v = .slice A l.length c := by
  rcases h with ⟨rfl, A, c, h⟩ | ⟨b, o, c, h, _⟩
  · exact ⟨A, c, h⟩
  · exact ⟨_, c, h⟩
theorem TrsAt.form {w : World} {v : Value} {l : List (Int × Int × Int)} (h : TrsAt w v l) (hl : 0 < l.length) : ∃ b o c, v = .slice (some ⟨b, o, none⟩) l.length c ∧ b < w.heap.size ∧ ∀ k, k < l.length → w.cell? ⟨b, o + k * 3, none⟩ = some (.int .i64 (tat l k).1) ∧ w.cell? ⟨b, o + k * 3 + 1, none⟩ = some (.int .i64 (tat l k).2.1) ∧ w.cell? ⟨b, o + k * 3 + 2, none⟩ = some (.int .i64 (tat l k).2.2) := by
  rcases h with ⟨rfl, _⟩ | h
  · simp at hl
  · exact h
theorem TrsAt.own {w : World} {base : Nat} {v : Value} {l : List (Int × Int × Int)} (h : w.ownsRow base 76 3 v l.length (tcl l)) : TrsAt w v l := by
  rcases Nat.eq_zero_or_pos l.length with h0 | h0
  · refine .inl ⟨List.eq_nil_of_length_eq_zero h0, ?_⟩
    rcases h.2 with ⟨hv, _⟩ | ⟨g, cap, cur, hv, _⟩
    · exact ⟨none, 0, hv⟩
    · exact ⟨some ⟨g, 0, none⟩, cap, by rw [hv, h0]⟩
  · obtain ⟨g, cap, rfl, _, hlt⟩ := h.form h0
    refine .inr ⟨g, 0, cap, rfl, hlt, fun k hk => ⟨?_, ?_, ?_⟩⟩
    · rw [Nat.zero_add, h.cellAt (k * 3) (by omega), tcl_at0 l k hk]
    · rw [Nat.zero_add, h.cellAt (k * 3 + 1) (by omega), tcl_at1 l k hk]
    · rw [Nat.zero_add, h.cellAt (k * 3 + 2) (by omega), tcl_at2 l k hk]
/-- a grammar -/
structure Gr where
  n : Int
  s : Int
  f : List Int
  a : List (Int × Int × Int)
def grV (n s : Int) (f a : Value) : Value := .agg #[.int .i64 n, .int .i64 s, f, a]
/-- a value that reads as a grammar -/
def GrAt (w : World) (v : Value) (G : Gr) : Prop := ∃ f a, v = grV G.n G.s f a ∧ IntsAt w f G.f ∧ TrsAt w a G.a
theorem GrAt.below {w w' : World} {v : Value} {G : Gr} (h : GrAt w v G) (hb : Below w.heap.size w w') : GrAt w' v G := by
  obtain ⟨f, a, h0, h1, h2⟩ := h
  exact ⟨f, a, h0, h1.below hb, h2.below hb⟩
/-- lengths that a program may reckon with; numbers of 64 bits -/
structure SmG (G : Gr) : Prop where
  f : G.f.length ≤ 1048576
  a : G.a.length ≤ 1048576
  n : (Lit.int .i64 G.n).wf = true
  s : (Lit.int .i64 G.s).wf = true
structure SmG0 (G : Gr) : Prop where
  f : G.f.length ≤ 9223372036854775807
  a : G.a.length ≤ 9223372036854775807
  n : (Lit.int .i64 G.n).wf = true
  s : (Lit.int .i64 G.s).wf = true
theorem gr_form {w : World} {v : Value} {G : Gr} (h : GrAt w v G) : ∃ B b C c, v = .agg #[.int .i64 G.n, .int .i64 G.s, .slice B G.f.length b, .slice C G.a.length c] ∧ IntsAt w (.slice B G.f.length b) G.f ∧ TrsAt w (.slice C G.a.length c) G.a := by
  obtain ⟨f, a, rfl, h1, h2⟩ := h
  obtain ⟨B, b, rfl⟩ := ints_form h1
  obtain ⟨C, c, rfl⟩ := trs_len h2
  exact ⟨B, b, C, c, rfl, h1, h2⟩
theorem cells_arc : Try.prog.cellsOf 136 = 3 := by kernel_rfl
theorem arg_trs_cell {H : Type} {enc : TypeId × Value → H} {W : World} {n : Nat} {v : Value} {y : DataW H × List MemPlace} (h : DataW.trod enc Try.prog W 0 (fun _ => true) true n 23 [v] = some y) :
    ∃ l : List (Int × Int × Int), TrsAt W v l ∧ l.length ≤ 9223372036854775807 := by
  rcases Go.Deep.open_slice Try.underlying23 h with ⟨hcs, hx⟩ | ⟨a, len, cap, m, n', D, Pl, hcs, hba, hl, hm, hmm, hx, hcell⟩
  · simp at hcs
    subst hcs
    exact ⟨[], .inl ⟨rfl, none, 0, rfl⟩, by simp⟩
  · simp at hcs
    subst hcs
    have hml : m = cap := by simpa using hmm
    have each : ∀ i, i < len → ∃ q : Int × Int × Int, W.cell? (a.add (i * 3)) = some (.int .i64 q.1) ∧ W.cell? (a.add (i * 3 + 1)) = some (.int .i64 q.2.1) ∧ W.cell? (a.add (i * 3 + 2)) = some (.int .i64 q.2.2) := fun i hi => by
      obtain ⟨cs', h1, h2⟩ := hcell i (by omega)
      rw [cells_arc] at h1
      obtain ⟨_, hlen, hc⟩ := World.cells?_some h1
      obtain ⟨y0, y1, y2, k, _, _, g0, g1, g2⟩ := Go.Deep.trod_struct3 Try.underlying136 h2
      match cs', hlen with
      | [v0, v1, v2], _ =>
        have e0 := hc 0 (by omega)
        have e1 := hc 1 (by omega)
        have e2 := hc 2 (by omega)
        rw [Go.Deep.add_add] at e0 e1 e2
        simp [cells_i64] at g0 g1 g2
        obtain ⟨p, k0, _, _⟩ := DataW.trod_int Try.underlying2 g0
        obtain ⟨q, k1, _, _⟩ := DataW.trod_int Try.underlying2 g1
        obtain ⟨r, k2, _, _⟩ := DataW.trod_int Try.underlying2 g2
        simp at k0 k1 k2
        subst k0 k1 k2
        exact ⟨(p, q, r), by simpa using e0, by simpa using e1, by simpa using e2⟩
    by_cases hl0 : len = 0
    · subst hl0
      exact ⟨[], .inl ⟨rfl, _, _, rfl⟩, by simp⟩
    · obtain ⟨f, hf⟩ := Go.Deep.choose_lt each
      have hc0 := (hf 0 (by omega)).1
      obtain ⟨b, off, spot⟩ := a
      have hspot : spot = none := by simpa [Addr.add] using World.cell?_spot hc0
      subst hspot
      have hb : b < W.heap.size := by
        rcases Nat.lt_or_ge b W.heap.size with h | h
        · exact h
        · simp [World.cell?, Addr.add, Array.getElem?_eq_none h] at hc0
      have hll : ((List.range len).map f).length = len := by simp
      refine ⟨(List.range len).map f, .inr ⟨b, off, cap, by rw [hll], hb, fun k hk => ?_⟩, by rw [hll]; unfold maxLen at hm; omega⟩
      rw [hll] at hk
      obtain ⟨h1, h2, h3⟩ := hf k hk
      have hp : tat ((List.range len).map f) k = f k := by simp [tat, hk]
      rw [add_off] at h1 h2 h3
      rw [hp]
      exact ⟨h1, by rw [Nat.add_assoc]; exact h2, by rw [Nat.add_assoc]; exact h3⟩
theorem array4 {α : Type} {cs : Array α} (h : cs.size = 4) : ∃ c0 c1 c2 c3, cs = #[c0, c1, c2, c3] := by
  obtain ⟨l⟩ := cs
  match l, h with
  | [c0, c1, c2, c3], _ => exact ⟨c0, c1, c2, c3, rfl⟩
section
variable {H : Type} {enc : TypeId × Value → H} {P : Program} {w : World} {base : Nat} {spare : Nat → Bool} {held : Bool}
theorem trod_struct4 {t : TypeId} {f0 f1 f2 f3 : Field} {fuel : Nat} {cs : List Value} {x : DataW H × List MemPlace} (ht : P.underlying t = some (.struct #[f0, f1, f2, f3])) (h : DataW.trod enc P w base spare held fuel t cs = some x) :
    ∃ y0 y1 y2 y3 n, cs.length = P.cellsOf t ∧ DataW.trod enc P w base spare held n f0.type ((cs.drop f0.offset).take (P.cellsOf f0.type)) = some y0 ∧
      DataW.trod enc P w base spare held n f1.type ((cs.drop f1.offset).take (P.cellsOf f1.type)) = some y1 ∧ DataW.trod enc P w base spare held n f2.type ((cs.drop f2.offset).take (P.cellsOf f2.type)) = some y2 ∧
      DataW.trod enc P w base spare held n f3.type ((cs.drop f3.offset).take (P.cellsOf f3.type)) = some y3 := by
  obtain ⟨xs, n, _, rfl, hl, hlen, hf⟩ := DataW.trod_struct ht h
  match xs, hlen with
  | [y0, y1, y2, y3], _ => exact ⟨y0, y1, y2, y3, n, hl, by simpa using hf 0 f0 rfl, by simpa using hf 1 f1 rfl, by simpa using hf 2 f2 rfl, by simpa using hf 3 f3 rfl⟩
theorem open_agg4 {r : Reach} {b0 : Nat} {t : TypeId} {f0 f1 f2 f3 : Field} {v : Value} {d : DataW H} {p : List MemPlace} (hs : P.underlying t = some (.struct #[f0, f1, f2, f3])) (hone : Go.Deep.oneCellFields P #[f0, f1, f2, f3] = true) (hC : P.cellsOf t = 4)
    (hv : Value.okWide P w r b0 t v) (h : DataW.Trod enc P w base spare held t v d p) :
    ∃ (v0 v1 v2 v3 : Value) (y0 y1 y2 y3 : DataW H × List MemPlace) (n : Nat), v = .agg #[v0, v1, v2, v3] ∧
      DataW.trod enc P w base spare held n f0.type [v0] = some y0 ∧ DataW.trod enc P w base spare held n f1.type [v1] = some y1 ∧ DataW.trod enc P w base spare held n f2.type [v2] = some y2 ∧
      DataW.trod enc P w base spare held n f3.type [v3] = some y3 := by
  obtain ⟨cs, rfl, hsz⟩ := okWide_struct hs hv
  obtain ⟨c0, c1, c2, c3, rfl⟩ := array4 (hsz.trans hC)
  obtain ⟨fuel, hf⟩ := h
  obtain ⟨y0, y1, y2, y3, n, _, h0, h1, h2, h3⟩ := trod_struct4 hs hf
  obtain ⟨o0, k0⟩ := Go.Deep.hone_of hone 0 f0 rfl
  obtain ⟨o1, k1⟩ := Go.Deep.hone_of hone 1 f1 rfl
  obtain ⟨o2, k2⟩ := Go.Deep.hone_of hone 2 f2 rfl
  obtain ⟨o3, k3⟩ := Go.Deep.hone_of hone 3 f3 rfl
  exact ⟨c0, c1, c2, c3, y0, y1, y2, y3, n, rfl, by simpa [Value.cells, o0, k0] using h0, by simpa [Value.cells, o1, k1] using h1, by simpa [Value.cells, o2, k2] using h2, by simpa [Value.cells, o3, k3] using h3⟩
end
set_option maxRecDepth 100000 in
theorem arg_gr {H : Type} {enc : TypeId × Value → H} {W : World} {b0 : Nat} {v : Value} {d : DataW H} {p : List MemPlace} (hval : Value.okWide Try.prog W .any b0 25 v)
    (h : DataW.Trod enc Try.prog W 0 (fun _ => true) true 25 v d p) : ∃ G : Gr, GrAt W v G ∧ SmG0 G := by
  obtain ⟨c0, c1, c2, c3, y0, y1, y2, y3, m, rfl, hy0, hy1, hy2, hy3⟩ := open_agg4 Try.underlying25 (by kernel_rfl) (by kernel_rfl) hval h
  obtain ⟨x, e0, _, wx⟩ := DataW.trod_int Try.underlying2 hy0
  obtain ⟨y, e1, _, wy⟩ := DataW.trod_int Try.underlying2 hy1
  obtain ⟨zf, hf, lf⟩ := arg_ints_cell hy2
  obtain ⟨l, ha, la⟩ := arg_trs_cell hy3
  simp at e0 e1
  subst e0 e1
  exact ⟨⟨x, y, zf, l⟩, ⟨c2, c3, rfl, hf, ha⟩, ⟨lf, la, wx, wy⟩⟩
end Go.Proofs.Ytpbgjlmcafmejaa
