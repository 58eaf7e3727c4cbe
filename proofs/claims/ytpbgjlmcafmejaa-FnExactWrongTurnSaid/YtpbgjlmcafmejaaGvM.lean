/- Valid grammars: plain facts. -/
import Derived.Test.YtpbgjlmcafmejaaGr3
import Derived.Test.YtpbgjlmcafmejaaSc3
namespace Go.Proofs.Ytpbgjlmcafmejaa
open Go.ChangeShapes Go.WideShapes Go.ChangeAt Go.RowKit
set_option linter.unusedVariables false
set_option linter.unusedSimpArgs false
set_option maxRecDepth 100000

def arcB (n : Int) (t : Int × Int × Int) : Bool := inB t.1 0 (n - 1) && (inB t.2.1 (-12) 23 && inB t.2.2 0 (n - 1))
/-- the order of arcs -/
def aLt (p q : Int × Int × Int) : Prop := p.1 < q.1 ∨ (p.1 = q.1 ∧ p.2.1 < q.2.1)
instance (p q : Int × Int × Int) : Decidable (aLt p q) := by unfold aLt; exact inferInstance
def stepA (n : Int) (l : List (Int × Int × Int)) (i : Nat) : Prop := arcB n (tat l i) = true ∧ (0 < i → aLt (tat l (i - 1)) (tat l i))
instance (n : Int) (l : List (Int × Int × Int)) (i : Nat) : Decidable (stepA n l i) := by unfold stepA; exact inferInstance
def arcsB (n : Int) (l : List (Int × Int × Int)) : Bool := decide (∀ i, i < l.length → stepA n l i)
theorem arcs_no {n : Int} {l : List (Int × Int × Int)} (k : Nat) (h : k < l.length) (hs : ¬ stepA n l k) : arcsB n l = false := decide_eq_false (fun hh => hs (hh k h))
theorem arcs_yes {n : Int} {l : List (Int × Int × Int)} (h : ∀ i, i < l.length → stepA n l i) : arcsB n l = true := decide_eq_true h
def okGr (G : Gr) : Bool := inB G.n 1 32 && (inB G.s 0 (G.n - 1) && (riseB 0 (G.n - 1) G.f && (decide (G.a.length ≤ 256) && arcsB G.n G.a)))
structure OkGr (G : Gr) : Prop where
  n : 1 ≤ G.n ∧ G.n ≤ 32
  s : 0 ≤ G.s ∧ G.s < G.n
  fr : ∀ i, i < G.f.length → 0 ≤ G.f.getD i 0 ∧ G.f.getD i 0 < G.n
  fs : ∀ i, i + 1 < G.f.length → G.f.getD i 0 < G.f.getD (i + 1) 0
  l : G.a.length ≤ 256
  ar : ∀ i, i < G.a.length → (0 ≤ (tat G.a i).1 ∧ (tat G.a i).1 < G.n) ∧ (-12 ≤ (tat G.a i).2.1 ∧ (tat G.a i).2.1 ≤ 23) ∧ (0 ≤ (tat G.a i).2.2 ∧ (tat G.a i).2.2 < G.n)
  ao : ∀ i, i + 1 < G.a.length → aLt (tat G.a i) (tat G.a (i + 1))
theorem arcB_iff {n : Int} {t : Int × Int × Int} : arcB n t = true ↔ (0 ≤ t.1 ∧ t.1 < n) ∧ (-12 ≤ t.2.1 ∧ t.2.1 ≤ 23) ∧ (0 ≤ t.2.2 ∧ t.2.2 < n) := by
  unfold arcB inB
  simp only [Bool.and_eq_true, decide_eq_true_eq]
  omega
theorem ok_of {G : Gr} (h : okGr G = true) : OkGr G := by
  unfold okGr at h
  simp only [Bool.and_eq_true] at h
  obtain ⟨h1, h2, h3, h4, h5⟩ := h
  have h1 := inB_yes h1
  have h2 := inB_yes h2
  have h3 : ∀ i, i < G.f.length → (0 ≤ G.f.getD i 0 ∧ G.f.getD i 0 ≤ G.n - 1) ∧ (0 < i → G.f.getD (i - 1) 0 < G.f.getD i 0) := by unfold riseB at h3; exact of_decide_eq_true h3
  have h5 : ∀ i, i < G.a.length → stepA G.n G.a i := by unfold arcsB at h5; exact of_decide_eq_true h5
  refine ⟨h1, ⟨h2.1, by omega⟩, fun i hi => ⟨(h3 i hi).1.1, by have := (h3 i hi).1.2; omega⟩, fun i hi => by have := (h3 (i + 1) hi).2 (by omega); simpa using this, of_decide_eq_true h4, fun i hi => arcB_iff.1 (h5 i hi).1, fun i hi => by have := (h5 (i + 1) hi).2 (by omega); simpa using this⟩
theorem ok_mk {G : Gr} (h : OkGr G) : okGr G = true := by
  unfold okGr
  simp only [Bool.and_eq_true]
  refine ⟨inB_mk h.n, inB_mk ⟨h.s.1, by have := h.s.2; omega⟩, rise_yes (fun i hi => ⟨⟨(h.fr i hi).1, by have := (h.fr i hi).2; omega⟩, fun h0 => ?_⟩), decide_eq_true h.l, arcs_yes (fun i hi => ⟨arcB_iff.2 (h.ar i hi), fun h0 => ?_⟩)⟩
  · obtain ⟨j, rfl⟩ : ∃ j, i = j + 1 := ⟨i - 1, by omega⟩
    simpa using h.fs j hi
  · obtain ⟨j, rfl⟩ : ∃ j, i = j + 1 := ⟨i - 1, by omega⟩
    simpa using h.ao j hi
/-! the program's order of tests -/
def incI (zs : List Int) : Bool := decide (∀ i, i < zs.length - 1 → zs.getD i 0 < zs.getD (i + 1) 0)
def incA (l : List (Int × Int × Int)) : Bool := decide (∀ i, i < l.length - 1 → aLt (tat l i) (tat l (i + 1)))
def stB (n x : Int) : Bool := decide (0 ≤ x ∧ x < n)
def inZ (n : Int) (zs : List Int) : Bool := decide (∀ i, i < zs.length → stB n (zs.getD i 0) = true)
def inA (n : Int) (l : List (Int × Int × Int)) : Bool := decide (∀ i, i < l.length → arcB n (tat l i) = true)
def greatB (n : Int) (l : List (Int × Int × Int)) : Bool := decide (n > 32 ∨ l.length > 256)
theorem ok_split (G : Gr) : okGr G = (!greatB G.n G.a && (stB G.n G.s && (incI G.f && (incA G.a && (inZ G.n G.f && inA G.n G.a))))) := by
  rw [Bool.eq_iff_iff]
  constructor
  · intro h
    have h := ok_of h
    have h1 := h.n
    have h2 := h.s
    have h3 := h.l
    simp only [Bool.and_eq_true, greatB, stB, incI, incA, inZ, inA, decide_eq_true_eq, Bool.not_eq_true', decide_eq_false_iff_not]
    exact ⟨by omega, h2, fun i hi => h.fs i (by omega), fun i hi => h.ao i (by omega), h.fr, fun i hi => arcB_iff.2 (h.ar i hi)⟩
  · intro h
    simp only [Bool.and_eq_true, greatB, stB, incI, incA, inZ, inA, decide_eq_true_eq, Bool.not_eq_true', decide_eq_false_iff_not] at h
    obtain ⟨h1, h2, h3, h4, h5, h6⟩ := h
    exact ok_mk ⟨by omega, h2, h5, fun i hi => h3 i (by omega), by omega, fun i hi => arcB_iff.1 (h6 i hi), fun i hi => h4 i (by omega)⟩
end Go.Proofs.Ytpbgjlmcafmejaa
