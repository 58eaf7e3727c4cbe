/- Grammars that follow pitches: plain facts. -/
import Derived.Test.YtpbgjlmcafmejaaGvM
namespace Go.Proofs.Ytpbgjlmcafmejaa
open Go.ChangeShapes Go.WideShapes Go.ChangeAt Go.RowKit
set_option linter.unusedVariables false
set_option linter.unusedSimpArgs false
set_option maxRecDepth 100000

/-- does arc i lead from s with p? -/
def arcM (l : List (Int × Int × Int)) (s p : Int) (i : Nat) : Bool := (tat l i).1 == s && (tat l i).2.1 == p
def stepN (l : List (Int × Int × Int)) (s p : Int) : Option Nat := (List.range l.length).find? (arcM l s p)
def stepZ (l : List (Int × Int × Int)) (s p : Int) : Int := match stepN l s p with
  | some i => (tat l i).2.2
  | none => -1
theorem arcM_iff {l : List (Int × Int × Int)} {s p : Int} {i : Nat} : arcM l s p i = true ↔ (tat l i).1 = s ∧ (tat l i).2.1 = p := by simp [arcM]
theorem stepN_hit {l : List (Int × Int × Int)} {s p : Int} (k : Nat) (hk : k < l.length) (h : arcM l s p k = true) (hn : ∀ i, i < k → arcM l s p i = false) : stepN l s p = some k := by
  unfold stepN
  rw [List.find?_range_eq_some]
  exact ⟨h, by simpa using hk, fun j hj => by simpa using hn j hj⟩
theorem stepN_miss {l : List (Int × Int × Int)} {s p : Int} (hn : ∀ i, i < l.length → arcM l s p i = false) : stepN l s p = none := by
  unfold stepN
  rw [List.find?_range_eq_none]
  exact fun j hj => by simpa using hn j hj
theorem stepN_cases (l : List (Int × Int × Int)) (s p : Int) : (stepN l s p = none ∧ ∀ i, i < l.length → arcM l s p i = false) ∨ ∃ k : Nat, stepN l s p = some k ∧ k < l.length ∧ arcM l s p k = true ∧ ∀ i, i < k → arcM l s p i = false := by
  cases h : stepN l s p with
  | none =>
    unfold stepN at h
    rw [List.find?_range_eq_none] at h
    exact .inl ⟨rfl, fun i hi => by simpa using h i hi⟩
  | some k =>
    unfold stepN at h
    rw [List.find?_range_eq_some] at h
    obtain ⟨h1, h2, h3⟩ := h
    exact .inr ⟨k, rfl, by simpa using h2, h1, fun i hi => by simpa using h3 i hi⟩
theorem stepZ_some {l : List (Int × Int × Int)} {s p : Int} {k : Nat} (h : stepN l s p = some k) : stepZ l s p = (tat l k).2.2 := by unfold stepZ; rw [h]
theorem stepZ_none {l : List (Int × Int × Int)} {s p : Int} (h : stepN l s p = none) : stepZ l s p = -1 := by unfold stepZ; rw [h]
/-- in a row that rises, one that matches is the one -/
theorem aLt_trans {a b c : Int × Int × Int} (h : aLt a b) (h' : aLt b c) : aLt a c := by unfold aLt at *; omega
theorem aLt_irr {a b : Int × Int × Int} (h : aLt a b) (h1 : a.1 = b.1) (h2 : a.2.1 = b.2.1) : False := by unfold aLt at h; omega
theorem arcs_rise {l : List (Int × Int × Int)} (h : ∀ i, i + 1 < l.length → aLt (tat l i) (tat l (i + 1))) : ∀ j i, i < j → j < l.length → aLt (tat l i) (tat l j) := by
  intro j
  induction j with
  | zero => intro i hi; omega
  | succ j ih =>
    intro i hi hj
    by_cases hij : i = j
    · subst hij; exact h i hj
    · exact aLt_trans (ih i (by omega) (by omega)) (h j hj)
theorem stepN_only {l : List (Int × Int × Int)} (h : ∀ i, i + 1 < l.length → aLt (tat l i) (tat l (i + 1))) {s p : Int} {k : Nat} (hk : k < l.length) (hm : arcM l s p k = true) : stepN l s p = some k := by
  refine stepN_hit k hk hm (fun i hi => ?_)
  cases hc : arcM l s p i with
  | false => rfl
  | true =>
    have h1 := arcM_iff.1 hm
    have h2 := arcM_iff.1 hc
    exact absurd (arcs_rise h k i hi hk) (fun hh => aLt_irr hh (by rw [h1.1, h2.1]) (by rw [h1.2, h2.2]))
/-- how many pitches can be followed, and the state then -/
def runG (l : List (Int × Int × Int)) : Int → List Int → Nat × Int
  | s, [] => (0, s)
  | s, p :: r => if stepZ l s p < 0 then (0, s) else ((runG l (stepZ l s p) r).1 + 1, (runG l (stepZ l s p) r).2)
theorem runG_stop {l : List (Int × Int × Int)} {s : Int} {zs : List Int} {k : Nat} (hk : k < zs.length) (h : stepZ l s (zs.getD k 0) < 0) : runG l s (zs.drop k) = (0, s) := by
  rw [List.drop_eq_getElem_cons hk, runG, if_pos (by simpa [List.getD, hk] using h)]
theorem runG_go {l : List (Int × Int × Int)} {s : Int} {zs : List Int} {k : Nat} (hk : k < zs.length) (h : ¬ stepZ l s (zs.getD k 0) < 0) : runG l s (zs.drop k) = ((runG l (stepZ l s (zs.getD k 0)) (zs.drop (k + 1))).1 + 1, (runG l (stepZ l s (zs.getD k 0)) (zs.drop (k + 1))).2) := by
  have e : zs.getD k 0 = zs[k] := by simp [List.getD, hk]
  rw [e] at h ⊢
  conv => lhs; rw [List.drop_eq_getElem_cons hk]
  rw [runG, if_neg h]
theorem runG_le (l : List (Int × Int × Int)) : ∀ (zs : List Int) (s : Int), (runG l s zs).1 ≤ zs.length
  | [], s => by simp [runG]
  | p :: r, s => by
    rw [runG]
    split
    · simp
    · have := runG_le l r (stepZ l s p)
      simp only [List.length_cons]
      omega
def accB (G : Gr) (zs : List Int) : Bool := decide ((runG G.a G.s zs).1 = zs.length) && hasB G.f (runG G.a G.s zs).2
def acceptsE (G : Gr) (zs : List Int) : Bool := okGr G && accB G zs
theorem step_rng {G : Gr} (h : OkGr G) (s p : Int) : stepZ G.a s p = -1 ∨ (0 ≤ stepZ G.a s p ∧ stepZ G.a s p < G.n) := by
  rcases stepN_cases G.a s p with ⟨h1, _⟩ | ⟨k, h1, h2, _⟩
  · exact .inl (stepZ_none h1)
  · right
    rw [stepZ_some h1]
    exact (h.ar k h2).2.2
end Go.Proofs.Ytpbgjlmcafmejaa
