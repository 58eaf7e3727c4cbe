/- The laws' own helpers over slices of slices and ragas: sizes, equality. -/
import Derived.Test.YtendfnimhmnioaaDoorRg
namespace Go.Proofs.YtendfnimhmnioaaDoor
open Go.ChangeShapes Go.WideShapes Go.ChangeAt Go.RowKit
set_option linter.unusedVariables false
set_option linter.unusedSimpArgs false
set_option maxRecDepth 100000

def szI (n : Nat) (k : Int) : Int := if k < n then -1 else k - n
/-- what is left, or -1 -/
def SzOut (p : Prop) (k : Int) (w : World) (e : Ending) (w' : World) : Prop := ∃ z : Int, e = .returned (.int .i64 z) ∧ (z = -1 ∨ (0 ≤ z ∧ z ≤ k ∧ p)) ∧ Below w.heap.size w w'
theorem quiet_dr {P : Program} {f : FuncId} {args : Array Value} {w : World} {n : Nat} {v : Value}
    (h : Calls P f args (w.drewN n) fun e w' => e = .returned v ∧ ∃ k, w' = (w.drewN n).drewN k) : Calls P f args (w.drewN n) fun e w'' => e = .returned v ∧ ∃ m, w'' = w.drewN m :=
  h.mono fun _ _ ⟨he, k, hk⟩ => ⟨he, n + k, by rw [hk, World.drewN_drewN]⟩
theorem drmore {w wr : World} (h : ∃ n, wr = w.drewN n) (m : Nat) : ∃ n, wr.drewN m = w.drewN n := by
  obtain ⟨n, rfl⟩ := h
  exact ⟨n + m, by rw [World.drewN_drewN]⟩
theorem rtake_succ (xs ys : List (List Int)) (k : Nat) (h1 : k < xs.length) (h2 : k < ys.length) (hp : xs.take k = ys.take k) (he : xs.getD k [] = ys.getD k []) : xs.take (k + 1) = ys.take (k + 1) := by
  simp only [List.getD, List.getElem?_eq_getElem h1, List.getElem?_eq_getElem h2, Option.getD_some] at he
  rw [List.take_succ_eq_append_getElem h1, List.take_succ_eq_append_getElem h2, hp, he]
theorem rtake_ne (xs ys : List (List Int)) (k : Nat) (hn : xs.getD k [] ≠ ys.getD k []) : xs ≠ ys := by
  rintro rfl; exact hn rfl
/-- one row of a slice of rows -/
theorem rows_at {w : World} {A : Option Addr} {n c : Nat} {L : List (List Int)} (h : RowsAt w (.slice A n c) L) (h0 : 0 < L.length) :
    ∃ b o, A = some ⟨b, o, none⟩ ∧ n = L.length ∧ b < w.heap.size ∧ ∀ k, k < L.length → ∃ A' c', w.cell? ⟨b, o + k, none⟩ = some (.slice A' (L.getD k []).length c') ∧ IntsAt w (.slice A' (L.getD k []).length c') (L.getD k []) := by
  rcases h with ⟨rfl, _⟩ | ⟨b, o, c', e, hb, hx⟩
  · simp at h0
  · injection e with e1 e2 e3
    refine ⟨b, o, e1, e2, hb, fun k hk => ?_⟩
    obtain ⟨u, h1, h2⟩ := hx k hk
    obtain ⟨A', c'', rfl⟩ := ints_form h2
    exact ⟨A', c'', h1, h2⟩
end Go.Proofs.YtendfnimhmnioaaDoor
