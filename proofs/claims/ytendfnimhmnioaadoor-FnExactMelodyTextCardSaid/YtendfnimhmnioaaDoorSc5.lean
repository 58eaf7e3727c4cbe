/- Scales: lists that are made, by the model. -/
import Derived.Test.YtendfnimhmnioaaDoorSc4
import Derived.Test.YtendfnimhmnioaaDoorSplit
import Derived.Deep.RegionHeld3
import Derived.Deep.AppendLies
namespace Go.Proofs.YtendfnimhmnioaaDoor
open Go.ChangeShapes Go.WideShapes Go.ChangeAt Go.RowKit
set_option linter.unusedVariables false
set_option linter.unusedSimpArgs false
set_option maxRecDepth 100000

/-- a new list and a code -/
def LCOut (t : List Int × Int) (w : World) (e : Ending) (w' : World) : Prop :=
  ∃ v, e = .returned (.tuple #[v, .int .i64 t.2]) ∧ w'.ownsRow w.heap.size 2 1 v t.1.length (ints t.1) ∧ Below w.heap.size w w'
theorem lc_nil {t : List Int × Int} {w w' : World} {c : Int} (h : t = ([], c)) (hb : Below w.heap.size w w') : LCOut t w (.returned (.tuple #[.slice none 0 0, .int .i64 c])) w' :=
  ⟨_, by rw [h], by rw [h]; exact World.ownsRow_nil _ _ _ _, hb⟩
theorem lc_some {t : List Int × Int} {w w' : World} {v : Value} {vs : List Int} (h : t = (vs, 0)) (ho : w'.ownsRow w.heap.size 2 1 v vs.length (ints vs)) (hb : Below w.heap.size w w') :
    LCOut t w (.returned (.tuple #[v, .int .i64 0])) w' := ⟨_, by rw [h], by rw [h]; exact ho, hb⟩
def NewRow (vs : List Int) (w : World) (e : Ending) (w' : World) : Prop := ∃ v, e = .returned v ∧ w'.ownsRow w.heap.size 2 1 v vs.length (ints vs) ∧ Below w.heap.size w w'
theorem newrow_parts {vs : List Int} {w : World} {e : Ending} {w' : World} (h : NewRow vs w e w') : ∃ v, e = .returned v ∧ w'.ownsRow w.heap.size 2 1 v vs.length (ints vs) ∧ Below w.heap.size w w' := h
theorem ints_snoc' (vs : List Int) (v : Int) : ints (vs ++ [v]) = ints vs ++ [.int .i64 v] := by simp [ints]
theorem own_far {w : World} {base e size n b : Nat} {v : Value} {xs : List Value} (h : w.ownsRow base e size v n xs) (hb : b < base) : v.ownBlock ≠ some b := by
  rcases h.2 with ⟨rfl, _⟩ | ⟨g, cap, cur, rfl, hg, _⟩
  · simp [Value.ownBlock]
  · simp [Value.ownBlock]; omega
/-- the scale that begins with another tone, its first tones -/
def rotL (zs : List Int) (k : Nat) (j : Nat) : List Int := (List.range j).map fun i => (zs.getD ((k + i) % zs.length) 0 - zs.getD k 0) % 12
theorem rotL_succ (zs : List Int) (k j : Nat) : rotL zs k (j + 1) = rotL zs k j ++ [(zs.getD ((k + j) % zs.length) 0 - zs.getD k 0) % 12] := by simp [rotL, List.range_succ]
theorem rotL_len (zs : List Int) (k j : Nat) : (rotL zs k j).length = j := by simp [rotL]
end Go.Proofs.YtendfnimhmnioaaDoor
