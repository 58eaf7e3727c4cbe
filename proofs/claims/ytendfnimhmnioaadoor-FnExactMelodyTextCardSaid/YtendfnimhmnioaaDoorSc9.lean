/- Scales: the same list, the rotation to another, by the model. -/
import Derived.Test.YtendfnimhmnioaaDoorSc8
namespace Go.Proofs.YtendfnimhmnioaaDoor
open Go.ChangeShapes Go.WideShapes Go.ChangeAt Go.RowKit
set_option linter.unusedVariables false
set_option linter.unusedSimpArgs false
set_option maxRecDepth 100000

/-- the rotation that makes the one the other -/
def rotTo (xs zs : List Int) : Int × Int := if scaleB xs = true ∧ scaleB zs = true then (match (List.range xs.length).find? (fun k => decide (rotL xs k xs.length = zs)) with
  | some k => ((k : Int), 0)
  | none => (0, 3)) else (0, 1)
theorem rotTo_hit {xs zs : List Int} (h1 : scaleB xs = true) (h2 : scaleB zs = true) (k : Nat) (hk : k < xs.length) (h : rotL xs k xs.length = zs) (hn : ∀ i, i < k → rotL xs i xs.length ≠ zs) : rotTo xs zs = ((k : Int), 0) := by
  have : (List.range xs.length).find? (fun i => decide (rotL xs i xs.length = zs)) = some k := by
    rw [List.find?_range_eq_some]
    exact ⟨by simpa using h, by simpa using hk, fun j hj => by simpa using hn j hj⟩
  unfold rotTo
  rw [if_pos ⟨h1, h2⟩, this]
theorem rotTo_miss {xs zs : List Int} (h1 : scaleB xs = true) (h2 : scaleB zs = true) (hn : ∀ i, i < xs.length → rotL xs i xs.length ≠ zs) : rotTo xs zs = (0, 3) := by
  have : (List.range xs.length).find? (fun i => decide (rotL xs i xs.length = zs)) = none := by
    rw [List.find?_range_eq_none]
    exact fun j hj => by simpa using hn j hj
  unfold rotTo
  rw [if_pos ⟨h1, h2⟩, this]
/-- two numbers, memory perhaps made -/
def IntsOut (t : Int × Int) (w : World) (e : Ending) (w' : World) : Prop := e = .returned (.tuple #[.int .i64 t.1, .int .i64 t.2]) ∧ Below w.heap.size w w'
theorem io_mk {t : Int × Int} {w w' : World} {x c : Int} (h : t = (x, c)) (hb : Below w.heap.size w w') : IntsOut t w (.returned (.tuple #[.int .i64 x, .int .i64 c])) w' := ⟨by rw [h], hb⟩
end Go.Proofs.YtendfnimhmnioaaDoor
