/- The model's cents. -/
import Derived.Test.YtobhmoohalkijaaDoorRatO
namespace Go.Proofs.YtobhmoohalkijaaDoor
open Go.ChangeShapes Go.WideShapes Go.ChangeAt Go.RowKit
set_option linter.unusedVariables false
set_option linter.unusedSimpArgs false
set_option maxRecDepth 100000

theorem tab_cell (w : World) (i : Nat) (h : i ≤ 32) : (w.alloc (.cells (tabL.map fun z => Value.int .i64 z).toArray 2)).cell? ⟨w.heap.size, i, none⟩ = some (.int .i64 (tabZ i)) := by
  have e := heap_alloc_new w (.cells (tabL.map fun z => Value.int .i64 z).toArray 2)
  have e2 : (tabL.map fun z => Value.int .i64 z).toArray[i]? = some (.int .i64 (tabZ i)) := by
    have : i < tabL.length := by show i < 33; omega
    simp [tabZ, this]
  show (match (w.alloc (.cells (tabL.map fun z => Value.int .i64 z).toArray 2)).heap[w.heap.size]? with | some (Obj.cells c _ _) => c[i]? | _ => none) = _
  rw [e]; exact e2
end Go.Proofs.YtobhmoohalkijaaDoor
