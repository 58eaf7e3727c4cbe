/- IsAllowed and ReasonOf on both sides. -/
import Derived.Test.YtobhmoohalkijaaRq2
import Derived.Test.YtobhmoohalkijaaRs3
namespace Go.Proofs.Ytobhmoohalkijaa
open Go.ChangeShapes Go.WideShapes Go.ChangeAt Go.RowKit
set_option linter.unusedVariables false
set_option linter.unusedSimpArgs false
set_option maxRecDepth 100000

def inP (p : Int) : Bool := inB p (-12) 23
def allowB (R : Rg) (p q : Int) : Bool := okG R && (inP p && (inP q && decide (reasonZ R p q = 0)))
def whyE (R : Rg) (p q : Int) : Int × Int := if okG R = true then (if inP p = true ∧ inP q = true then (if reasonZ R p q = 0 then (0, 3) else (reasonZ R p q, 0)) else (0, 2)) else (0, 1)
def Out2 (t : Int × Int) (w : World) (e : Ending) (w' : World) : Prop := e = .returned (.tuple #[.int .i64 t.1, .int .i64 t.2]) ∧ Below w.heap.size w w'
theorem out2 {t : Int × Int} {w w' : World} {a b : Int} (h : t = (a, b)) (hb : Below w.heap.size w w') : Out2 t w (.returned (.tuple #[.int .i64 a, .int .i64 b])) w' := by
  subst h; exact ⟨rfl, hb⟩
end Go.Proofs.Ytobhmoohalkijaa
