/- KindOf on both sides. -/
import Derived.Test.YtobhmoohalkijaaRi3
namespace Go.Proofs.Ytobhmoohalkijaa
open Go.ChangeShapes Go.WideShapes Go.ChangeAt Go.RowKit
set_option linter.unusedVariables false
set_option linter.unusedSimpArgs false
set_option maxRecDepth 100000

/-- three numbers -/
def Out3 (t : Int × Int × Int) (w : World) (e : Ending) (w' : World) : Prop := e = .returned (.tuple #[.int .i64 t.1, .int .i64 t.2.1, .int .i64 t.2.2]) ∧ Below w.heap.size w w'
theorem out3 {t : Int × Int × Int} {w w' : World} {a b c : Int} (h : t = (a, b, c)) (hb : Below w.heap.size w w') : Out3 t w (.returned (.tuple #[.int .i64 a, .int .i64 b, .int .i64 c])) w' := by
  subst h; exact ⟨rfl, hb⟩
def kindE (R : Rg) : Int × Int × Int := if okG R = true then ((R.u.length : Int), (R.d.length : Int), 0) else (0, 0, 1)
end Go.Proofs.Ytobhmoohalkijaa
