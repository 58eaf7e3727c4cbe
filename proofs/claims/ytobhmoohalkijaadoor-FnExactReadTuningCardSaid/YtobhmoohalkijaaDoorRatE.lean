/- The model's CompareRatios, CentsOf, OctaveOf. -/
import Derived.Test.YtobhmoohalkijaaDoorRatC
namespace Go.Proofs.YtobhmoohalkijaaDoor
open Go.ChangeShapes Go.WideShapes Go.ChangeAt Go.RowKit
set_option linter.unusedVariables false
set_option linter.unusedSimpArgs false
set_option maxRecDepth 100000

def cmpE (n d m e : Int) : Int × Int := if (okR n d && okR m e) = true then (cmpR n d m e, 0) else (0, 1)
/-- what hands back two numbers -/
def TwoOut (t : Int × Int) (w : World) (e : Ending) (w' : World) : Prop := e = .returned (.tuple #[.int .i64 t.1, .int .i64 t.2]) ∧ Below w.heap.size w w'
theorem two_out {t : Int × Int} {w w' : World} {n c : Int} (h : t = (n, c)) (hb : Below w.heap.size w w') : TwoOut t w (.returned (.tuple #[.int .i64 n, .int .i64 c])) w' := by
  subst h; exact ⟨rfl, hb⟩
noncomputable def centE (n d : Int) : Int × Int := if okR n d = true then (centsZ n d, 0) else (0, 1)
/-- a ratio within an octave, how many octaves it was away, and a code -/
noncomputable def octE (n d : Int) : (Int × Int) × Int × Int := if okR n d = true then (if (doneR (octN n d).1 (octN n d).2.1).2.2 = 0 then (((doneR (octN n d).1 (octN n d).2.1).1, (doneR (octN n d).1 (octN n d).2.1).2.1), (octN n d).2.2, 0) else ((0, 0), 0, 5)) else ((0, 0), 0, 1)
def OctEOut (t : (Int × Int) × Int × Int) (w : World) (e : Ending) (w' : World) : Prop := e = .returned (.tuple #[rat t.1.1 t.1.2, .int .i64 t.2.1, .int .i64 t.2.2]) ∧ Below w.heap.size w w'
theorem octe_out {t : (Int × Int) × Int × Int} {w w' : World} {n d k c : Int} (h : t = ((n, d), k, c)) (hb : Below w.heap.size w w') : OctEOut t w (.returned (.tuple #[.agg #[.int .i64 n, .int .i64 d], .int .i64 k, .int .i64 c])) w' := by
  subst h; exact ⟨rfl, hb⟩
theorem done_code (n d : Int) : (doneR n d = (n / gz n d, d / gz n d, 0)) ∨ doneR n d = (0, 0, 5) := by
  unfold doneR; split <;> simp
end Go.Proofs.YtobhmoohalkijaaDoor
