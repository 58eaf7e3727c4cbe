/- The program's octaves. -/
import Derived.Test.YtobhmoohalkijaaDoorRatLc
import Derived.Test.YtobhmoohalkijaaDoorRatJ
namespace Go.Proofs.YtobhmoohalkijaaDoor
open Go.ChangeShapes Go.WideShapes Go.ChangeAt Go.RowKit
set_option linter.unusedVariables false
set_option linter.unusedSimpArgs false
set_option maxRecDepth 100000

def InOctOut (t : Int × Int × Int) (w : World) (e : Ending) (w' : World) : Prop := e = .returned (.tuple #[rat t.1 t.2.1, .int .i64 t.2.2]) ∧ Below w.heap.size w w'
def OctRelA (n d : Int) (w : World) (x : Value) (wr : World) : Prop := ∃ den k : Int, x = .int .i64 k ∧ OctA n d den k ∧ Below w.heap.size w wr ∧ PairAt wr w.heap.size n den ∧ PairAt wr (w.heap.size + 1) 0 0
def OctRelB (n d den : Int) (w : World) (x : Value) (wr : World) : Prop := ∃ num k : Int, x = .int .i64 k ∧ OctB n d num den k ∧ Below w.heap.size w wr ∧ PairAt wr w.heap.size num den ∧ PairAt wr (w.heap.size + 1) 0 0
theorem inoct_open {P : Program} {f : FuncId} {args : Array Value} {t : Int × Int × Int} (h : ∀ W, Calls P f args W (InOctOut t W)) (W : World) : Calls P f args W fun e w' => e = .returned (.tuple #[.agg #[.int .i64 t.1, .int .i64 t.2.1], .int .i64 t.2.2]) ∧ Below W.heap.size W w' := h W
end Go.Proofs.YtobhmoohalkijaaDoor
