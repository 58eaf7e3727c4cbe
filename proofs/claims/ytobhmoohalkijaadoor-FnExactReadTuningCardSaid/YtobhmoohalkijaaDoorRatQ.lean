/- The program's cents. -/
import Derived.Test.YtobhmoohalkijaaDoorRatN
import Derived.Test.YtobhmoohalkijaaDoorTabs
namespace Go.Proofs.YtobhmoohalkijaaDoor
open Go.ChangeShapes Go.WideShapes Go.ChangeAt Go.RowKit
set_option linter.unusedVariables false
set_option linter.unusedSimpArgs false
set_option maxRecDepth 100000

theorem quiet_n {P : Program} {f : FuncId} {args : Array Value} {w : World} {n : Nat} {v : Value}
    (h : Calls P f args (w.drewN n) fun e w' => e = .returned v ∧ ∃ m, w' = (w.drewN n).drewN m) : Calls P f args (w.drewN n) fun e w'' => e = .returned v ∧ ∃ m, w'' = w.drewN m :=
  h.mono fun _ _ ⟨he, m, hm⟩ => ⟨he, n + m, by rw [hm]; exact World.drewN_drewN ..⟩
theorem two_open' {P : Program} {f : FuncId} {args : Array Value} {t : Int × Int} {W : World} (h : Calls P f args W (TwoOut t W)) : Calls P f args W fun e w' => e = .returned (.tuple #[.int .i64 t.1, .int .i64 t.2]) ∧ Below W.heap.size W w' := h
theorem octe_open' {P : Program} {f : FuncId} {args : Array Value} {t : (Int × Int) × Int × Int} {W : World} (h : Calls P f args W (OctEOut t W)) : Calls P f args W fun e w' => e = .returned (.tuple #[.agg #[.int .i64 t.1.1, .int .i64 t.1.2], .int .i64 t.2.1, .int .i64 t.2.2]) ∧ Below W.heap.size W w' := h
end Go.Proofs.YtobhmoohalkijaaDoor
