/- Phrases: what the laws' walks share. -/
import Derived.Test.YtidblpamolimpaaLw
import Derived.Test.YtidblpamolimpaaRm
namespace Go.Proofs.Ytidblpamolimpaa
open Go.ChangeShapes Go.WideShapes Go.ChangeAt Go.RowKit
set_option linter.unusedVariables false
set_option linter.unusedSimpArgs false
set_option maxRecDepth 100000

theorem own_capN {w : World} {base e n : Nat} {v : Value} {xs : List Value} (h : w.ownsRow base e 1 v n xs) : ∃ A c, v = .slice A n c ∧ n ≤ c := by
  rcases h.2 with ⟨rfl, rfl⟩ | ⟨g, cap, cur, rfl, _, _, hc, _⟩
  · exact ⟨none, 0, rfl, Nat.le_refl _⟩
  · exact ⟨_, cap, rfl, hc⟩
theorem vout {f : FuncId} {args : Array Value} {W : World} {cv : Value} (h : Calls Try.prog f args W (fun e w' => e = .returned cv ∧ Below W.heap.size W w')) : Calls Try.prog f args W (ValOut cv W) :=
  h.mono fun _ _ ⟨he, hd⟩ => ⟨he, hd⟩
theorem lcrow {f : FuncId} {args : Array Value} {W : World} {t : List Int × Int} (h : Calls Try.prog f args W (fun e w' => ∃ v, e = .returned (.tuple #[v, .int .i64 t.2]) ∧ w'.ownsRow W.heap.size 2 1 v t.1.length (ints t.1) ∧ Below W.heap.size W w')) : Calls Try.prog f args W (RowOut t.1 (.int .i64 t.2) W) := h
end Go.Proofs.Ytidblpamolimpaa
