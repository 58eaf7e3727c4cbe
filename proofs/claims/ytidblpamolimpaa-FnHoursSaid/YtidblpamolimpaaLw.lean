/- What the laws' walks share: lengths, values. Lists of lists that came in. -/
import Derived.Test.YtidblpamolimpaaLaw
namespace Go.Proofs.Ytidblpamolimpaa
open Go.ChangeShapes Go.WideShapes Go.ChangeAt Go.RowKit
set_option linter.unusedVariables false
set_option linter.unusedSimpArgs false
set_option maxRecDepth 100000

theorem len_ofI {w : World} {v : Value} {zs : List Int} (h : IntsAt w v zs) : ∃ A c, v = .slice A zs.length c := by
  rcases h with ⟨rfl, A, c, rfl⟩ | ⟨b, off, c, rfl, _⟩
  · exact ⟨A, c, rfl⟩
  · exact ⟨_, c, rfl⟩
theorem vdr {f : FuncId} {args : Array Value} {W : World} {cv : Value} (h : Calls Try.prog f args W (fun e w' => e = .returned cv ∧ ∃ n, w' = W.drewN n)) : Calls Try.prog f args W (ValOut cv W) :=
  h.mono fun _ _ ⟨he, hd⟩ => ⟨he, below_dr hd⟩
end Go.Proofs.Ytidblpamolimpaa
