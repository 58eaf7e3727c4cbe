/- EndOf, WorthOf, IsProgramme: the model. -/
import Derived.Test.YtidblpamolimpaaHj
import Derived.Test.YtidblpamolimpaaHe3
namespace Go.Proofs.Ytidblpamolimpaa
open Go.ChangeShapes Go.WideShapes Go.ChangeAt Go.RowKit
set_option linter.unusedVariables false
set_option linter.unusedSimpArgs false
set_option maxRecDepth 100000

theorem its_cells {w : World} {A : Option Addr} {c n : Nat} {l : List It} (h : ItsAt w (.slice A n c) l) (h0 : 0 < l.length) : ∃ b o, A = some ⟨b, o, none⟩ ∧ n = l.length ∧ b < w.heap.size ∧ ∀ k, k < l.length → C6 w b (o + k * 6) (iat l k) := by
  obtain ⟨b, o, c', e, hb, hx⟩ := h.form h0
  injection e with e1 e2 e3
  exact ⟨b, o, e1, e2, hb, hx⟩
end Go.Proofs.Ytidblpamolimpaa
