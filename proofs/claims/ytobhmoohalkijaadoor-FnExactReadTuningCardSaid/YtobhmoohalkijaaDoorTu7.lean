/- The model's cents and frequency of a pitch. -/
import Derived.Test.YtobhmoohalkijaaDoorTu6
import Derived.Test.YtobhmoohalkijaaDoorSc3
import Derived.Test.YtobhmoohalkijaaDoorRatB
namespace Go.Proofs.YtobhmoohalkijaaDoor
open Go.ChangeShapes Go.WideShapes Go.ChangeAt Go.RowKit
set_option linter.unusedVariables false
set_option linter.unusedSimpArgs false
set_option maxRecDepth 100000

/-- the cents of a pitch -/
noncomputable def centsT (l : List (Int × Int)) (p : Int) : Int := 120000 * (p / 12) + centsZ (pat l (p % 12).toNat).1 (pat l (p % 12).toNat).2
theorem prs_slice {w : World} {v : Value} {l : List (Int × Int)} (h : PrsAt w v l) (h0 : 0 < l.length) : ∃ b o c, v = .slice (some ⟨b, o, none⟩) l.length c ∧ b < w.heap.size ∧ ∀ k, k < l.length → w.cell? ⟨b, o + k * 2, none⟩ = some (.int .i64 (pat l k).1) ∧ w.cell? ⟨b, o + k * 2 + 1, none⟩ = some (.int .i64 (pat l k).2) := by
  rcases h with ⟨rfl, _⟩ | h
  · cases h0
  · exact h
theorem cell_lt {w : World} {g o : Nat} {u : Value} (h : w.cell? ⟨g, o, none⟩ = some u) : g < w.heap.size := by
  rcases Nat.lt_or_ge g w.heap.size with h1 | h1
  · exact h1
  · simp [World.cell?, Array.getElem?_eq_none h1] at h
end Go.Proofs.YtobhmoohalkijaaDoor
