/- The program's functions of chapter 2 that hand back a ratio. -/
import Derived.Test.YtobhmoohalkijaaDoorRatI
namespace Go.Proofs.YtobhmoohalkijaaDoor
open Go.ChangeShapes Go.WideShapes Go.ChangeAt Go.RowKit
set_option linter.unusedVariables false
set_option linter.unusedSimpArgs false
set_option maxRecDepth 100000

theorem PairAt.drew1 {w : World} {g : Nat} {n d : Int} (h : PairAt w g n d) : PairAt w.drew g n d := h
theorem PairAt.put0 {w : World} {g : Nat} {n d : Int} (h : PairAt w g n d) (m : Int) : PairAt (w.setCell ⟨g, 0, none⟩ (.int .i64 m)) g m d := heap_setCell_same w g 0 _ _ (.int .i64 m) h
theorem PairAt.put1 {w : World} {g : Nat} {n d : Int} (h : PairAt w g n d) (m : Int) : PairAt (w.setCell ⟨g, 1, none⟩ (.int .i64 m)) g n m := heap_setCell_same w g 1 _ _ (.int .i64 m) h
theorem PairAt.other2 {w : World} {g b o : Nat} {n d : Int} (hg : b ≠ g) (h : PairAt w g n d) (u : Value) : PairAt (w.setCell ⟨b, o, none⟩ u) g n d := h.other hg u
end Go.Proofs.YtobhmoohalkijaaDoor
