/- Scales: rotations and steps, by the model. -/
import Derived.Test.YtendfnimhmnioaaDoorSc5
namespace Go.Proofs.YtendfnimhmnioaaDoor
open Go.ChangeShapes Go.WideShapes Go.ChangeAt Go.RowKit
set_option linter.unusedVariables false
set_option linter.unusedSimpArgs false
set_option maxRecDepth 100000

theorem Below.of_drawsN {B : Nat} {w w' : World} (n : Nat) (h : Below B (w.drewN n) w') : Below B w w' := (below_draws (Below.refl _ _) n).trans h
theorem lc_mk {t : List Int × Int} {w w' : World} {v : Value} {vs : List Int} (n : Nat) (h : t = (vs, 0)) (ho : w'.ownsRow (w.drewN n).heap.size 2 1 v vs.length (ints vs)) (hb : Below (w.drewN n).heap.size (w.drewN n) w') :
    LCOut t w (.returned (.tuple #[v, .int .i64 0])) w' := lc_some h ho (Below.of_drawsN n hb)
def rotC (zs : List Int) (k : Int) : List Int × Int := if scaleB zs = true then (if inB k 0 ((zs.length : Int) - 1) = true then (rotL zs k.toNat zs.length, 0) else ([], 2)) else ([], 1)
/-- the steps between the first tones -/
def stepL (zs : List Int) (j : Nat) : List Int := (List.range j).map fun i => zs.getD (i + 1) 0 - zs.getD i 0
theorem stepL_succ (zs : List Int) (j : Nat) : stepL zs (j + 1) = stepL zs j ++ [zs.getD (j + 1) 0 - zs.getD j 0] := by simp [stepL, List.range_succ]
theorem stepL_len (zs : List Int) (j : Nat) : (stepL zs j).length = j := by simp [stepL]
def stepsZ (zs : List Int) : List Int := stepL zs (zs.length - 1) ++ [12 - zs.getD (zs.length - 1) 0]
end Go.Proofs.YtendfnimhmnioaaDoor
