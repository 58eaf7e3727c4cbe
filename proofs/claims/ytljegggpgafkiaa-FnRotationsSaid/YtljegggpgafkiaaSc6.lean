/- Scales: rotations and steps, by the model. -/
import Derived.Test.YtljegggpgafkiaaSc5
namespace Go.Proofs.Ytljegggpgafkiaa
open Go.ChangeShapes Go.WideShapes Go.ChangeAt Go.RowKit
set_option linter.unusedVariables false
set_option linter.unusedSimpArgs false
set_option maxRecDepth 100000

theorem Below.of_drawsN {B : Nat} {w w' : World} (n : Nat) (h : Below B (w.drewN n) w') : Below B w w' := (below_draws (Below.refl _ _) n).trans h
theorem lc_mk {t : List Int × Int} {w w' : World} {v : Value} {vs : List Int} (n : Nat) (h : t = (vs, 0)) (ho : w'.ownsRow (w.drewN n).heap.size 2 1 v vs.length (ints vs)) (hb : Below (w.drewN n).heap.size (w.drewN n) w') :
    LCOut t w (.returned (.tuple #[v, .int .i64 0])) w' := lc_some h ho (Below.of_drawsN n hb)
def rotC (zs : List Int) (k : Int) : List Int × Int := if scaleB zs = true then (if inB k 0 ((zs.length : Int) - 1) = true then (rotL zs k.toNat zs.length, 0) else ([], 2)) else ([], 1)
set_option maxHeartbeats 1000000 in
theorem spec_rotatescale (v : Value) (zs : List Int) (k : Int) (w : World) (h : IntsAt w v zs) (hm : zs.length ≤ 281474976710656) :
    Calls Try.prog 26 #[v, .int .i64 k] w (LCOut (rotC zs k) w) := by
  have hsc := fun W h => spec_scale v zs W h hm
  have HI := Bx.mk h
  obtain ⟨A, c, rfl⟩ := h.len
  clear h
  cases h1 : scaleB zs
  · have HE : Bx (rotC zs k = ([], 1)) := Bx.mk (by simp [rotC, h1])
    rw [h1] at hsc
    clear h1
    go_enter Try.func26, Try.ntmps26
    go_wp2_with (fail)
    refine (hsc _ HI.out).mono ?_
    rintro e w' ⟨rfl, n, rfl⟩
    go_wp2_with (fail)
    go_ret2
    exact lc_nil HE.out (below_draws (Below.refl _ _) n)
  · obtain ⟨⟨l1, l2⟩, _, _⟩ := scale_yes h1
    have E1 : IntKind.i64.wrap ((zs.length : Int) - 1) = (zs.length : Int) - 1 := IntWalk.i64_in _ (by omega)
    have hin := fun W => in_any k 0 ((zs.length : Int) - 1) W
    cases h2 : inB k 0 ((zs.length : Int) - 1)
    · have HE : Bx (rotC zs k = ([], 2)) := Bx.mk (by simp [rotC, h1, h2])
      rw [h1] at hsc
      rw [h2] at hin
      clear h1 h2
      go_enter Try.func26, Try.ntmps26
      go_wp2_with (fail)
      refine (hsc _ HI.out).mono ?_
      rintro e w' ⟨rfl, n, rfl⟩
      go_wp2_with (fail)
      refine (hin _).mono ?_
      rintro e w' ⟨rfl, rfl⟩
      go_wp2_with (fail)
      go_ret2
      exact lc_nil HE.out (below_draws (Below.refl _ _) n)
    · obtain ⟨k1, k2⟩ := inB_yes h2
      obtain ⟨k, rfl⟩ := Int.eq_ofNat_of_zero_le k1
      have hk : k < zs.length := by omega
      have HE : Bx (rotC zs k = (rotL zs k zs.length, 0)) := Bx.mk (by simp [rotC, h1, h2])
      have hro := fun W h => spec_rotate (.slice A zs.length c) zs k W h h1 hk
      rw [h1] at hsc
      rw [h2] at hin
      clear h1 h2
      go_enter Try.func26, Try.ntmps26
      go_wp2_with (fail)
      refine (hsc _ HI.out).mono ?_
      rintro e w' ⟨rfl, n, rfl⟩
      go_wp2_with (fail)
      refine (hin _).mono ?_
      rintro e w' ⟨rfl, rfl⟩
      go_wp2_with (fail)
      refine (hro _ (HI.out.draws n)).mono ?_
      intro e w' ho
      obtain ⟨v, rfl, ho, hb⟩ := newrow_parts ho
      go_wp2_with (fail)
      go_ret2
      exact lc_mk n HE.out ho hb
/-- the steps between the first tones -/
def stepL (zs : List Int) (j : Nat) : List Int := (List.range j).map fun i => zs.getD (i + 1) 0 - zs.getD i 0
theorem stepL_succ (zs : List Int) (j : Nat) : stepL zs (j + 1) = stepL zs j ++ [zs.getD (j + 1) 0 - zs.getD j 0] := by simp [stepL, List.range_succ]
theorem stepL_len (zs : List Int) (j : Nat) : (stepL zs j).length = j := by simp [stepL]
def stepsZ (zs : List Int) : List Int := stepL zs (zs.length - 1) ++ [12 - zs.getD (zs.length - 1) 0]
end Go.Proofs.Ytljegggpgafkiaa
