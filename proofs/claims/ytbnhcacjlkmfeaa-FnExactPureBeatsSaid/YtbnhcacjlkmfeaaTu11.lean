/- The model's NearestTone. -/
import Derived.Test.YtbnhcacjlkmfeaaTu8
namespace Go.Proofs.Ytbnhcacjlkmfeaa
open Go.ChangeShapes Go.WideShapes Go.ChangeAt Go.RowKit
set_option linter.unusedVariables false
set_option linter.unusedSimpArgs false
set_option maxRecDepth 100000

theorem spec_abs (x : Int) (w : World) (hx : -1000000000000000 ≤ x ∧ x ≤ 1000000000000000) : Calls Try.prog 49 #[.int .i64 x] w fun e w' => e = .returned (.int .i64 (max x (-x))) ∧ w = w' := by
  have hm := fun W => spec_max x (-x) W
  obtain ⟨x1, x2⟩ := hx
  have E : IntKind.i64.wrap (-x) = -x := IntWalk.i64_in _ (by omega)
  generalize max x (-x) = z at *
  go_enter Try.func49, Try.ntmps49
  go_wp2_with (fail)
  refine (hm _).mono ?_
  rintro e w' ⟨rfl, rfl⟩
  go_wp2_with (fail)
  go_ret
  exact ⟨rfl, rfl⟩
theorem centsT_bd {s : List UInt8} {l : List (Int × Int)} {p : Int} (ht : tunB s l = true) (hp : -12 ≤ p ∧ p ≤ 23) : -500000000000 ≤ centsT l p ∧ centsT l p ≤ 500000000000 := by
  obtain ⟨_, _, hok, _⟩ := tun_yes ht
  obtain ⟨⟨n1, n2⟩, ⟨d1, d2⟩, _⟩ := okR_yes (okTi_yes (hok (p % 12).toNat (by omega))).1
  obtain ⟨z1, z2⟩ := cents_bd ⟨n1, n2⟩ ⟨d1, d2⟩
  unfold centsT
  omega
/-- the nearest of the first pitches, and how far it is off -/
noncomputable def nearT (l : List (Int × Int)) (c : Int) : Nat → Int × Int
  | 0 => (-12, c - centsT l (-12))
  | k + 1 => if max (c - centsT l (-11 + (k : Int))) (-(c - centsT l (-11 + (k : Int)))) < max (nearT l c k).2 (-(nearT l c k).2) then (-11 + (k : Int), c - centsT l (-11 + (k : Int))) else nearT l c k
theorem nearT_bd {s : List UInt8} {l : List (Int × Int)} (ht : tunB s l = true) {c : Int} (hc : -120000 ≤ c ∧ c ≤ 240000) (k : Nat) (hk : k ≤ 35) : (-12 ≤ (nearT l c k).1 ∧ (nearT l c k).1 ≤ 23) ∧ (-600000000000 ≤ (nearT l c k).2 ∧ (nearT l c k).2 ≤ 600000000000) := by
  induction k with
  | zero =>
    have := centsT_bd ht (p := -12) (by omega)
    simp only [nearT]
    omega
  | succ k ih =>
    have h1 := ih (by omega)
    have := centsT_bd ht (p := -11 + (k : Int)) (by omega)
    rw [nearT]
    split
    · simp only []; omega
    · exact h1
/-- NearestTone -/
noncomputable def neE (s : List UInt8) (l : List (Int × Int)) (c : Int) : Int × Int × Int := if tunB s l = true then (if inB c (-120000) 240000 = true then ((nearT l c 35).1, (nearT l c 35).2, 0) else (0, 0, 2)) else (0, 0, 1)
def ThreeOut (t : Int × Int × Int) (w : World) (e : Ending) (w' : World) : Prop := e = .returned (.tuple #[.int .i64 t.1, .int .i64 t.2.1, .int .i64 t.2.2]) ∧ Below w.heap.size w w'
end Go.Proofs.Ytbnhcacjlkmfeaa
