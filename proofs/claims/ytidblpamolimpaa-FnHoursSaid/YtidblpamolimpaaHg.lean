/- Valid items: the program. -/
import Derived.Test.YtidblpamolimpaaHf
import Derived.Test.YtidblpamolimpaaHg0
import Derived.Test.YtidblpamolimpaaShelf
namespace Go.Proofs.Ytidblpamolimpaa
open Go.ChangeShapes Go.WideShapes Go.ChangeAt Go.RowKit
set_option linter.unusedVariables false
set_option linter.unusedSimpArgs false
set_option maxRecDepth 100000

theorem impl_moment (m s : Int) (w : World) : Calls Try.prog 20 #[.int .i64 m, .int .i64 s] w fun e w' => e = .returned (.bool (inB m 0 1439 && inB s 0 5)) ∧ w = w' := by
  have q1 := fun W => impl_min m W
  have q2 := fun W => impl_sea s W
  cases f1 : inB m 0 1439
  · simp only [f1] at q1
    go_enter Try.func20, Try.ntmps20
    go_wp2_with (fail)
    refine (q1 _).mono ?_
    rintro r w1 ⟨rfl, rfl⟩
    go_wp2_with (fail)
    go_ret
    exact ⟨rfl, rfl⟩
  · simp only [f1] at q1
    go_enter Try.func20, Try.ntmps20
    go_wp2_with (fail)
    refine (q1 _).mono ?_
    rintro r w1 ⟨rfl, rfl⟩
    go_wp2_with (fail)
    refine (q2 _).mono ?_
    rintro r w1 ⟨rfl, rfl⟩
    go_wp2_with (fail)
    go_ret
    exact ⟨by simp, rfl⟩
theorem impl_played (x : It) (s : Int) (w : World) : Calls Try.prog 21 #[itV x, .int .i64 s] w fun e w' => e = .returned (.bool (seaB x s)) ∧ Below w.heap.size w w' := by
  have HB : Bx (Below w.heap.size w (w.alloc (.cells #[.string x.nm, .int .i64 x.f, .int .i64 x.u, .int .i64 x.s, .int .i64 x.m, .int .i64 x.p] 25))) := Bx.mk ((Below.refl _ _).alloc (Nat.le_refl _) _)
  unfold itV
  by_cases h1 : x.s = -1
  · have HE : Bx (seaB x s = true) := Bx.mk (by simp [seaB, h1])
    have d1 : (x.s == -1) = true := by simp [h1]
    clear h1
    go_enter Try.func21, Try.ntmps21
    go_wp2_with (fail)
    go_ret
    exact ⟨ret_bool HE.out.symm, HB.out⟩
  · have d1 : (x.s == -1) = false := by simp [h1]
    by_cases h2 : x.s = s
    · have HE : Bx (seaB x s = true) := Bx.mk (by simp [seaB, h2])
      have d2 : (x.s == s) = true := by simp [h2]
      clear h1 h2
      go_enter Try.func21, Try.ntmps21
      go_wp2_with (fail)
      go_ret
      exact ⟨ret_bool HE.out.symm, HB.out⟩
    · have HE : Bx (seaB x s = false) := Bx.mk (by simp [seaB, h1, h2])
      have d2 : (x.s == s) = false := by simp [h2]
      clear h1 h2
      go_enter Try.func21, Try.ntmps21
      go_wp2_with (fail)
      go_ret
      exact ⟨ret_bool HE.out.symm, HB.out⟩
theorem impl_behind (m t : Int) (w : World) (hm : 0 ≤ m ∧ m ≤ 1439) (ht : 0 ≤ t ∧ t ≤ 1000000000000) : Calls Try.prog 38 #[.int .i64 m, .int .i64 t] w fun e w' => e = .returned (.int .i64 ((t - m + 1440) % 1440)) ∧ w = w' := by
  have h1 : (t - m + 1440).tmod 1440 = (t - m + 1440) % 1440 := Int.tmod_eq_emod_of_nonneg (by omega)
  have h2 : IntKind.i64.wrap ((t - m + 1440) % 1440) = (t - m + 1440) % 1440 := IntWalk.i64_in _ (by omega)
  have h3 : IntKind.i64.wrap (t - m + 1440) = t - m + 1440 := IntWalk.i64_in _ (by omega)
  have h4 : IntKind.i64.wrap (t - m) = t - m := IntWalk.i64_in _ (by omega)
  go_enter Try.func38, Try.ntmps38
  go_wp2_with (fail)
  go_ret
  exact ⟨by first | rfl | (rw [h1]) | (rw [h1, h2]) | simp [h1, h2, h3, h4], rfl⟩
theorem impl_cmpn (x y : It) (w : World) : Calls Try.prog 43 #[itV x, itV y] w fun e w' => e = .returned (.int .i64 (Lib.compareBytes x.nm.data.toList y.nm.data.toList)) ∧ Below w.heap.size w w' := by
  have hq := fun W => Try.strings_Compare x.nm y.nm W
  have HB : Bx (Below w.heap.size w ((w.alloc (.cells #[.string x.nm, .int .i64 x.f, .int .i64 x.u, .int .i64 x.s, .int .i64 x.m, .int .i64 x.p] 25)).alloc (.cells #[.string y.nm, .int .i64 y.f, .int .i64 y.u, .int .i64 y.s, .int .i64 y.m, .int .i64 y.p] 25))) := Bx.mk (((Below.refl _ _).alloc (Nat.le_refl _) _).alloc (by simp) _)
  unfold itV
  go_enter Try.func43, Try.ntmps43
  go_wp2_with (fail)
  refine (hq _).mono ?_
  rintro r w1 ⟨rfl, rfl⟩
  go_wp2_with (fail)
  go_ret
  exact ⟨rfl, HB.out⟩
end Go.Proofs.Ytidblpamolimpaa
