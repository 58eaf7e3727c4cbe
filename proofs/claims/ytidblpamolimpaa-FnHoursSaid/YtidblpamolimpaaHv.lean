/- Valid items: the program's test. -/
import Derived.Test.YtidblpamolimpaaHg0
import Derived.Test.YtidblpamolimpaaHc
namespace Go.Proofs.Ytidblpamolimpaa
open Go.ChangeShapes Go.WideShapes Go.ChangeAt Go.RowKit
set_option linter.unusedVariables false
set_option linter.unusedSimpArgs false
set_option maxRecDepth 100000

set_option maxHeartbeats 4000000 in
theorem impl_validitem (x : It) (w : World) (hs : x.nm.size ≤ maxLen) : Calls Try.prog 19 #[itV x] w fun e w' => e = .returned (.bool (itB x)) ∧ Below w.heap.size w w' := by
  have q0 := fun W => impl_name x.nm W hs
  have q1 := fun W => impl_min x.f W
  have q2 := fun W => impl_min x.u W
  have q3 := fun W => impl_sea x.s W
  have HO : Bx (itB x = (nmB x.nm.data.toList && (inB x.f 0 1439 && (inB x.u 0 1439 && (decide (x.f ≠ x.u) && (inB x.s (-1) 5 && (inB x.m 1 240 && inB x.p 0 1000))))))) := Bx.mk rfl
  have HB : Bx (Below w.heap.size w (w.alloc (.cells #[.string x.nm, .int .i64 x.f, .int .i64 x.u, .int .i64 x.s, .int .i64 x.m, .int .i64 x.p] 25))) := Bx.mk ((Below.refl _ _).alloc (Nat.le_refl _) _)
  unfold itV
  obtain ⟨nm, xf, xu, xs, xm, xp⟩ := x
  dsimp only at *
  cases f1 : inB xf 0 1439
  · simp only [f1] at q1
    have HE : Bx (itB ⟨nm, xf, xu, xs, xm, xp⟩ = false) := Bx.mk (HO.out.trans (by simp [f1]))
    clear HO f1
    go_enter Try.func19, Try.ntmps19
    go_wp2_with (fail)
    refine (q1 _).mono ?_
    rintro r w1 ⟨rfl, rfl⟩
    go_wp2_with (fail)
    go_ret
    exact ⟨ret_bool HE.out.symm, HB.out⟩
  · simp only [f1] at q1
    cases f2 : inB xu 0 1439
    · simp only [f2] at q2
      have HE : Bx (itB ⟨nm, xf, xu, xs, xm, xp⟩ = false) := Bx.mk (HO.out.trans (by simp [f2]))
      clear HO f1 f2
      go_enter Try.func19, Try.ntmps19
      go_wp2_with (fail)
      refine (q1 _).mono ?_
      rintro r w1 ⟨rfl, rfl⟩
      go_wp2_with (fail)
      refine (q2 _).mono ?_
      rintro r w1 ⟨rfl, rfl⟩
      go_wp2_with (fail)
      go_ret
      exact ⟨ret_bool HE.out.symm, HB.out⟩
    · simp only [f2] at q2
      by_cases hd : xf = xu
      · subst hd
        have e3 : (xf == xf) = true := by simp
        have HE : Bx (itB ⟨nm, xf, xf, xs, xm, xp⟩ = false) := Bx.mk (HO.out.trans (by simp [f1]))
        clear HO f1 f2
        go_enter Try.func19, Try.ntmps19
        go_wp2_with (fail)
        refine (q1 _).mono ?_
        rintro r w1 ⟨rfl, rfl⟩
        go_wp2_with (fail)
        refine (q2 _).mono ?_
        rintro r w1 ⟨rfl, rfl⟩
        go_wp2_with (fail)
        go_ret
        exact ⟨ret_bool HE.out.symm, HB.out⟩
      · have e3 : (xf == xu) = false := by simpa using hd
        by_cases hs1 : xs = -1
        · have e4 : (xs != -1) = false := by simp [hs1]
          have f3 : inB xs (-1) 5 = true := inB_mk (by omega)
          clear hs1
          cases f0 : nmB nm.data.toList
          · simp only [f0] at q0
            have HE : Bx (itB ⟨nm, xf, xu, xs, xm, xp⟩ = false) := Bx.mk (HO.out.trans (by simp [f0]))
            clear HO f0 f1 f2 hd f3
            go_enter Try.func19, Try.ntmps19
            go_wp2_with (fail)
            refine (q1 _).mono ?_
            rintro r w1 ⟨rfl, rfl⟩
            go_wp2_with (fail)
            refine (q2 _).mono ?_
            rintro r w1 ⟨rfl, rfl⟩
            go_wp2_with (fail)
            refine (q0 _).mono ?_
            rintro r w1 ⟨rfl, rfl⟩
            go_wp2_with (fail)
            go_ret
            exact ⟨ret_bool HE.out.symm, HB.out⟩
          · simp only [f0] at q0
            by_cases m1 : 1 ≤ xm
            rotate_left
            · have m1d : decide (1 ≤ xm) = false := decide_eq_false m1
              have fz : inB xm 1 240 = false := by simp [inB]; omega
              have HE : Bx (itB ⟨nm, xf, xu, xs, xm, xp⟩ = false) := Bx.mk (HO.out.trans (by simp [fz]))
              clear HO fz f0 f1 f2 hd f3 m1
              go_enter Try.func19, Try.ntmps19
              go_wp2_with (fail)
              refine (q1 _).mono ?_
              rintro r w1 ⟨rfl, rfl⟩
              go_wp2_with (fail)
              refine (q2 _).mono ?_
              rintro r w1 ⟨rfl, rfl⟩
              go_wp2_with (fail)
              refine (q0 _).mono ?_
              rintro r w1 ⟨rfl, rfl⟩
              go_wp2_with (fail)
              go_ret
              exact ⟨ret_bool HE.out.symm, HB.out⟩
            have m1d : decide (1 ≤ xm) = true := decide_eq_true m1
            by_cases m2 : xm ≤ 240
            rotate_left
            · have m2d : decide (xm ≤ 240) = false := decide_eq_false m2
              have fz : inB xm 1 240 = false := by simp [inB]; omega
              have HE : Bx (itB ⟨nm, xf, xu, xs, xm, xp⟩ = false) := Bx.mk (HO.out.trans (by simp [fz]))
              clear HO fz f0 f1 f2 hd f3 m2
              go_enter Try.func19, Try.ntmps19
              go_wp2_with (fail)
              refine (q1 _).mono ?_
              rintro r w1 ⟨rfl, rfl⟩
              go_wp2_with (fail)
              refine (q2 _).mono ?_
              rintro r w1 ⟨rfl, rfl⟩
              go_wp2_with (fail)
              refine (q0 _).mono ?_
              rintro r w1 ⟨rfl, rfl⟩
              go_wp2_with (fail)
              go_ret
              exact ⟨ret_bool HE.out.symm, HB.out⟩
            have m2d : decide (xm ≤ 240) = true := decide_eq_true m2
            by_cases m3 : 0 ≤ xp
            rotate_left
            · have m3d : decide (0 ≤ xp) = false := decide_eq_false m3
              have fz : inB xp 0 1000 = false := by simp [inB]; omega
              have HE : Bx (itB ⟨nm, xf, xu, xs, xm, xp⟩ = false) := Bx.mk (HO.out.trans (by simp [fz]))
              clear HO fz f0 f1 f2 hd f3 m3
              go_enter Try.func19, Try.ntmps19
              go_wp2_with (fail)
              refine (q1 _).mono ?_
              rintro r w1 ⟨rfl, rfl⟩
              go_wp2_with (fail)
              refine (q2 _).mono ?_
              rintro r w1 ⟨rfl, rfl⟩
              go_wp2_with (fail)
              refine (q0 _).mono ?_
              rintro r w1 ⟨rfl, rfl⟩
              go_wp2_with (fail)
              go_ret
              exact ⟨ret_bool HE.out.symm, HB.out⟩
            have m3d : decide (0 ≤ xp) = true := decide_eq_true m3
            by_cases m4 : xp ≤ 1000
            rotate_left
            · have m4d : decide (xp ≤ 1000) = false := decide_eq_false m4
              have fz : inB xp 0 1000 = false := by simp [inB]; omega
              have HE : Bx (itB ⟨nm, xf, xu, xs, xm, xp⟩ = false) := Bx.mk (HO.out.trans (by simp [fz]))
              clear HO fz f0 f1 f2 hd f3 m4
              go_enter Try.func19, Try.ntmps19
              go_wp2_with (fail)
              refine (q1 _).mono ?_
              rintro r w1 ⟨rfl, rfl⟩
              go_wp2_with (fail)
              refine (q2 _).mono ?_
              rintro r w1 ⟨rfl, rfl⟩
              go_wp2_with (fail)
              refine (q0 _).mono ?_
              rintro r w1 ⟨rfl, rfl⟩
              go_wp2_with (fail)
              go_ret
              exact ⟨ret_bool HE.out.symm, HB.out⟩
            have m4d : decide (xp ≤ 1000) = true := decide_eq_true m4
            have fm : inB xm 1 240 = true := inB_mk ⟨m1, m2⟩
            have fp : inB xp 0 1000 = true := inB_mk ⟨m3, m4⟩
            have HE : Bx (itB ⟨nm, xf, xu, xs, xm, xp⟩ = true) := Bx.mk (HO.out.trans (by simp [f0, f1, f2, hd, f3, fm, fp]))
            clear HO fm fp f0 f1 f2 hd f3
            go_enter Try.func19, Try.ntmps19
            go_wp2_with (fail)
            refine (q1 _).mono ?_
            rintro r w1 ⟨rfl, rfl⟩
            go_wp2_with (fail)
            refine (q2 _).mono ?_
            rintro r w1 ⟨rfl, rfl⟩
            go_wp2_with (fail)
            refine (q0 _).mono ?_
            rintro r w1 ⟨rfl, rfl⟩
            go_wp2_with (fail)
            go_ret
            exact ⟨ret_bool HE.out.symm, HB.out⟩
        · have e4 : (xs != -1) = true := by simpa using hs1
          cases g3 : inB xs 0 5
          · have f3 : inB xs (-1) 5 = false := by simp [inB] at g3 ⊢; omega
            simp only [g3] at q3
            have HE : Bx (itB ⟨nm, xf, xu, xs, xm, xp⟩ = false) := Bx.mk (HO.out.trans (by simp [f3]))
            clear HO f1 f2 f3 g3 hd hs1
            go_enter Try.func19, Try.ntmps19
            go_wp2_with (fail)
            refine (q1 _).mono ?_
            rintro r w1 ⟨rfl, rfl⟩
            go_wp2_with (fail)
            refine (q2 _).mono ?_
            rintro r w1 ⟨rfl, rfl⟩
            go_wp2_with (fail)
            refine (q3 _).mono ?_
            rintro r w1 ⟨rfl, rfl⟩
            go_wp2_with (fail)
            go_ret
            exact ⟨ret_bool HE.out.symm, HB.out⟩
          · have f3 : inB xs (-1) 5 = true := by simp [inB] at g3 ⊢; omega
            simp only [g3] at q3
            clear g3 hs1
            cases f0 : nmB nm.data.toList
            · simp only [f0] at q0
              have HE : Bx (itB ⟨nm, xf, xu, xs, xm, xp⟩ = false) := Bx.mk (HO.out.trans (by simp [f0]))
              clear HO f0 f1 f2 hd f3
              go_enter Try.func19, Try.ntmps19
              go_wp2_with (fail)
              refine (q1 _).mono ?_
              rintro r w1 ⟨rfl, rfl⟩
              go_wp2_with (fail)
              refine (q2 _).mono ?_
              rintro r w1 ⟨rfl, rfl⟩
              go_wp2_with (fail)
              refine (q3 _).mono ?_
              rintro r w1 ⟨rfl, rfl⟩
              go_wp2_with (fail)
              refine (q0 _).mono ?_
              rintro r w1 ⟨rfl, rfl⟩
              go_wp2_with (fail)
              go_ret
              exact ⟨ret_bool HE.out.symm, HB.out⟩
            · simp only [f0] at q0
              by_cases m1 : 1 ≤ xm
              rotate_left
              · have m1d : decide (1 ≤ xm) = false := decide_eq_false m1
                have fz : inB xm 1 240 = false := by simp [inB]; omega
                have HE : Bx (itB ⟨nm, xf, xu, xs, xm, xp⟩ = false) := Bx.mk (HO.out.trans (by simp [fz]))
                clear HO fz f0 f1 f2 hd f3 m1
                go_enter Try.func19, Try.ntmps19
                go_wp2_with (fail)
                refine (q1 _).mono ?_
                rintro r w1 ⟨rfl, rfl⟩
                go_wp2_with (fail)
                refine (q2 _).mono ?_
                rintro r w1 ⟨rfl, rfl⟩
                go_wp2_with (fail)
                refine (q3 _).mono ?_
                rintro r w1 ⟨rfl, rfl⟩
                go_wp2_with (fail)
                refine (q0 _).mono ?_
                rintro r w1 ⟨rfl, rfl⟩
                go_wp2_with (fail)
                go_ret
                exact ⟨ret_bool HE.out.symm, HB.out⟩
              have m1d : decide (1 ≤ xm) = true := decide_eq_true m1
              by_cases m2 : xm ≤ 240
              rotate_left
              · have m2d : decide (xm ≤ 240) = false := decide_eq_false m2
                have fz : inB xm 1 240 = false := by simp [inB]; omega
                have HE : Bx (itB ⟨nm, xf, xu, xs, xm, xp⟩ = false) := Bx.mk (HO.out.trans (by simp [fz]))
                clear HO fz f0 f1 f2 hd f3 m2
                go_enter Try.func19, Try.ntmps19
                go_wp2_with (fail)
                refine (q1 _).mono ?_
                rintro r w1 ⟨rfl, rfl⟩
                go_wp2_with (fail)
                refine (q2 _).mono ?_
                rintro r w1 ⟨rfl, rfl⟩
                go_wp2_with (fail)
                refine (q3 _).mono ?_
                rintro r w1 ⟨rfl, rfl⟩
                go_wp2_with (fail)
                refine (q0 _).mono ?_
                rintro r w1 ⟨rfl, rfl⟩
                go_wp2_with (fail)
                go_ret
                exact ⟨ret_bool HE.out.symm, HB.out⟩
              have m2d : decide (xm ≤ 240) = true := decide_eq_true m2
              by_cases m3 : 0 ≤ xp
              rotate_left
              · have m3d : decide (0 ≤ xp) = false := decide_eq_false m3
                have fz : inB xp 0 1000 = false := by simp [inB]; omega
                have HE : Bx (itB ⟨nm, xf, xu, xs, xm, xp⟩ = false) := Bx.mk (HO.out.trans (by simp [fz]))
                clear HO fz f0 f1 f2 hd f3 m3
                go_enter Try.func19, Try.ntmps19
                go_wp2_with (fail)
                refine (q1 _).mono ?_
                rintro r w1 ⟨rfl, rfl⟩
                go_wp2_with (fail)
                refine (q2 _).mono ?_
                rintro r w1 ⟨rfl, rfl⟩
                go_wp2_with (fail)
                refine (q3 _).mono ?_
                rintro r w1 ⟨rfl, rfl⟩
                go_wp2_with (fail)
                refine (q0 _).mono ?_
                rintro r w1 ⟨rfl, rfl⟩
                go_wp2_with (fail)
                go_ret
                exact ⟨ret_bool HE.out.symm, HB.out⟩
              have m3d : decide (0 ≤ xp) = true := decide_eq_true m3
              by_cases m4 : xp ≤ 1000
              rotate_left
              · have m4d : decide (xp ≤ 1000) = false := decide_eq_false m4
                have fz : inB xp 0 1000 = false := by simp [inB]; omega
                have HE : Bx (itB ⟨nm, xf, xu, xs, xm, xp⟩ = false) := Bx.mk (HO.out.trans (by simp [fz]))
                clear HO fz f0 f1 f2 hd f3 m4
                go_enter Try.func19, Try.ntmps19
                go_wp2_with (fail)
                refine (q1 _).mono ?_
                rintro r w1 ⟨rfl, rfl⟩
                go_wp2_with (fail)
                refine (q2 _).mono ?_
                rintro r w1 ⟨rfl, rfl⟩
                go_wp2_with (fail)
                refine (q3 _).mono ?_
                rintro r w1 ⟨rfl, rfl⟩
                go_wp2_with (fail)
                refine (q0 _).mono ?_
                rintro r w1 ⟨rfl, rfl⟩
                go_wp2_with (fail)
                go_ret
                exact ⟨ret_bool HE.out.symm, HB.out⟩
              have m4d : decide (xp ≤ 1000) = true := decide_eq_true m4
              have fm : inB xm 1 240 = true := inB_mk ⟨m1, m2⟩
              have fp : inB xp 0 1000 = true := inB_mk ⟨m3, m4⟩
              have HE : Bx (itB ⟨nm, xf, xu, xs, xm, xp⟩ = true) := Bx.mk (HO.out.trans (by simp [f0, f1, f2, hd, f3, fm, fp]))
              clear HO fm fp f0 f1 f2 hd f3
              go_enter Try.func19, Try.ntmps19
              go_wp2_with (fail)
              refine (q1 _).mono ?_
              rintro r w1 ⟨rfl, rfl⟩
              go_wp2_with (fail)
              refine (q2 _).mono ?_
              rintro r w1 ⟨rfl, rfl⟩
              go_wp2_with (fail)
              refine (q3 _).mono ?_
              rintro r w1 ⟨rfl, rfl⟩
              go_wp2_with (fail)
              refine (q0 _).mono ?_
              rintro r w1 ⟨rfl, rfl⟩
              go_wp2_with (fail)
              go_ret
              exact ⟨ret_bool HE.out.symm, HB.out⟩
end Go.Proofs.Ytidblpamolimpaa
