/- Items: the model. -/
import Derived.Test.YtidblpamolimpaaHd
import Derived.Test.YtidblpamolimpaaHc
namespace Go.Proofs.Ytidblpamolimpaa
open Go.ChangeShapes Go.WideShapes Go.ChangeAt Go.RowKit
set_option linter.unusedVariables false
set_option linter.unusedSimpArgs false
set_option maxRecDepth 100000

theorem spec_min (m : Int) (w : World) : Calls Try.prog 24 #[.int .i64 m] w fun e w' => e = .returned (.bool (inB m 0 1439)) ∧ w = w' := by
  go_enter Try.func24, Try.ntmps24
  go_wp2_with (fail)
  refine (in_any _ _ _ _).mono ?_
  rintro r w1 ⟨rfl, rfl⟩
  go_wp2_with (fail)
  go_ret
  exact ⟨rfl, rfl⟩
theorem spec_sea (m : Int) (w : World) : Calls Try.prog 25 #[.int .i64 m] w fun e w' => e = .returned (.bool (inB m 0 5)) ∧ w = w' := by
  go_enter Try.func25, Try.ntmps25
  go_wp2_with (fail)
  refine (in_any _ _ _ _).mono ?_
  rintro r w1 ⟨rfl, rfl⟩
  go_wp2_with (fail)
  go_ret
  exact ⟨rfl, rfl⟩
set_option maxHeartbeats 4000000 in
theorem spec_one (b o : Nat) (x : It) (w : World) (h : C6 w b o x) (hl : b < w.heap.size) (hs : x.nm.size ≤ maxLen) :
    Calls Try.prog 23 #[.pointer (some ⟨b, o, none⟩)] w fun e w' => e = .returned (.bool (itB x)) ∧ ∃ n, w' = w.drewN n := by
  obtain ⟨c0, c1, c2, c3, c4, c5⟩ := h
  have q0 := fun W => spec_name x.nm W hs
  have q1 := fun W => spec_min x.f W
  have q2 := fun W => spec_min x.u W
  have q3 := fun W => in_any x.s (-1) 5 W
  have q4 := fun W => in_any x.m 1 240 W
  have q5 := fun W => in_any x.p 0 1000 W
  have HO : Bx (itB x = (nmB x.nm.data.toList && (inB x.f 0 1439 && (inB x.u 0 1439 && (decide (x.f ≠ x.u) && (inB x.s (-1) 5 && (inB x.m 1 240 && inB x.p 0 1000))))))) := Bx.mk rfl
  obtain ⟨nm, xf, xu, xs, xm, xp⟩ := x
  dsimp only at *

  cases f0 : nmB nm.data.toList
  · simp only [f0] at q0
    have HE : Bx (itB ⟨nm, xf, xu, xs, xm, xp⟩ = false) := Bx.mk (HO.out.trans (by simp [f0]))
    clear HO f0
    go_enter Try.func23, Try.ntmps23
    go_wp2_with (fail)
    go_quiet (first | (go_at_call 40; with_reducible exact quiet_eq (q0 _)) | (go_at_call 24; with_reducible exact quiet_eq (q1 _)) | (go_at_call 24; with_reducible exact quiet_eq (q2 _)) | (go_at_call 41; with_reducible exact quiet_eq (q3 _)) | (go_at_call 41; with_reducible exact quiet_eq (q4 _)) | (go_at_call 41; with_reducible exact quiet_eq (q5 _)))
    go_wp2_with (fail)
    go_ret
    exact ⟨ret_bool HE.out.symm, _, rfl⟩
  · simp only [f0] at q0
    cases f1 : inB xf 0 1439
    · simp only [f1] at q1
      have HE : Bx (itB ⟨nm, xf, xu, xs, xm, xp⟩ = false) := Bx.mk (HO.out.trans (by simp [f0, f1]))
      clear HO f0 f1
      go_enter Try.func23, Try.ntmps23
      go_wp2_with (fail)
      go_quiet (first | (go_at_call 40; with_reducible exact quiet_eq (q0 _)) | (go_at_call 24; with_reducible exact quiet_eq (q1 _)) | (go_at_call 24; with_reducible exact quiet_eq (q2 _)) | (go_at_call 41; with_reducible exact quiet_eq (q3 _)) | (go_at_call 41; with_reducible exact quiet_eq (q4 _)) | (go_at_call 41; with_reducible exact quiet_eq (q5 _)))
      go_wp2_with (fail)
      go_ret
      exact ⟨ret_bool HE.out.symm, _, rfl⟩
    · simp only [f1] at q1
      cases f2 : inB xu 0 1439
      · simp only [f2] at q2
        have HE : Bx (itB ⟨nm, xf, xu, xs, xm, xp⟩ = false) := Bx.mk (HO.out.trans (by simp [f0, f1, f2]))
        clear HO f0 f1 f2
        go_enter Try.func23, Try.ntmps23
        go_wp2_with (fail)
        go_quiet (first | (go_at_call 40; with_reducible exact quiet_eq (q0 _)) | (go_at_call 24; with_reducible exact quiet_eq (q1 _)) | (go_at_call 24; with_reducible exact quiet_eq (q2 _)) | (go_at_call 41; with_reducible exact quiet_eq (q3 _)) | (go_at_call 41; with_reducible exact quiet_eq (q4 _)) | (go_at_call 41; with_reducible exact quiet_eq (q5 _)))
        go_wp2_with (fail)
        go_ret
        exact ⟨ret_bool HE.out.symm, _, rfl⟩
      · simp only [f2] at q2
        by_cases hd : xf = xu
        · subst hd
          have e3 : (xf != xf) = false := by simp
          have HE : Bx (itB ⟨nm, xf, xf, xs, xm, xp⟩ = false) := Bx.mk (HO.out.trans (by simp [f0, f1, f2]))
          clear HO f0 f1 f2
          go_enter Try.func23, Try.ntmps23
          go_wp2_with (fail)
          go_quiet (first | (go_at_call 40; with_reducible exact quiet_eq (q0 _)) | (go_at_call 24; with_reducible exact quiet_eq (q1 _)) | (go_at_call 24; with_reducible exact quiet_eq (q2 _)) | (go_at_call 41; with_reducible exact quiet_eq (q3 _)) | (go_at_call 41; with_reducible exact quiet_eq (q4 _)) | (go_at_call 41; with_reducible exact quiet_eq (q5 _)))
          go_wp2_with (fail)
          go_ret
          exact ⟨ret_bool HE.out.symm, _, rfl⟩
        · have e3 : (xf != xu) = true := by simpa using hd
          cases f4 : inB xs (-1) 5
          · simp only [f4] at q3
            have HE : Bx (itB ⟨nm, xf, xu, xs, xm, xp⟩ = false) := Bx.mk (HO.out.trans (by simp [f0, f1, f2, hd, f4]))
            clear HO f0 f1 f2 hd f4
            go_enter Try.func23, Try.ntmps23
            go_wp2_with (fail)
            go_quiet (first | (go_at_call 40; with_reducible exact quiet_eq (q0 _)) | (go_at_call 24; with_reducible exact quiet_eq (q1 _)) | (go_at_call 24; with_reducible exact quiet_eq (q2 _)) | (go_at_call 41; with_reducible exact quiet_eq (q3 _)) | (go_at_call 41; with_reducible exact quiet_eq (q4 _)) | (go_at_call 41; with_reducible exact quiet_eq (q5 _)))
            go_wp2_with (fail)
            go_ret
            exact ⟨ret_bool HE.out.symm, _, rfl⟩
          · simp only [f4] at q3
            cases f5 : inB xm 1 240
            · simp only [f5] at q4
              have HE : Bx (itB ⟨nm, xf, xu, xs, xm, xp⟩ = false) := Bx.mk (HO.out.trans (by simp [f0, f1, f2, hd, f4, f5]))
              clear HO f0 f1 f2 hd f4 f5
              go_enter Try.func23, Try.ntmps23
              go_wp2_with (fail)
              go_quiet (first | (go_at_call 40; with_reducible exact quiet_eq (q0 _)) | (go_at_call 24; with_reducible exact quiet_eq (q1 _)) | (go_at_call 24; with_reducible exact quiet_eq (q2 _)) | (go_at_call 41; with_reducible exact quiet_eq (q3 _)) | (go_at_call 41; with_reducible exact quiet_eq (q4 _)) | (go_at_call 41; with_reducible exact quiet_eq (q5 _)))
              go_wp2_with (fail)
              go_ret
              exact ⟨ret_bool HE.out.symm, _, rfl⟩
            · simp only [f5] at q4
              cases f6 : inB xp 0 1000
              · simp only [f6] at q5
                have HE : Bx (itB ⟨nm, xf, xu, xs, xm, xp⟩ = false) := Bx.mk (HO.out.trans (by simp [f0, f1, f2, hd, f4, f5, f6]))
                clear HO f0 f1 f2 hd f4 f5 f6
                go_enter Try.func23, Try.ntmps23
                go_wp2_with (fail)
                go_quiet (first | (go_at_call 40; with_reducible exact quiet_eq (q0 _)) | (go_at_call 24; with_reducible exact quiet_eq (q1 _)) | (go_at_call 24; with_reducible exact quiet_eq (q2 _)) | (go_at_call 41; with_reducible exact quiet_eq (q3 _)) | (go_at_call 41; with_reducible exact quiet_eq (q4 _)) | (go_at_call 41; with_reducible exact quiet_eq (q5 _)))
                go_wp2_with (fail)
                go_ret
                exact ⟨ret_bool HE.out.symm, _, rfl⟩
              · simp only [f6] at q5
                have HE : Bx (itB ⟨nm, xf, xu, xs, xm, xp⟩ = true) := Bx.mk (HO.out.trans (by simp [f0, f1, f2, hd, f4, f5, f6]))
                clear HO f0 f1 f2 hd f4 f5 f6
                go_enter Try.func23, Try.ntmps23
                go_wp2_with (fail)
                go_quiet (first | (go_at_call 40; with_reducible exact quiet_eq (q0 _)) | (go_at_call 24; with_reducible exact quiet_eq (q1 _)) | (go_at_call 24; with_reducible exact quiet_eq (q2 _)) | (go_at_call 41; with_reducible exact quiet_eq (q3 _)) | (go_at_call 41; with_reducible exact quiet_eq (q4 _)) | (go_at_call 41; with_reducible exact quiet_eq (q5 _)))
                go_wp2_with (fail)
                go_ret
                exact ⟨ret_bool HE.out.symm, _, rfl⟩
theorem c6_alloc (w : World) (x : It) (t : TypeId) : C6 (w.alloc (.cells #[.string x.nm, .int .i64 x.f, .int .i64 x.u, .int .i64 x.s, .int .i64 x.m, .int .i64 x.p] t)) w.heap.size 0 x := by
  have P := BoxN.at w w.heap.size #[.string x.nm, .int .i64 x.f, .int .i64 x.u, .int .i64 x.s, .int .i64 x.m, .int .i64 x.p] t rfl
  exact ⟨P.c (k := 0) rfl, P.c (k := 1) rfl, P.c (k := 2) rfl, P.c (k := 3) rfl, P.c (k := 4) rfl, P.c (k := 5) rfl⟩
end Go.Proofs.Ytidblpamolimpaa
