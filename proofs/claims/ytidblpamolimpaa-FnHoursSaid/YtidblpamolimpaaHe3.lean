/- When items fit: the model. -/
import Derived.Test.YtidblpamolimpaaHe
namespace Go.Proofs.Ytidblpamolimpaa
open Go.ChangeShapes Go.WideShapes Go.ChangeAt Go.RowKit
set_option linter.unusedVariables false
set_option linter.unusedSimpArgs false
set_option maxRecDepth 100000

set_option maxHeartbeats 4000000 in
theorem spec_fits (b o : Nat) (x : It) (t s : Int) (w : World) (h : C6 w b o x) (hl : b < w.heap.size) (hx : OkI x) (ht : 0 ≤ t ∧ t ≤ 1000000000000) (hs : 0 ≤ s) :
    Calls Try.prog 26 #[.pointer (some ⟨b, o, none⟩), .int .i64 t, .int .i64 s] w fun e w' => e = .returned (.bool (fitB x s t)) ∧ ∃ n, w' = w.drewN n := by
  obtain ⟨c0, c1, c2, c3, c4, c5⟩ := h
  have HX := Bx.mk hx
  have HF : Bx (fitB x s t = (seaB x s && winB x t)) := Bx.mk rfl
  have hm : t.tmod 1440 = t % 1440 := Int.tmod_eq_emod_of_nonneg (by omega)
  have hw : IntKind.i64.wrap (t % 1440) = t % 1440 := IntWalk.i64_in _ (by omega)
  have hxs := hx.s
  by_cases hsea : 0 ≤ x.s ∧ x.s ≠ s
  · have HE : Bx (fitB x s t = false) := Bx.mk (by
      rw [HF.out]
      have : seaB x s = false := by unfold seaB; rw [decide_eq_false (by omega), decide_eq_false hsea.2]; rfl
      rw [this]; rfl)
    have d1 : decide (x.s ≥ 0) = true := decide_eq_true hsea.1
    have d2 : (x.s != s) = true := by simpa using hsea.2
    clear HX HF hsea hx
    generalize x.s = xs at *
    go_enter Try.func26, Try.ntmps26
    go_wp2_with (fail)
    go_ret
    exact ⟨ret_bool HE.out.symm, 0, rfl⟩
  · have HE0 : Bx (fitB x s t = winB x t) := Bx.mk (by
      rw [HF.out]
      have : seaB x s = true := by
        unfold seaB
        by_cases h1 : x.s = -1
        · rw [decide_eq_true h1]; rfl
        · have h2 : x.s = s := by omega
          rw [decide_eq_true h2]; simp
      rw [this]; rfl)
    have hd : (x.s < 0) ∨ (0 ≤ x.s ∧ x.s = s) := by omega
    clear HF hsea
    by_cases hfu : x.f < x.u
    · have HE : Bx (fitB x s t = (decide (t % 1440 ≥ x.f) && decide (t % 1440 < x.u))) := Bx.mk (HE0.out.trans (win_lt hx ht.1 hfu))
      have d4 : decide (x.f < x.u) = true := decide_eq_true hfu
      clear HE0 HX hx
      generalize fitB x s t = res at *
      obtain ⟨nm, xf, xu, xs, xm, xp⟩ := x
      dsimp only at *
      generalize t % 1440 = tm at *
      cases g1 : decide (tm ≥ xf)
      · rw [g1] at HE
        rcases hd with hd | ⟨h0, rfl⟩
        · have d1 : decide (xs ≥ 0) = false := decide_eq_false (by omega)
          go_enter Try.func26, Try.ntmps26
          go_wp2_with (fail)
          go_quiet (fail)
          go_wp2_with (fail)
          go_ret
          exact ⟨ret_bool HE.out.symm, _, rfl⟩
        · have d1 : decide (xs ≥ 0) = true := decide_eq_true h0
          have d2 : (xs != xs) = false := by simp
          go_enter Try.func26, Try.ntmps26
          go_wp2_with (fail)
          go_quiet (fail)
          go_wp2_with (fail)
          go_ret
          exact ⟨ret_bool HE.out.symm, _, rfl⟩
      · rw [g1] at HE
        rcases hd with hd | ⟨h0, rfl⟩
        · have d1 : decide (xs ≥ 0) = false := decide_eq_false (by omega)
          go_enter Try.func26, Try.ntmps26
          go_wp2_with (fail)
          go_quiet (fail)
          go_wp2_with (fail)
          go_ret
          exact ⟨ret_bool HE.out.symm, _, rfl⟩
        · have d1 : decide (xs ≥ 0) = true := decide_eq_true h0
          have d2 : (xs != xs) = false := by simp
          go_enter Try.func26, Try.ntmps26
          go_wp2_with (fail)
          go_quiet (fail)
          go_wp2_with (fail)
          go_ret
          exact ⟨ret_bool HE.out.symm, _, rfl⟩
    · have HE : Bx (fitB x s t = (decide (t % 1440 ≥ x.f) || decide (t % 1440 < x.u))) := Bx.mk (HE0.out.trans (win_ge hx ht.1 hfu))
      have d4 : decide (x.f < x.u) = false := decide_eq_false hfu
      clear HE0 HX hx
      generalize fitB x s t = res at *
      obtain ⟨nm, xf, xu, xs, xm, xp⟩ := x
      dsimp only at *
      generalize t % 1440 = tm at *
      cases g1 : decide (tm ≥ xf)
      · rw [g1] at HE
        rcases hd with hd | ⟨h0, rfl⟩
        · have d1 : decide (xs ≥ 0) = false := decide_eq_false (by omega)
          go_enter Try.func26, Try.ntmps26
          go_wp2_with (fail)
          go_quiet (fail)
          go_wp2_with (fail)
          go_ret
          exact ⟨ret_bool HE.out.symm, _, rfl⟩
        · have d1 : decide (xs ≥ 0) = true := decide_eq_true h0
          have d2 : (xs != xs) = false := by simp
          go_enter Try.func26, Try.ntmps26
          go_wp2_with (fail)
          go_quiet (fail)
          go_wp2_with (fail)
          go_ret
          exact ⟨ret_bool HE.out.symm, _, rfl⟩
      · rw [g1] at HE
        rcases hd with hd | ⟨h0, rfl⟩
        · have d1 : decide (xs ≥ 0) = false := decide_eq_false (by omega)
          go_enter Try.func26, Try.ntmps26
          go_wp2_with (fail)
          go_quiet (fail)
          go_wp2_with (fail)
          go_ret
          exact ⟨ret_bool HE.out.symm, _, rfl⟩
        · have d1 : decide (xs ≥ 0) = true := decide_eq_true h0
          have d2 : (xs != xs) = false := by simp
          go_enter Try.func26, Try.ntmps26
          go_wp2_with (fail)
          go_quiet (fail)
          go_wp2_with (fail)
          go_ret
          exact ⟨ret_bool HE.out.symm, _, rfl⟩
end Go.Proofs.Ytidblpamolimpaa
