/- 'laws.FnExactWrongTurn' returns true at every input: WrongTurn on both sides is one function. -/
import Derived.Test.YtpbgjlmcafmejaaGw3
import Derived.Test.YtpbgjlmcafmejaaGm
import Derived.Deep.RegionWith
import Derived.Deep.RegionHeld3
namespace Go.Proofs.Ytpbgjlmcafmejaa.fnExactWrongTurn
open Go.ChangeShapes Go.WideShapes Go.ChangeAt Go.RowKit
set_option linter.unusedVariables false
set_option linter.unusedSimpArgs false
set_option maxRecDepth 100000

set_option maxHeartbeats 8000000 in
theorem walk (R0 : Gr) (v0 : Value) {w : World} (w0 : GrAt w v0 R0 ∧ SmG0 R0) (v1 : Value) (zs1 : List Int) (w1 : IntsAt w v1 zs1 ∧ zs1.length ≤ 9223372036854775807) :
    Calls Try.prog 7 #[v0, v1] w fun e w' => e = .returned (.bool true) ∧ Below w.heap.size w w' := by
  obtain ⟨hi0, hm0⟩ := w0
  have HR0 := Bx.mk hi0
  obtain ⟨B0, b0, C0, c0, rfl, _, _⟩ := gr_form hi0
  clear hi0
  obtain ⟨hi1, hm1⟩ := w1
  have HR1 := Bx.mk hi1
  obtain ⟨A1, c1, rfl⟩ := ints_form hi1
  clear hi1
  have X0 := BoxN.at w (w.heap.size) #[.int .i64 R0.n, .int .i64 R0.s, .slice B0 R0.f.length b0, .slice C0 R0.a.length c0] 25 (by simp)
  have hb : Below w.heap.size w (w.alloc (.cells #[.int .i64 R0.n, .int .i64 R0.s, .slice B0 R0.f.length b0, .slice C0 R0.a.length c0] 25)) := ((Below.refl _ _).alloc (Nat.le_refl _) _)
  generalize hW : w.alloc (.cells #[.int .i64 R0.n, .int .i64 R0.s, .slice B0 R0.f.length b0, .slice C0 R0.a.length c0] 25) = q0 at hb X0
  have B_0 := Bx.mk hb
  have X0_0 := Bx.mk X0
  clear hb X0
  have y0_0 := X0_0.out.c (k := 0) rfl
  have y0_1 := X0_0.out.c (k := 1) rfl
  have y0_2 := X0_0.out.c (k := 2) rfl
  have y0_3 := X0_0.out.c (k := 3) rfl
  have y0_l := X0_0.out.lt
  rcases Nat.lt_or_ge 1048576 zs1.length with hz | hz1
  · have db : decide ((zs1.length : Int) > 1048576) = true := decide_eq_true (by omega)
    go_enter Try.func7, Try.ntmps7
    go_wp2_with (fail)
    go_ret
    exact ⟨rfl, B_0.out⟩
  have db1 : decide ((zs1.length : Int) > 1048576) = false := decide_eq_false (by omega)
  go_enter Try.func7, Try.ntmps7
  go_wp2_with (fail)
  try clear hW
  refine (sz_gr _ R0 1048576 (by decide) _ (HR0.out.below B_0.out) hm0).mono ?_
  rintro e1 q1 ⟨z0, rfl, hz0, hb⟩
  have hxb : Below q0.heap.size q0 q1 := hb
  have SZ0 : Bx (w.heap.size ≤ q0.heap.size) := Bx.mk B_0.out.size
  have XL0 : Bx (w.heap.size < q0.heap.size) := Bx.mk X0_0.out.lt
  have SZ1 : Bx (q0.heap.size ≤ q1.heap.size) := Bx.mk hxb.size
  clear hxb 
  have B_1 := Bx.mk (B_0.out.trans (hb.mono B_0.out.size))
  have X0_1 := Bx.mk (X0_0.out.below hb)
  clear B_0 X0_0 y0_0 y0_1 y0_2 y0_3 y0_l hb
  have y0_0 := X0_1.out.c (k := 0) rfl
  have y0_1 := X0_1.out.c (k := 1) rfl
  have y0_2 := X0_1.out.c (k := 2) rfl
  have y0_3 := X0_1.out.c (k := 3) rfl
  have y0_l := X0_1.out.lt
  rcases hz0 with rfl | ⟨hy0, hx0, SM0⟩
  · go_wp2_with (fail)
    go_ret
    exact ⟨rfl, B_1.out⟩
  have SM0 := Bx.mk SM0
  have hd0 : decide (z0 < 0) = false := decide_eq_false (by omega)
  go_wp2_with (fail)
  clear hm0
  have hs := fun va vb W (h : GrAt W va R0) (h' : IntsAt W vb zs1) => spec_wrongturn va vb R0 zs1 W h SM0.out h' hz1
  have hi := fun va vb W (h : GrAt W va R0) (c : capG va R0) (h' : IntsAt W vb zs1) => impl_wrongturn va vb R0 zs1 W h c SM0.out h' hz1
  unfold WOut at hs hi
  have HLn : (wrongE R0 zs1).2.1.length ≤ 1048576 := wrong_len SM0.out
  generalize wrongE R0 zs1 = t at hs hi HLn
  obtain ⟨rr, ys, cc⟩ := t
  dsimp only at hs hi HLn
  have heqi := fun va vb W (h : IntsAt W va ys) (h' : IntsAt W vb ys) => (eq_ints va vb ys ys W h h' (by omega) (by omega)).mono (fun _ _ h => And.intro h.1 (quietB h.2))
  simp only [decide_true] at heqi
  have heq1 := fun va vb W (h : IntsAt W va zs1) (h' : IntsAt W vb zs1) => (eq_ints va vb zs1 zs1 W h h' (by omega) (by omega)).mono (fun _ _ h => And.intro h.1 (quietB h.2))
  simp only [decide_true] at heq1
  have hheld := fun v W (h : IntsAt W v (marks ys.length 1)) => (held_ints v ys.length 1 W h (by omega) (by omega) (by omega)).mono (fun e w' (hh : _ ∧ _) => (⟨hh.1, hh.2 ▸ Below.refl _ _⟩ : e = .returned (.int .i64 (1 + (ys.length : Int))) ∧ Below W.heap.size W w'))
  have hdq : decide (1 + (ys.length : Int) < 0) = false := decide_eq_false (by omega)
  refine (gr_copyC _ R0 _ (HR0.out.below (B_1.out)) SM0.out).mono ?_
  rintro e2 q2 ⟨vs0, rfl, hr, hcp, hb⟩
  have Vs0_2 := Bx.mk hr
  have CPs0 := Bx.mk hcp
  obtain ⟨Bs0, bs0, Cs0, cs0, rfl, _, _⟩ := gr_form hr
  clear hr hcp
  have hxb : Below q1.heap.size q1 q2 := hb
  have SZ2 : Bx (q1.heap.size ≤ q2.heap.size) := Bx.mk hxb.size
  clear hxb 
  have B_2 := Bx.mk (B_1.out.trans (hb.mono B_1.out.size))
  have X0_2 := Bx.mk (X0_1.out.below hb)
  clear B_1 X0_1 y0_0 y0_1 y0_2 y0_3 y0_l hb
  have y0_0 := X0_2.out.c (k := 0) rfl
  have y0_1 := X0_2.out.c (k := 1) rfl
  have y0_2 := X0_2.out.c (k := 2) rfl
  have y0_3 := X0_2.out.c (k := 3) rfl
  have y0_l := X0_2.out.lt
  go_wp2_with (fail)
  refine (copy_ints _ zs1 _ (HR1.out.below (B_2.out)) (by omega)).mono ?_
  rintro e3 q3 ⟨vs1, rfl, ho, hb⟩
  have Vs1_3 := Bx.mk (IntsAt.own ho)
  obtain ⟨As1, cs1, rfl⟩ := own_len ho
  clear ho
  have hxb : Below q2.heap.size q2 q3 := hb
  have SZ3 : Bx (q2.heap.size ≤ q3.heap.size) := Bx.mk hxb.size
  clear hxb 
  have B_3 := Bx.mk (B_2.out.trans (hb.mono B_2.out.size))
  have X0_3 := Bx.mk (X0_2.out.below hb)
  have Vs0_3 := Bx.mk (Vs0_2.out.below hb)
  clear B_2 X0_2 Vs0_2 y0_0 y0_1 y0_2 y0_3 y0_l hb
  have y0_0 := X0_3.out.c (k := 0) rfl
  have y0_1 := X0_3.out.c (k := 1) rfl
  have y0_2 := X0_3.out.c (k := 2) rfl
  have y0_3 := X0_3.out.c (k := 3) rfl
  have y0_l := X0_3.out.lt
  go_wp2_with (fail)
  refine (hs _ _ _ Vs0_3.out Vs1_3.out).mono ?_
  rintro e4 q4 ⟨vw, rfl, ho, hb⟩
  obtain ⟨Aw, cw, rfl⟩ := own_len ho
  have Ow_4 := Bx.mk ho
  have Uw := Bx.mk (own_hi ho)
  clear ho
  have hxb : Below q3.heap.size q3 q4 := hb
  have SZ4 : Bx (q3.heap.size ≤ q4.heap.size) := Bx.mk hxb.size
  clear hxb 
  have B_4 := Bx.mk (B_3.out.trans (hb.mono B_3.out.size))
  have X0_4 := Bx.mk (X0_3.out.below hb)
  have Vs0_4 := Bx.mk (Vs0_3.out.below hb)
  have Vs1_4 := Bx.mk (Vs1_3.out.below hb)
  clear B_3 X0_3 Vs0_3 Vs1_3 y0_0 y0_1 y0_2 y0_3 y0_l hb
  have y0_0 := X0_4.out.c (k := 0) rfl
  have y0_1 := X0_4.out.c (k := 1) rfl
  have y0_2 := X0_4.out.c (k := 2) rfl
  have y0_3 := X0_4.out.c (k := 3) rfl
  have y0_l := X0_4.out.lt
  go_wp2_with (fail)
  refine (copy_gr _ R0 _ (HR0.out.below (B_4.out)) SM0.out).mono ?_
  rintro e5 q5 ⟨vf, va, rfl, hf, ha, hn, hb⟩
  have Vx0_5 : Bx (GrAt q5 _ R0) := Bx.mk ⟨vf, va, rfl, IntsAt.own hf, TrsAt.own ha⟩
  have MU := Bx.mk (And.intro hn (And.intro (own_hi hf) (own_hi ha)))
  have OF_5 := Bx.mk hf
  have OA_5 := Bx.mk ha
  obtain ⟨Bx0, bx0, rfl⟩ := own_len hf
  obtain ⟨Cx0, cx0, rfl, hcp⟩ := own_cap3 ha
  have CPx0 : Bx (capG (grV R0.n R0.s (.slice Bx0 R0.f.length bx0) (.slice Cx0 R0.a.length cx0)) R0) := Bx.mk ⟨_, _, _, rfl, hcp⟩
  unfold grV at *
  clear hf ha hn hcp
  have hxb : Below q4.heap.size q4 q5 := hb
  have SZ5 : Bx (q4.heap.size ≤ q5.heap.size) := Bx.mk hxb.size
  have Ow_5 := Bx.mk (own_below Ow_4.out hxb)
  clear hxb  Ow_4
  have B_5 := Bx.mk (B_4.out.trans (hb.mono B_4.out.size))
  have X0_5 := Bx.mk (X0_4.out.below hb)
  have Vs0_5 := Bx.mk (Vs0_4.out.below hb)
  have Vs1_5 := Bx.mk (Vs1_4.out.below hb)
  clear B_4 X0_4 Vs0_4 Vs1_4 y0_0 y0_1 y0_2 y0_3 y0_l hb
  have y0_0 := X0_5.out.c (k := 0) rfl
  have y0_1 := X0_5.out.c (k := 1) rfl
  have y0_2 := X0_5.out.c (k := 2) rfl
  have y0_3 := X0_5.out.c (k := 3) rfl
  have y0_l := X0_5.out.lt
  go_wp2_with (fail)
  refine (copy_ints _ zs1 _ (HR1.out.below (B_5.out.alloc B_5.out.size _)) (by omega)).mono ?_
  rintro e6 q6 ⟨vu, rfl, ho, hb⟩
  obtain ⟨Au, cu, rfl⟩ := own_len ho
  have ho := owndown (b1 := q5.heap.size + 1) (by simp) ho
  have Ou_6 := Bx.mk ho
  have Uu := Bx.mk (own_hi ho)
  clear ho
  have hxb : Below q5.heap.size q5 q6 := ((Below.refl _ _).alloc (Nat.le_refl _) _).trans (hb.mono (by simp))
  have SZ6 : Bx (q5.heap.size ≤ q6.heap.size) := Bx.mk hxb.size
  have Ow_6 := Bx.mk (own_below Ow_5.out hxb)
  have OF_6 := Bx.mk (own_below OF_5.out hxb)
  have OA_6 := Bx.mk (own_below OA_5.out hxb)
  have hxl : q5.heap.size < q6.heap.size := Nat.lt_of_lt_of_le (by simp) hb.size
  have XL1 := Bx.mk hxl
  clear hxb hxl  Ow_5 OF_5 OA_5
  have hbp : Below q5.heap.size q5 q6 := ((Below.refl _ _).alloc (Nat.le_refl _) _).trans (hb.mono (by simp))
  have X1_6 := Bx.mk ((BoxN.at q5 q5.heap.size #[.int .i64 R0.n, .int .i64 R0.s, .slice Bx0 R0.f.length bx0, .slice Cx0 R0.a.length cx0] 30 rfl).below hb)
  have B_6 := Bx.mk (B_5.out.trans (hbp.mono B_5.out.size))
  have X0_6 := Bx.mk (X0_5.out.below hbp)
  have Vs0_6 := Bx.mk (Vs0_5.out.below hbp)
  have Vs1_6 := Bx.mk (Vs1_5.out.below hbp)
  have Vx0_6 := Bx.mk (Vx0_5.out.below hbp)
  clear B_5 X0_5 Vs0_5 Vs1_5 Vx0_5 y0_0 y0_1 y0_2 y0_3 y0_l hb hbp
  have y0_0 := X0_6.out.c (k := 0) rfl
  have y0_1 := X0_6.out.c (k := 1) rfl
  have y0_2 := X0_6.out.c (k := 2) rfl
  have y0_3 := X0_6.out.c (k := 3) rfl
  have y0_l := X0_6.out.lt
  have y1_0 := X1_6.out.c (k := 0) rfl
  have y1_1 := X1_6.out.c (k := 1) rfl
  have y1_2 := X1_6.out.c (k := 2) rfl
  have y1_3 := X1_6.out.c (k := 3) rfl
  have y1_l := X1_6.out.lt
  go_wp2_with (fail)
  refine (hi _ _ _ Vx0_6.out CPx0.out (IntsAt.own Ou_6.out)).mono ?_
  rintro e7 q7 ⟨vg, rfl, ho, hb⟩
  obtain ⟨Ag, cg, rfl⟩ := own_len ho
  have Og_7 := Bx.mk ho
  have Ug := Bx.mk (own_hi ho)
  clear ho
  have hxb : Below q6.heap.size q6 q7 := hb
  have SZ7 : Bx (q6.heap.size ≤ q7.heap.size) := Bx.mk hxb.size
  have Ow_7 := Bx.mk (own_below Ow_6.out hxb)
  have OF_7 := Bx.mk (own_below OF_6.out hxb)
  have OA_7 := Bx.mk (own_below OA_6.out hxb)
  have Ou_7 := Bx.mk (own_below Ou_6.out hxb)
  clear hxb  Ow_6 OF_6 OA_6 Ou_6
  have B_7 := Bx.mk (B_6.out.trans (hb.mono B_6.out.size))
  have X0_7 := Bx.mk (X0_6.out.below hb)
  have X1_7 := Bx.mk (X1_6.out.below hb)
  have Vs0_7 := Bx.mk (Vs0_6.out.below hb)
  have Vs1_7 := Bx.mk (Vs1_6.out.below hb)
  have Vx0_7 := Bx.mk (Vx0_6.out.below hb)
  clear B_6 X0_6 X1_6 Vs0_6 Vs1_6 Vx0_6 y0_0 y0_1 y0_2 y0_3 y0_l y1_0 y1_1 y1_2 y1_3 y1_l hb
  have y0_0 := X0_7.out.c (k := 0) rfl
  have y0_1 := X0_7.out.c (k := 1) rfl
  have y0_2 := X0_7.out.c (k := 2) rfl
  have y0_3 := X0_7.out.c (k := 3) rfl
  have y0_l := X0_7.out.lt
  have y1_0 := X1_7.out.c (k := 0) rfl
  have y1_1 := X1_7.out.c (k := 1) rfl
  have y1_2 := X1_7.out.c (k := 2) rfl
  have y1_3 := X1_7.out.c (k := 3) rfl
  have y1_l := X1_7.out.lt
  go_wp2_with (fail)
  refine (heqi _ _ _ (IntsAt.own Og_7.out) (IntsAt.own Ow_7.out)).mono ?_
  rintro e8 q8 ⟨rfl, hb⟩
  have hxb : Below q7.heap.size q7 q8 := hb
  have SZ8 : Bx (q7.heap.size ≤ q8.heap.size) := Bx.mk hxb.size
  have Ow_8 := Bx.mk (own_below Ow_7.out hxb)
  have OF_8 := Bx.mk (own_below OF_7.out hxb)
  have OA_8 := Bx.mk (own_below OA_7.out hxb)
  have Ou_8 := Bx.mk (own_below Ou_7.out hxb)
  have Og_8 := Bx.mk (own_below Og_7.out hxb)
  clear hxb  Ow_7 OF_7 OA_7 Ou_7 Og_7
  have B_8 := Bx.mk (B_7.out.trans (hb.mono B_7.out.size))
  have X0_8 := Bx.mk (X0_7.out.below hb)
  have X1_8 := Bx.mk (X1_7.out.below hb)
  have Vs0_8 := Bx.mk (Vs0_7.out.below hb)
  have Vs1_8 := Bx.mk (Vs1_7.out.below hb)
  have Vx0_8 := Bx.mk (Vx0_7.out.below hb)
  clear B_7 X0_7 X1_7 Vs0_7 Vs1_7 Vx0_7 y0_0 y0_1 y0_2 y0_3 y0_l y1_0 y1_1 y1_2 y1_3 y1_l hb
  have y0_0 := X0_8.out.c (k := 0) rfl
  have y0_1 := X0_8.out.c (k := 1) rfl
  have y0_2 := X0_8.out.c (k := 2) rfl
  have y0_3 := X0_8.out.c (k := 3) rfl
  have y0_l := X0_8.out.lt
  have y1_0 := X1_8.out.c (k := 0) rfl
  have y1_1 := X1_8.out.c (k := 1) rfl
  have y1_2 := X1_8.out.c (k := 2) rfl
  have y1_3 := X1_8.out.c (k := 3) rfl
  have y1_l := X1_8.out.lt
  go_wp2_with (fail)
  go_upto_region 13 with (fail)
  go_cut [66] from 20 (fun t wx => t = .bool false ∧ Below q8.heap.size q8 wx)
  case first =>
    go_region_with (first
      | (go_at_call 17; (with_reducible refine (gr_copy _ R0 _ (HR0.out.below B_8.out.drew) SM0.out).mono ?_); rintro r wc ⟨ve, rfl, hr, hb4⟩; have HC := Bx.mk hr; obtain ⟨Be, be, Ce, ce, rfl, _, _⟩ := gr_form hr; have BC : Bx (Below q8.heap.size q8 wc) := Bx.mk ((Below.refl _ _).drew.trans hb4); clear hr hb4; have z1_0 := (X1_8.out.below BC.out).c (k := 0) rfl; have z1_1 := (X1_8.out.below BC.out).c (k := 1) rfl; have z1_2 := (X1_8.out.below BC.out).c (k := 2) rfl; have z1_3 := (X1_8.out.below BC.out).c (k := 3) rfl; have z0_0 := (X0_8.out.below BC.out).c (k := 0) rfl; have z0_1 := (X0_8.out.below BC.out).c (k := 1) rfl; have z0_2 := (X0_8.out.below BC.out).c (k := 2) rfl; have z0_3 := (X0_8.out.below BC.out).c (k := 3) rfl; have z1_l := (X1_8.out.below BC.out).lt; have z0_l := (X0_8.out.below BC.out).lt)
      | (go_at_call 19; (with_reducible refine (eq_gr _ _ R0 _ (Vx0_8.out.below BC.out) HC.out SM0.out).mono ?_); rintro r wd ⟨rfl, hb5⟩; have BE : Bx (Below q8.heap.size q8 wd) := Bx.mk (BC.out.trans (hb5.mono BC.out.size)); have BD := Bx.mk (B_8.out.trans ((BC.out.trans (hb5.mono BC.out.size)).mono B_8.out.size)); clear hb5))
    all_goals
      try go_wp2_with (fail)
      go_meet
      case rel => exact ⟨rfl, BE.out⟩
  case rest =>
    obtain ⟨rfl, hb⟩ := hcut
    obtain ⟨q9, hq⟩ : ∃ x, x = wc := ⟨_, rfl⟩
    subst hq
    have hxb : Below q8.heap.size q8 q9 := hb
    have SZ9 : Bx (q8.heap.size ≤ q9.heap.size) := Bx.mk hxb.size
    have Ow_9 := Bx.mk (own_below Ow_8.out hxb)
    have OF_9 := Bx.mk (own_below OF_8.out hxb)
    have OA_9 := Bx.mk (own_below OA_8.out hxb)
    have Ou_9 := Bx.mk (own_below Ou_8.out hxb)
    have Og_9 := Bx.mk (own_below Og_8.out hxb)
    clear hxb  Ow_8 OF_8 OA_8 Ou_8 Og_8
    have B_9 := Bx.mk (B_8.out.trans (hb.mono B_8.out.size))
    have X0_9 := Bx.mk (X0_8.out.below hb)
    have X1_9 := Bx.mk (X1_8.out.below hb)
    have Vs0_9 := Bx.mk (Vs0_8.out.below hb)
    have Vs1_9 := Bx.mk (Vs1_8.out.below hb)
    have Vx0_9 := Bx.mk (Vx0_8.out.below hb)
    clear B_8 X0_8 X1_8 Vs0_8 Vs1_8 Vx0_8 y0_0 y0_1 y0_2 y0_3 y0_l y1_0 y1_1 y1_2 y1_3 y1_l hb
    have y0_0 := X0_9.out.c (k := 0) rfl
    have y0_1 := X0_9.out.c (k := 1) rfl
    have y0_2 := X0_9.out.c (k := 2) rfl
    have y0_3 := X0_9.out.c (k := 3) rfl
    have y0_l := X0_9.out.lt
    have y1_0 := X1_9.out.c (k := 0) rfl
    have y1_1 := X1_9.out.c (k := 1) rfl
    have y1_2 := X1_9.out.c (k := 2) rfl
    have y1_3 := X1_9.out.c (k := 3) rfl
    have y1_l := X1_9.out.lt
    go_wp2_with (fail)
    refine (copy_ints _ zs1 _ (HR1.out.below (B_9.out)) (by omega)).mono ?_
    rintro e10 q10 ⟨vy1, rfl, ho, hb⟩
    have Vy1_10 := Bx.mk (IntsAt.own ho)
    obtain ⟨Ay1, cy1, rfl⟩ := own_len ho
    clear ho
    have hxb : Below q9.heap.size q9 q10 := hb
    have SZ10 : Bx (q9.heap.size ≤ q10.heap.size) := Bx.mk hxb.size
    have Ow_10 := Bx.mk (own_below Ow_9.out hxb)
    have OF_10 := Bx.mk (own_below OF_9.out hxb)
    have OA_10 := Bx.mk (own_below OA_9.out hxb)
    have Ou_10 := Bx.mk (own_below Ou_9.out hxb)
    have Og_10 := Bx.mk (own_below Og_9.out hxb)
    clear hxb  Ow_9 OF_9 OA_9 Ou_9 Og_9
    have B_10 := Bx.mk (B_9.out.trans (hb.mono B_9.out.size))
    have X0_10 := Bx.mk (X0_9.out.below hb)
    have X1_10 := Bx.mk (X1_9.out.below hb)
    have Vs0_10 := Bx.mk (Vs0_9.out.below hb)
    have Vs1_10 := Bx.mk (Vs1_9.out.below hb)
    have Vx0_10 := Bx.mk (Vx0_9.out.below hb)
    clear B_9 X0_9 X1_9 Vs0_9 Vs1_9 Vx0_9 y0_0 y0_1 y0_2 y0_3 y0_l y1_0 y1_1 y1_2 y1_3 y1_l hb
    have y0_0 := X0_10.out.c (k := 0) rfl
    have y0_1 := X0_10.out.c (k := 1) rfl
    have y0_2 := X0_10.out.c (k := 2) rfl
    have y0_3 := X0_10.out.c (k := 3) rfl
    have y0_l := X0_10.out.lt
    have y1_0 := X1_10.out.c (k := 0) rfl
    have y1_1 := X1_10.out.c (k := 1) rfl
    have y1_2 := X1_10.out.c (k := 2) rfl
    have y1_3 := X1_10.out.c (k := 3) rfl
    have y1_l := X1_10.out.lt
    go_wp2_with (fail)
    refine (heq1 _ _ _ (IntsAt.own Ou_10.out) Vy1_10.out).mono ?_
    rintro e11 q11 ⟨rfl, hb⟩
    have hxb : Below q10.heap.size q10 q11 := hb
    have SZ11 : Bx (q10.heap.size ≤ q11.heap.size) := Bx.mk hxb.size
    have Ow_11 := Bx.mk (own_below Ow_10.out hxb)
    have OF_11 := Bx.mk (own_below OF_10.out hxb)
    have OA_11 := Bx.mk (own_below OA_10.out hxb)
    have Ou_11 := Bx.mk (own_below Ou_10.out hxb)
    have Og_11 := Bx.mk (own_below Og_10.out hxb)
    clear hxb  Ow_10 OF_10 OA_10 Ou_10 Og_10
    have B_11 := Bx.mk (B_10.out.trans (hb.mono B_10.out.size))
    have X0_11 := Bx.mk (X0_10.out.below hb)
    have X1_11 := Bx.mk (X1_10.out.below hb)
    have Vs0_11 := Bx.mk (Vs0_10.out.below hb)
    have Vs1_11 := Bx.mk (Vs1_10.out.below hb)
    have Vx0_11 := Bx.mk (Vx0_10.out.below hb)
    have Vy1_11 := Bx.mk (Vy1_10.out.below hb)
    clear B_10 X0_10 X1_10 Vs0_10 Vs1_10 Vx0_10 Vy1_10 y0_0 y0_1 y0_2 y0_3 y0_l y1_0 y1_1 y1_2 y1_3 y1_l hb
    have y0_0 := X0_11.out.c (k := 0) rfl
    have y0_1 := X0_11.out.c (k := 1) rfl
    have y0_2 := X0_11.out.c (k := 2) rfl
    have y0_3 := X0_11.out.c (k := 3) rfl
    have y0_l := X0_11.out.lt
    have y1_0 := X1_11.out.c (k := 0) rfl
    have y1_1 := X1_11.out.c (k := 1) rfl
    have y1_2 := X1_11.out.c (k := 2) rfl
    have y1_3 := X1_11.out.c (k := 3) rfl
    have y1_l := X1_11.out.lt
    go_wp2_with (fail)
    refine (mark_grZ R0 _ _ q4.heap.size q5.heap.size q11 SM0.out OF_11.out OA_11.out MU.out.1 MU.out.2.1 MU.out.2.2).mono ?_
    rintro e12 q12 ⟨zm, rfl, hzm, hzn, ht⟩
    have hs := ht.size
    have B_12 := Bx.mk (ht.keeps B_11.out (by have := SZ0.out; have := SZ1.out; have := SZ2.out; have := SZ3.out; have := SZ4.out; have := SZ5.out; have := SZ6.out; have := SZ7.out; have := SZ8.out; have := SZ9.out; have := SZ10.out; have := SZ11.out; omega) B_11.out.size)
    have SZ12 : Bx (q11.heap.size ≤ q12.heap.size) := Bx.mk hs
    have X0_12 := Bx.mk (X0_11.out.turn ht (by have := SZ0.out; have := SZ1.out; have := SZ2.out; have := SZ3.out; have := SZ4.out; have := SZ5.out; have := SZ6.out; have := SZ7.out; have := SZ8.out; have := SZ9.out; have := SZ10.out; have := SZ11.out; have := XL0.out; omega))
    have X1_12 := Bx.mk (X1_11.out.turn ht (by have := SZ0.out; have := SZ1.out; have := SZ2.out; have := SZ3.out; have := SZ4.out; have := SZ5.out; have := SZ6.out; have := SZ7.out; have := SZ8.out; have := SZ9.out; have := SZ10.out; have := SZ11.out; have := XL1.out; omega))
    have Ow_12 := Bx.mk (own_turn Ow_11.out ht (fun x hx => by have h1 := Uw.out x hx; have h2 := own_lo Ow_11.out x hx; have := SZ0.out; have := SZ1.out; have := SZ2.out; have := SZ3.out; have := SZ4.out; have := SZ5.out; have := SZ6.out; have := SZ7.out; have := SZ8.out; have := SZ9.out; have := SZ10.out; have := SZ11.out; omega))
    have Ou_12 := Bx.mk (own_turn Ou_11.out ht (fun x hx => by have h1 := Uu.out x hx; have h2 := own_lo Ou_11.out x hx; have := SZ0.out; have := SZ1.out; have := SZ2.out; have := SZ3.out; have := SZ4.out; have := SZ5.out; have := SZ6.out; have := SZ7.out; have := SZ8.out; have := SZ9.out; have := SZ10.out; have := SZ11.out; omega))
    have Og_12 := Bx.mk (own_turn Og_11.out ht (fun x hx => by have h1 := Ug.out x hx; have h2 := own_lo Og_11.out x hx; have := SZ0.out; have := SZ1.out; have := SZ2.out; have := SZ3.out; have := SZ4.out; have := SZ5.out; have := SZ6.out; have := SZ7.out; have := SZ8.out; have := SZ9.out; have := SZ10.out; have := SZ11.out; omega))
    clear B_11 X0_11 X1_11 Ow_11 Ou_11 Og_11 Vs0_11 Vs1_11 Vx0_11 Vy1_11 OF_11 OA_11 y0_0 y0_1 y0_2 y0_3 y0_l y1_0 y1_1 y1_2 y1_3 y1_l ht hs
    have y0_0 := X0_12.out.c (k := 0) rfl
    have y0_1 := X0_12.out.c (k := 1) rfl
    have y0_2 := X0_12.out.c (k := 2) rfl
    have y0_3 := X0_12.out.c (k := 3) rfl
    have y0_l := X0_12.out.lt
    have y1_0 := X1_12.out.c (k := 0) rfl
    have y1_1 := X1_12.out.c (k := 1) rfl
    have y1_2 := X1_12.out.c (k := 2) rfl
    have y1_3 := X1_12.out.c (k := 3) rfl
    have y1_l := X1_12.out.lt
    go_wp2_with (fail)
    have hdm : decide (zm + (zs1.length : Int) < 0) = false := decide_eq_false (by omega)
    refine (mark_ints _ zs1 _ zm _ Ou_12.out (by omega) (by omega) (by omega)).mono ?_
    rintro e13 q13 ⟨rfl, hm, hg⟩
    have hs := hg.size
    have B_13 := Bx.mk (B_12.out.grown hg B_12.out.size (fun x hx => by have h2 := own_lo Ou_12.out x hx; have := SZ0.out; have := SZ1.out; have := SZ2.out; have := SZ3.out; have := SZ4.out; have := SZ5.out; have := SZ6.out; have := SZ7.out; have := SZ8.out; have := SZ9.out; have := SZ10.out; have := SZ11.out; have := SZ12.out; omega))
    have SZ13 : Bx (q12.heap.size ≤ q13.heap.size) := Bx.mk hs
    have X0_13 := Bx.mk (X0_12.out.grownR hg (fun e => by have h1 := own_lo Ou_12.out _ e.symm; have := SZ0.out; have := SZ1.out; have := SZ2.out; have := SZ3.out; have := SZ4.out; have := SZ5.out; have := SZ6.out; have := SZ7.out; have := SZ8.out; have := SZ9.out; have := SZ10.out; have := SZ11.out; have := SZ12.out; have := XL0.out; omega))
    have X1_13 := Bx.mk (X1_12.out.grownR hg (fun e => by have h1 := own_lo Ou_12.out _ e.symm; have := SZ0.out; have := SZ1.out; have := SZ2.out; have := SZ3.out; have := SZ4.out; have := SZ5.out; have := SZ6.out; have := SZ7.out; have := SZ8.out; have := SZ9.out; have := SZ10.out; have := SZ11.out; have := SZ12.out; have := XL1.out; omega))
    have Ow_13 := Bx.mk (Ow_12.out.kept hg (ne_row (fun x hx e => by have h1 := own_lo Ow_12.out x e; have h3 := Uw.out x e; have h2 := own_lo Ou_12.out x hx; have h4 := Uu.out x hx; have := SZ0.out; have := SZ1.out; have := SZ2.out; have := SZ3.out; have := SZ4.out; have := SZ5.out; have := SZ6.out; have := SZ7.out; have := SZ8.out; have := SZ9.out; have := SZ10.out; have := SZ11.out; have := SZ12.out; omega)))
    have Ou_13 := Bx.mk (hm)
    have Og_13 := Bx.mk (Og_12.out.kept hg (ne_row (fun x hx e => by have h1 := own_lo Og_12.out x e; have h3 := Ug.out x e; have h2 := own_lo Ou_12.out x hx; have h4 := Uu.out x hx; have := SZ0.out; have := SZ1.out; have := SZ2.out; have := SZ3.out; have := SZ4.out; have := SZ5.out; have := SZ6.out; have := SZ7.out; have := SZ8.out; have := SZ9.out; have := SZ10.out; have := SZ11.out; have := SZ12.out; omega)))
    clear B_12 X0_12 X1_12 Ow_12 Ou_12 Og_12 y0_0 y0_1 y0_2 y0_3 y0_l y1_0 y1_1 y1_2 y1_3 y1_l hm hg hs
    have y0_0 := X0_13.out.c (k := 0) rfl
    have y0_1 := X0_13.out.c (k := 1) rfl
    have y0_2 := X0_13.out.c (k := 2) rfl
    have y0_3 := X0_13.out.c (k := 3) rfl
    have y0_l := X0_13.out.lt
    have y1_0 := X1_13.out.c (k := 0) rfl
    have y1_1 := X1_13.out.c (k := 1) rfl
    have y1_2 := X1_13.out.c (k := 2) rfl
    have y1_3 := X1_13.out.c (k := 3) rfl
    have y1_l := X1_13.out.lt
    go_wp2_with (fail)
    refine (heqi _ _ _ (IntsAt.own Og_13.out) (IntsAt.own Ow_13.out)).mono ?_
    rintro e14 q14 ⟨rfl, hb⟩
    have hxb : Below q13.heap.size q13 q14 := hb
    have SZ14 : Bx (q13.heap.size ≤ q14.heap.size) := Bx.mk hxb.size
    have Ow_14 := Bx.mk (own_below Ow_13.out hxb)
    have Ou_14 := Bx.mk (own_below Ou_13.out hxb)
    have Og_14 := Bx.mk (own_below Og_13.out hxb)
    clear hxb  Ow_13 Ou_13 Og_13
    have B_14 := Bx.mk (B_13.out.trans (hb.mono B_13.out.size))
    have X0_14 := Bx.mk (X0_13.out.below hb)
    have X1_14 := Bx.mk (X1_13.out.below hb)
    clear B_13 X0_13 X1_13 y0_0 y0_1 y0_2 y0_3 y0_l y1_0 y1_1 y1_2 y1_3 y1_l hb
    have y0_0 := X0_14.out.c (k := 0) rfl
    have y0_1 := X0_14.out.c (k := 1) rfl
    have y0_2 := X0_14.out.c (k := 2) rfl
    have y0_3 := X0_14.out.c (k := 3) rfl
    have y0_l := X0_14.out.lt
    have y1_0 := X1_14.out.c (k := 0) rfl
    have y1_1 := X1_14.out.c (k := 1) rfl
    have y1_2 := X1_14.out.c (k := 2) rfl
    have y1_3 := X1_14.out.c (k := 3) rfl
    have y1_l := X1_14.out.lt
    go_wp2_with (fail)
    refine (mark_ints _ ys _ 1 _ Og_14.out (by omega) (by omega) (by omega)).mono ?_
    rintro e15 q15 ⟨rfl, hm, hg⟩
    have hs := hg.size
    have B_15 := Bx.mk (B_14.out.grown hg B_14.out.size (fun x hx => by have h2 := own_lo Og_14.out x hx; have := SZ0.out; have := SZ1.out; have := SZ2.out; have := SZ3.out; have := SZ4.out; have := SZ5.out; have := SZ6.out; have := SZ7.out; have := SZ8.out; have := SZ9.out; have := SZ10.out; have := SZ11.out; have := SZ12.out; have := SZ13.out; have := SZ14.out; omega))
    have SZ15 : Bx (q14.heap.size ≤ q15.heap.size) := Bx.mk hs
    have X0_15 := Bx.mk (X0_14.out.grownR hg (fun e => by have h1 := own_lo Og_14.out _ e.symm; have := SZ0.out; have := SZ1.out; have := SZ2.out; have := SZ3.out; have := SZ4.out; have := SZ5.out; have := SZ6.out; have := SZ7.out; have := SZ8.out; have := SZ9.out; have := SZ10.out; have := SZ11.out; have := SZ12.out; have := SZ13.out; have := SZ14.out; have := XL0.out; omega))
    have X1_15 := Bx.mk (X1_14.out.grownR hg (fun e => by have h1 := own_lo Og_14.out _ e.symm; have := SZ0.out; have := SZ1.out; have := SZ2.out; have := SZ3.out; have := SZ4.out; have := SZ5.out; have := SZ6.out; have := SZ7.out; have := SZ8.out; have := SZ9.out; have := SZ10.out; have := SZ11.out; have := SZ12.out; have := SZ13.out; have := SZ14.out; have := XL1.out; omega))
    have Ow_15 := Bx.mk (Ow_14.out.kept hg (ne_row (fun x hx e => by have h1 := Uw.out x e; have h2 := own_lo Og_14.out x hx; have := SZ0.out; have := SZ1.out; have := SZ2.out; have := SZ3.out; have := SZ4.out; have := SZ5.out; have := SZ6.out; have := SZ7.out; have := SZ8.out; have := SZ9.out; have := SZ10.out; have := SZ11.out; have := SZ12.out; have := SZ13.out; have := SZ14.out; omega)))
    have Ou_15 := Bx.mk (Ou_14.out.kept hg (ne_row (fun x hx e => by have h1 := Uu.out x e; have h2 := own_lo Og_14.out x hx; have := SZ0.out; have := SZ1.out; have := SZ2.out; have := SZ3.out; have := SZ4.out; have := SZ5.out; have := SZ6.out; have := SZ7.out; have := SZ8.out; have := SZ9.out; have := SZ10.out; have := SZ11.out; have := SZ12.out; have := SZ13.out; have := SZ14.out; omega)))
    have Og_15 := Bx.mk (hm)
    clear B_14 X0_14 X1_14 Ow_14 Ou_14 Og_14 y0_0 y0_1 y0_2 y0_3 y0_l y1_0 y1_1 y1_2 y1_3 y1_l hm hg hs
    have y0_0 := X0_15.out.c (k := 0) rfl
    have y0_1 := X0_15.out.c (k := 1) rfl
    have y0_2 := X0_15.out.c (k := 2) rfl
    have y0_3 := X0_15.out.c (k := 3) rfl
    have y0_l := X0_15.out.lt
    have y1_0 := X1_15.out.c (k := 0) rfl
    have y1_1 := X1_15.out.c (k := 1) rfl
    have y1_2 := X1_15.out.c (k := 2) rfl
    have y1_3 := X1_15.out.c (k := 3) rfl
    have y1_l := X1_15.out.lt
    go_wp2_with (fail)
    refine (hheld _ _ (IntsAt.own (by rw [marks_len]; exact Og_15.out))).mono ?_
    rintro e16 q16 ⟨rfl, hb⟩
    have hxb : Below q15.heap.size q15 q16 := hb
    have SZ16 : Bx (q15.heap.size ≤ q16.heap.size) := Bx.mk hxb.size
    have Ow_16 := Bx.mk (own_below Ow_15.out hxb)
    have Ou_16 := Bx.mk (own_below Ou_15.out hxb)
    have Og_16 := Bx.mk (own_below Og_15.out hxb)
    clear hxb  Ow_15 Ou_15 Og_15
    have B_16 := Bx.mk (B_15.out.trans (hb.mono B_15.out.size))
    have X0_16 := Bx.mk (X0_15.out.below hb)
    have X1_16 := Bx.mk (X1_15.out.below hb)
    clear B_15 X0_15 X1_15 y0_0 y0_1 y0_2 y0_3 y0_l y1_0 y1_1 y1_2 y1_3 y1_l hb
    have y0_0 := X0_16.out.c (k := 0) rfl
    have y0_1 := X0_16.out.c (k := 1) rfl
    have y0_2 := X0_16.out.c (k := 2) rfl
    have y0_3 := X0_16.out.c (k := 3) rfl
    have y0_l := X0_16.out.lt
    have y1_0 := X1_16.out.c (k := 0) rfl
    have y1_1 := X1_16.out.c (k := 1) rfl
    have y1_2 := X1_16.out.c (k := 2) rfl
    have y1_3 := X1_16.out.c (k := 3) rfl
    have y1_l := X1_16.out.lt
    go_wp2_with (fail)
    refine (gr_copyC _ R0 _ (HR0.out.below (B_16.out)) SM0.out).mono ?_
    rintro e17 q17 ⟨vy0, rfl, hr, hcp, hb⟩
    have Vy0_17 := Bx.mk hr
    have CPy0 := Bx.mk hcp
    obtain ⟨By0, by0, Cy0, cy0, rfl, _, _⟩ := gr_form hr
    clear hr hcp
    have hxb : Below q16.heap.size q16 q17 := hb
    have SZ17 : Bx (q16.heap.size ≤ q17.heap.size) := Bx.mk hxb.size
    have Ow_17 := Bx.mk (own_below Ow_16.out hxb)
    have Ou_17 := Bx.mk (own_below Ou_16.out hxb)
    have Og_17 := Bx.mk (own_below Og_16.out hxb)
    clear hxb  Ow_16 Ou_16 Og_16
    have B_17 := Bx.mk (B_16.out.trans (hb.mono B_16.out.size))
    have X0_17 := Bx.mk (X0_16.out.below hb)
    have X1_17 := Bx.mk (X1_16.out.below hb)
    clear B_16 X0_16 X1_16 y0_0 y0_1 y0_2 y0_3 y0_l y1_0 y1_1 y1_2 y1_3 y1_l hb
    have y0_0 := X0_17.out.c (k := 0) rfl
    have y0_1 := X0_17.out.c (k := 1) rfl
    have y0_2 := X0_17.out.c (k := 2) rfl
    have y0_3 := X0_17.out.c (k := 3) rfl
    have y0_l := X0_17.out.lt
    have y1_0 := X1_17.out.c (k := 0) rfl
    have y1_1 := X1_17.out.c (k := 1) rfl
    have y1_2 := X1_17.out.c (k := 2) rfl
    have y1_3 := X1_17.out.c (k := 3) rfl
    have y1_l := X1_17.out.lt
    go_wp2_with (fail)
    refine (copy_ints _ zs1 _ (HR1.out.below (B_17.out)) (by omega)).mono ?_
    rintro e18 q18 ⟨vz1, rfl, ho, hb⟩
    have Vz1_18 := Bx.mk (IntsAt.own ho)
    obtain ⟨Az1, cz1, rfl⟩ := own_len ho
    clear ho
    have hxb : Below q17.heap.size q17 q18 := hb
    have SZ18 : Bx (q17.heap.size ≤ q18.heap.size) := Bx.mk hxb.size
    have Ow_18 := Bx.mk (own_below Ow_17.out hxb)
    have Ou_18 := Bx.mk (own_below Ou_17.out hxb)
    have Og_18 := Bx.mk (own_below Og_17.out hxb)
    clear hxb  Ow_17 Ou_17 Og_17
    have B_18 := Bx.mk (B_17.out.trans (hb.mono B_17.out.size))
    have X0_18 := Bx.mk (X0_17.out.below hb)
    have X1_18 := Bx.mk (X1_17.out.below hb)
    have Vy0_18 := Bx.mk (Vy0_17.out.below hb)
    clear B_17 X0_17 X1_17 Vy0_17 y0_0 y0_1 y0_2 y0_3 y0_l y1_0 y1_1 y1_2 y1_3 y1_l hb
    have y0_0 := X0_18.out.c (k := 0) rfl
    have y0_1 := X0_18.out.c (k := 1) rfl
    have y0_2 := X0_18.out.c (k := 2) rfl
    have y0_3 := X0_18.out.c (k := 3) rfl
    have y0_l := X0_18.out.lt
    have y1_0 := X1_18.out.c (k := 0) rfl
    have y1_1 := X1_18.out.c (k := 1) rfl
    have y1_2 := X1_18.out.c (k := 2) rfl
    have y1_3 := X1_18.out.c (k := 3) rfl
    have y1_l := X1_18.out.lt
    go_wp2_with (fail)
    refine (hi _ _ _ Vy0_18.out CPy0.out Vz1_18.out).mono ?_
    rintro e19 q19 ⟨vh, rfl, ho, hb⟩
    obtain ⟨Ah, ch, rfl⟩ := own_len ho
    have Oh_19 := Bx.mk ho
    have Uh := Bx.mk (own_hi ho)
    clear ho
    have hxb : Below q18.heap.size q18 q19 := hb
    have SZ19 : Bx (q18.heap.size ≤ q19.heap.size) := Bx.mk hxb.size
    have Ow_19 := Bx.mk (own_below Ow_18.out hxb)
    have Ou_19 := Bx.mk (own_below Ou_18.out hxb)
    have Og_19 := Bx.mk (own_below Og_18.out hxb)
    clear hxb  Ow_18 Ou_18 Og_18
    have B_19 := Bx.mk (B_18.out.trans (hb.mono B_18.out.size))
    have X0_19 := Bx.mk (X0_18.out.below hb)
    have X1_19 := Bx.mk (X1_18.out.below hb)
    have Vy0_19 := Bx.mk (Vy0_18.out.below hb)
    have Vz1_19 := Bx.mk (Vz1_18.out.below hb)
    clear B_18 X0_18 X1_18 Vy0_18 Vz1_18 y0_0 y0_1 y0_2 y0_3 y0_l y1_0 y1_1 y1_2 y1_3 y1_l hb
    have y0_0 := X0_19.out.c (k := 0) rfl
    have y0_1 := X0_19.out.c (k := 1) rfl
    have y0_2 := X0_19.out.c (k := 2) rfl
    have y0_3 := X0_19.out.c (k := 3) rfl
    have y0_l := X0_19.out.lt
    have y1_0 := X1_19.out.c (k := 0) rfl
    have y1_1 := X1_19.out.c (k := 1) rfl
    have y1_2 := X1_19.out.c (k := 2) rfl
    have y1_3 := X1_19.out.c (k := 3) rfl
    have y1_l := X1_19.out.lt
    go_wp2_with (fail)
    refine (heqi _ _ _ (IntsAt.own Oh_19.out) (IntsAt.own Ow_19.out)).mono ?_
    rintro e20 q20 ⟨rfl, hb⟩
    have hxb : Below q19.heap.size q19 q20 := hb
    have SZ20 : Bx (q19.heap.size ≤ q20.heap.size) := Bx.mk hxb.size
    have Ow_20 := Bx.mk (own_below Ow_19.out hxb)
    have Ou_20 := Bx.mk (own_below Ou_19.out hxb)
    have Og_20 := Bx.mk (own_below Og_19.out hxb)
    have Oh_20 := Bx.mk (own_below Oh_19.out hxb)
    clear hxb  Ow_19 Ou_19 Og_19 Oh_19
    have B_20 := Bx.mk (B_19.out.trans (hb.mono B_19.out.size))
    have X0_20 := Bx.mk (X0_19.out.below hb)
    have X1_20 := Bx.mk (X1_19.out.below hb)
    have Vy0_20 := Bx.mk (Vy0_19.out.below hb)
    have Vz1_20 := Bx.mk (Vz1_19.out.below hb)
    clear B_19 X0_19 X1_19 Vy0_19 Vz1_19 y0_0 y0_1 y0_2 y0_3 y0_l y1_0 y1_1 y1_2 y1_3 y1_l hb
    have y0_0 := X0_20.out.c (k := 0) rfl
    have y0_1 := X0_20.out.c (k := 1) rfl
    have y0_2 := X0_20.out.c (k := 2) rfl
    have y0_3 := X0_20.out.c (k := 3) rfl
    have y0_l := X0_20.out.lt
    have y1_0 := X1_20.out.c (k := 0) rfl
    have y1_1 := X1_20.out.c (k := 1) rfl
    have y1_2 := X1_20.out.c (k := 2) rfl
    have y1_3 := X1_20.out.c (k := 3) rfl
    have y1_l := X1_20.out.lt
    go_wp2_with (fail)
    refine (hheld _ _ (IntsAt.own (by rw [marks_len]; exact Og_20.out))).mono ?_
    rintro e21 q21 ⟨rfl, hb⟩
    have hxb : Below q20.heap.size q20 q21 := hb
    have SZ21 : Bx (q20.heap.size ≤ q21.heap.size) := Bx.mk hxb.size
    have Ow_21 := Bx.mk (own_below Ow_20.out hxb)
    have Ou_21 := Bx.mk (own_below Ou_20.out hxb)
    have Og_21 := Bx.mk (own_below Og_20.out hxb)
    have Oh_21 := Bx.mk (own_below Oh_20.out hxb)
    clear hxb  Ow_20 Ou_20 Og_20 Oh_20
    have B_21 := Bx.mk (B_20.out.trans (hb.mono B_20.out.size))
    have X0_21 := Bx.mk (X0_20.out.below hb)
    have X1_21 := Bx.mk (X1_20.out.below hb)
    have Vy0_21 := Bx.mk (Vy0_20.out.below hb)
    have Vz1_21 := Bx.mk (Vz1_20.out.below hb)
    clear B_20 X0_20 X1_20 Vy0_20 Vz1_20 y0_0 y0_1 y0_2 y0_3 y0_l y1_0 y1_1 y1_2 y1_3 y1_l hb
    have y0_0 := X0_21.out.c (k := 0) rfl
    have y0_1 := X0_21.out.c (k := 1) rfl
    have y0_2 := X0_21.out.c (k := 2) rfl
    have y0_3 := X0_21.out.c (k := 3) rfl
    have y0_l := X0_21.out.lt
    have y1_0 := X1_21.out.c (k := 0) rfl
    have y1_1 := X1_21.out.c (k := 1) rfl
    have y1_2 := X1_21.out.c (k := 2) rfl
    have y1_3 := X1_21.out.c (k := 3) rfl
    have y1_l := X1_21.out.lt
    go_wp2_with (fail)
    go_ret
    exact ⟨rfl, B_21.out⟩

theorem own : ownKnob Try.prog.godebug = none := by kernel_rfl
theorem laidOut : laidOutB Try.prog = true := by kernel_rfl

set_option maxRecDepth 100000 in
theorem lifted (os : Os) (started : os.Started) (H : Type) (enc : TypeId × Value → H) :
    ReturnsInHanded {} Try.checked os 7 .any (Rows.fnExactWrongTurnSpec.pre6 enc Try.prog Try.f7 Rows.fnExactWrongTurnRow.domain false) (Rows.fnExactWrongTurnSpec.post enc Try.prog Try.f7 false true false false) := by
  refine returnsInHanded_of_change (C := Try.checked) own started (by kernel_rfl) Try.func7
    (ChangeSpec.witness6 (enc := enc) (C := Try.checked) false ⟨#[], #[.agg #[.int .i64 0, .int .i64 0, .slice none 0 0, .slice none 0 0], .slice none 0 0], []⟩ 8 (by kernel_rfl) (by kernel_rfl) (by kernel_rfl) (by kernel_rfl)) ?_
  intro W base args ds gs before hval0 hW hcnd _
  have hval : ∀ (j : Nat) t v, Try.f7.params[j]? = some t → args[j]? = some v → Value.okWide Try.prog W .any base t v := hval0
  have hW' := hW
  obtain ⟨p, q, hA0, hV, rfl, hfz, hnd⟩ := hW
  have hA : DataW.TrodAll enc Try.prog W 0 (fun _ => true) true Try.f7.params.toList args.toList ds p := hA0
  rw [Try.params7] at hA hval
  obtain ⟨v0, vs0, d0, ds0, p0, q0, hargs, rfl, rfl, h0, r0⟩ := trodAll_cons hA
  obtain ⟨v1, vs1, d1, ds1, p1, q1, rfl, rfl, rfl, h1, r1⟩ := trodAll_cons r0
  obtain ⟨rfl, rfl, rfl⟩ := trodAll_nil r1
  obtain rfl : args = #[v0, v1] := by cases args; simp_all
  obtain ⟨rfl, rfl⟩ := trodVars_none hV
  obtain ⟨R0, w0⟩ := arg_gr (hval 0 25 v0 rfl rfl) h0
  replace w0 := (show GrAt W v0 R0 ∧ SmG0 R0 from w0)
  obtain ⟨zs1, w1⟩ := arg_ints (hval 1 22 v1 rfl rfl) h1 (fun x hx => hW'.lt x (by simp [hx]))
  clear hA0 hval0
  refine (walk R0 v0 w0 v1 zs1 w1).mono fun e W' ⟨he, hb⟩ => ?_
  subst he
  exact ⟨_, rfl, post_law laidOut (by kernel_rfl) (by kernel_rfl) Try.underlying4 rfl hW' rfl hb⟩

theorem closed : joinedFacts Try.pinned.checked.prog 7 Try.f7 Rows.fnExactWrongTurnSpec Rows.fnExactWrongTurnRow = true := by
  unfold joinedFacts
  rw [may, lifts, made]
  kernel_rfl
theorem over : Rows.fnExactWrongTurnRow.holds Try.pinned (OpenSpec.ofChange Rows.fnExactWrongTurnSpec) :=
  OpenClaim.holds_of_wide 7 Try.f7 rfl rfl rfl rfl rfl rfl rfl ⟨rfl, rfl, rfl, rfl, rfl⟩ rfl rfl rfl rfl rfl (by kernel_rfl) Try.func7 closed
    (of_decide_eq_true (by kernel_rfl)) (by unfold Func.isWrapper; first | (rw [if_pos (by decide +kernel)]; kernel_rfl) | (rw [if_neg (by decide +kernel)]; exact ⟨rfl, rfl⟩))
    (fun os started H enc _ => lifted os started H enc)

theorem proved : Rows.FnExactWrongTurnSaid := over
#print axioms proved
end Go.Proofs.Ytpbgjlmcafmejaa.fnExactWrongTurn
