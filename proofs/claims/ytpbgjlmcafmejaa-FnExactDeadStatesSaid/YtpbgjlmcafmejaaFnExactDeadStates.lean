/- 'laws.FnExactDeadStates' returns true at every input: DeadStates on both sides is one function. -/
import Derived.Test.YtpbgjlmcafmejaaGd2
import Derived.Test.YtpbgjlmcafmejaaGm
import Derived.Deep.RegionWith
import Derived.Deep.RegionHeld3
namespace Go.Proofs.Ytpbgjlmcafmejaa.fnExactDeadStates
open Go.ChangeShapes Go.WideShapes Go.ChangeAt Go.RowKit
set_option linter.unusedVariables false
set_option linter.unusedSimpArgs false
set_option maxRecDepth 100000

set_option maxHeartbeats 8000000 in
theorem walk (R0 : Gr) (v0 : Value) {w : World} (w0 : GrAt w v0 R0 ∧ SmG0 R0) :
    Calls Try.prog 13 #[v0] w fun e w' => e = .returned (.bool true) ∧ Below w.heap.size w w' := by
  obtain ⟨hi0, hm0⟩ := w0
  have HR0 := Bx.mk hi0
  obtain ⟨B0, b0, C0, c0, rfl, _, _⟩ := gr_form hi0
  clear hi0
  have X0 := BoxN.at w (w.heap.size) #[.int .i64 R0.n, .int .i64 R0.s, .slice B0 R0.f.length b0, .slice C0 R0.a.length c0] 25 (by simp)
  have hb : Below w.heap.size w (w.alloc (.cells #[.int .i64 R0.n, .int .i64 R0.s, .slice B0 R0.f.length b0, .slice C0 R0.a.length c0] 25)) := ((Below.refl _ _).alloc (Nat.le_refl _) _)
  generalize hW : w.alloc (.cells #[.int .i64 R0.n, .int .i64 R0.s, .slice B0 R0.f.length b0, .slice C0 R0.a.length c0] 25) = q0 at hb X0
  have B_0 := Bx.mk hb
  have X0_0 := Bx.mk X0
  clear hb X0
  have y0_0 := X0_0.out.c (k := 0) rfl
  have y0_1 := X0_0.out.c (k := 1) rfl
  have y0_2 := X0_0.out.c (k := 2) rfl
  have y0_3 := X0_0.out.c (k := 3) rfl
  have y0_l := X0_0.out.lt
  go_enter Try.func13, Try.ntmps13
  go_wp2_with (fail)
  try clear hW
  refine (sz_gr _ R0 1048576 (by decide) _ (HR0.out.below B_0.out) hm0).mono ?_
  rintro e1 q1 ⟨z0, rfl, hz0, hb⟩
  have hxb : Below q0.heap.size q0 q1 := hb
  have SZ0 : Bx (w.heap.size ≤ q0.heap.size) := Bx.mk B_0.out.size
  have XL0 : Bx (w.heap.size < q0.heap.size) := Bx.mk X0_0.out.lt
  have SZ1 : Bx (q0.heap.size ≤ q1.heap.size) := Bx.mk hxb.size
  clear hxb 
  have B_1 := Bx.mk (B_0.out.trans (hb.mono B_0.out.size))
  have X0_1 := Bx.mk (X0_0.out.below hb)
  clear B_0 X0_0 y0_0 y0_1 y0_2 y0_3 y0_l hb
  have y0_0 := X0_1.out.c (k := 0) rfl
  have y0_1 := X0_1.out.c (k := 1) rfl
  have y0_2 := X0_1.out.c (k := 2) rfl
  have y0_3 := X0_1.out.c (k := 3) rfl
  have y0_l := X0_1.out.lt
  rcases hz0 with rfl | ⟨hy0, hx0, SM0⟩
  · go_wp2_with (fail)
    go_ret
    exact ⟨rfl, B_1.out⟩
  have SM0 := Bx.mk SM0
  have hd0 : decide (z0 < 0) = false := decide_eq_false (by omega)
  go_wp2_with (fail)
  clear hm0
  have hs := fun v W (h : GrAt W v R0) => spec_dead7 v R0 W h SM0.out
  have hi := fun v W (h : GrAt W v R0) => impl_dead7 v R0 W h SM0.out
  unfold LCOut at hs hi
  have HLn : (deadE R0).1.length ≤ 64 := deadE_len R0
  generalize deadE R0 = t at hs hi HLn
  obtain ⟨ys, cc⟩ := t
  dsimp only at hs hi HLn
  have heqi := fun va vb W (h : IntsAt W va ys) (h' : IntsAt W vb ys) => (eq_ints va vb ys ys W h h' (by omega) (by omega)).mono (fun _ _ h => And.intro h.1 (quietB h.2))
  simp only [decide_true] at heqi
  have hheld := fun v W (h : IntsAt W v (marks ys.length 1)) => (held_ints v ys.length 1 W h (by omega) (by omega) (by omega)).mono (fun e w' (hh : _ ∧ _) => (⟨hh.1, hh.2 ▸ Below.refl _ _⟩ : e = .returned (.int .i64 (1 + (ys.length : Int))) ∧ Below W.heap.size W w'))
  have hdq : decide (1 + (ys.length : Int) < 0) = false := decide_eq_false (by omega)
  refine (gr_copy _ R0 _ (HR0.out.below (B_1.out)) SM0.out).mono ?_
  rintro e2 q2 ⟨vs0, rfl, hr, hb⟩
  have Vs0_2 := Bx.mk hr
  obtain ⟨Bs0, bs0, Cs0, cs0, rfl, _, _⟩ := gr_form hr
  clear hr
  have hxb : Below q1.heap.size q1 q2 := hb
  have SZ2 : Bx (q1.heap.size ≤ q2.heap.size) := Bx.mk hxb.size
  clear hxb 
  have B_2 := Bx.mk (B_1.out.trans (hb.mono B_1.out.size))
  have X0_2 := Bx.mk (X0_1.out.below hb)
  clear B_1 X0_1 y0_0 y0_1 y0_2 y0_3 y0_l hb
  have y0_0 := X0_2.out.c (k := 0) rfl
  have y0_1 := X0_2.out.c (k := 1) rfl
  have y0_2 := X0_2.out.c (k := 2) rfl
  have y0_3 := X0_2.out.c (k := 3) rfl
  have y0_l := X0_2.out.lt
  go_wp2_with (fail)
  refine (hs _ _ Vs0_2.out).mono ?_
  rintro e3 q3 ⟨vw, rfl, ho, hb⟩
  obtain ⟨Aw, cw, rfl⟩ := own_len ho
  have Ow_3 := Bx.mk ho
  have Uw := Bx.mk (own_hi ho)
  clear ho
  have hxb : Below q2.heap.size q2 q3 := hb
  have SZ3 : Bx (q2.heap.size ≤ q3.heap.size) := Bx.mk hxb.size
  clear hxb 
  have B_3 := Bx.mk (B_2.out.trans (hb.mono B_2.out.size))
  have X0_3 := Bx.mk (X0_2.out.below hb)
  have Vs0_3 := Bx.mk (Vs0_2.out.below hb)
  clear B_2 X0_2 Vs0_2 y0_0 y0_1 y0_2 y0_3 y0_l hb
  have y0_0 := X0_3.out.c (k := 0) rfl
  have y0_1 := X0_3.out.c (k := 1) rfl
  have y0_2 := X0_3.out.c (k := 2) rfl
  have y0_3 := X0_3.out.c (k := 3) rfl
  have y0_l := X0_3.out.lt
  go_wp2_with (fail)
  refine (copy_gr _ R0 _ (HR0.out.below (B_3.out)) SM0.out).mono ?_
  rintro e4 q4 ⟨vf, va, rfl, hf, ha, hn, hb⟩
  have Vx0_4 : Bx (GrAt q4 _ R0) := Bx.mk ⟨vf, va, rfl, IntsAt.own hf, TrsAt.own ha⟩
  have MU := Bx.mk (And.intro hn (And.intro (own_hi hf) (own_hi ha)))
  have OF_4 := Bx.mk hf
  have OA_4 := Bx.mk ha
  obtain ⟨Bx0, bx0, rfl⟩ := own_len hf
  obtain ⟨Cx0, cx0, rfl⟩ := own_len ha
  unfold grV at *
  clear hf ha hn
  have hxb : Below q3.heap.size q3 q4 := hb
  have SZ4 : Bx (q3.heap.size ≤ q4.heap.size) := Bx.mk hxb.size
  have Ow_4 := Bx.mk (own_below Ow_3.out hxb)
  clear hxb  Ow_3
  have B_4 := Bx.mk (B_3.out.trans (hb.mono B_3.out.size))
  have X0_4 := Bx.mk (X0_3.out.below hb)
  have Vs0_4 := Bx.mk (Vs0_3.out.below hb)
  clear B_3 X0_3 Vs0_3 y0_0 y0_1 y0_2 y0_3 y0_l hb
  have y0_0 := X0_4.out.c (k := 0) rfl
  have y0_1 := X0_4.out.c (k := 1) rfl
  have y0_2 := X0_4.out.c (k := 2) rfl
  have y0_3 := X0_4.out.c (k := 3) rfl
  have y0_l := X0_4.out.lt
  go_wp2_with (fail)
  refine (hi _ _ (Vx0_4.out.below ((Below.refl _ _).alloc (Nat.le_refl _) _))).mono ?_
  rintro e5 q5 ⟨vg, rfl, ho, hb⟩
  obtain ⟨Ag, cg, rfl⟩ := own_len ho
  have ho := owndown (b1 := q4.heap.size + 1) (by simp) ho
  have Og_5 := Bx.mk ho
  have Ug := Bx.mk (own_hi ho)
  clear ho
  have hxb : Below q4.heap.size q4 q5 := ((Below.refl _ _).alloc (Nat.le_refl _) _).trans (hb.mono (by simp))
  have SZ5 : Bx (q4.heap.size ≤ q5.heap.size) := Bx.mk hxb.size
  have Ow_5 := Bx.mk (own_below Ow_4.out hxb)
  have OF_5 := Bx.mk (own_below OF_4.out hxb)
  have OA_5 := Bx.mk (own_below OA_4.out hxb)
  have hxl : q4.heap.size < q5.heap.size := Nat.lt_of_lt_of_le (by simp) hb.size
  have XL1 := Bx.mk hxl
  clear hxb hxl  Ow_4 OF_4 OA_4
  have hbp : Below q4.heap.size q4 q5 := ((Below.refl _ _).alloc (Nat.le_refl _) _).trans (hb.mono (by simp))
  have X1_5 := Bx.mk ((BoxN.at q4 q4.heap.size #[.int .i64 R0.n, .int .i64 R0.s, .slice Bx0 R0.f.length bx0, .slice Cx0 R0.a.length cx0] 30 rfl).below hb)
  have B_5 := Bx.mk (B_4.out.trans (hbp.mono B_4.out.size))
  have X0_5 := Bx.mk (X0_4.out.below hbp)
  have Vs0_5 := Bx.mk (Vs0_4.out.below hbp)
  have Vx0_5 := Bx.mk (Vx0_4.out.below hbp)
  clear B_4 X0_4 Vs0_4 Vx0_4 y0_0 y0_1 y0_2 y0_3 y0_l hb hbp
  have y0_0 := X0_5.out.c (k := 0) rfl
  have y0_1 := X0_5.out.c (k := 1) rfl
  have y0_2 := X0_5.out.c (k := 2) rfl
  have y0_3 := X0_5.out.c (k := 3) rfl
  have y0_l := X0_5.out.lt
  have y1_0 := X1_5.out.c (k := 0) rfl
  have y1_1 := X1_5.out.c (k := 1) rfl
  have y1_2 := X1_5.out.c (k := 2) rfl
  have y1_3 := X1_5.out.c (k := 3) rfl
  have y1_l := X1_5.out.lt
  go_wp2_with (fail)
  refine (heqi _ _ _ (IntsAt.own Og_5.out) (IntsAt.own Ow_5.out)).mono ?_
  rintro e6 q6 ⟨rfl, hb⟩
  have hxb : Below q5.heap.size q5 q6 := hb
  have SZ6 : Bx (q5.heap.size ≤ q6.heap.size) := Bx.mk hxb.size
  have Ow_6 := Bx.mk (own_below Ow_5.out hxb)
  have OF_6 := Bx.mk (own_below OF_5.out hxb)
  have OA_6 := Bx.mk (own_below OA_5.out hxb)
  have Og_6 := Bx.mk (own_below Og_5.out hxb)
  clear hxb  Ow_5 OF_5 OA_5 Og_5
  have B_6 := Bx.mk (B_5.out.trans (hb.mono B_5.out.size))
  have X0_6 := Bx.mk (X0_5.out.below hb)
  have X1_6 := Bx.mk (X1_5.out.below hb)
  have Vs0_6 := Bx.mk (Vs0_5.out.below hb)
  have Vx0_6 := Bx.mk (Vx0_5.out.below hb)
  clear B_5 X0_5 X1_5 Vs0_5 Vx0_5 y0_0 y0_1 y0_2 y0_3 y0_l y1_0 y1_1 y1_2 y1_3 y1_l hb
  have y0_0 := X0_6.out.c (k := 0) rfl
  have y0_1 := X0_6.out.c (k := 1) rfl
  have y0_2 := X0_6.out.c (k := 2) rfl
  have y0_3 := X0_6.out.c (k := 3) rfl
  have y0_l := X0_6.out.lt
  have y1_0 := X1_6.out.c (k := 0) rfl
  have y1_1 := X1_6.out.c (k := 1) rfl
  have y1_2 := X1_6.out.c (k := 2) rfl
  have y1_3 := X1_6.out.c (k := 3) rfl
  have y1_l := X1_6.out.lt
  go_wp2_with (fail)
  go_upto_region 10 with (fail)
  go_cut [45] from 14 (fun t wx => t = .bool false ∧ Below q6.heap.size q6 wx)
  case first =>
    go_region_with (first
      | (go_at_call 17; (with_reducible refine (gr_copy _ R0 _ (HR0.out.below B_6.out.drew) SM0.out).mono ?_); rintro r wc ⟨ve, rfl, hr, hb4⟩; have HC := Bx.mk hr; obtain ⟨Be, be, Ce, ce, rfl, _, _⟩ := gr_form hr; have BC : Bx (Below q6.heap.size q6 wc) := Bx.mk ((Below.refl _ _).drew.trans hb4); clear hr hb4; have z1_0 := (X1_6.out.below BC.out).c (k := 0) rfl; have z1_1 := (X1_6.out.below BC.out).c (k := 1) rfl; have z1_2 := (X1_6.out.below BC.out).c (k := 2) rfl; have z1_3 := (X1_6.out.below BC.out).c (k := 3) rfl; have z0_0 := (X0_6.out.below BC.out).c (k := 0) rfl; have z0_1 := (X0_6.out.below BC.out).c (k := 1) rfl; have z0_2 := (X0_6.out.below BC.out).c (k := 2) rfl; have z0_3 := (X0_6.out.below BC.out).c (k := 3) rfl; have z1_l := (X1_6.out.below BC.out).lt; have z0_l := (X0_6.out.below BC.out).lt)
      | (go_at_call 19; (with_reducible refine (eq_gr _ _ R0 _ (Vx0_6.out.below BC.out) HC.out SM0.out).mono ?_); rintro r wd ⟨rfl, hb5⟩; have BE : Bx (Below q6.heap.size q6 wd) := Bx.mk (BC.out.trans (hb5.mono BC.out.size)); have BD := Bx.mk (B_6.out.trans ((BC.out.trans (hb5.mono BC.out.size)).mono B_6.out.size)); clear hb5))
    all_goals
      try go_wp2_with (fail)
      go_meet
      case rel => exact ⟨rfl, BE.out⟩
  case rest =>
    obtain ⟨rfl, hb⟩ := hcut
    obtain ⟨q7, hq⟩ : ∃ x, x = wc := ⟨_, rfl⟩
    subst hq
    have hxb : Below q6.heap.size q6 q7 := hb
    have SZ7 : Bx (q6.heap.size ≤ q7.heap.size) := Bx.mk hxb.size
    have Ow_7 := Bx.mk (own_below Ow_6.out hxb)
    have OF_7 := Bx.mk (own_below OF_6.out hxb)
    have OA_7 := Bx.mk (own_below OA_6.out hxb)
    have Og_7 := Bx.mk (own_below Og_6.out hxb)
    clear hxb  Ow_6 OF_6 OA_6 Og_6
    have B_7 := Bx.mk (B_6.out.trans (hb.mono B_6.out.size))
    have X0_7 := Bx.mk (X0_6.out.below hb)
    have X1_7 := Bx.mk (X1_6.out.below hb)
    have Vs0_7 := Bx.mk (Vs0_6.out.below hb)
    have Vx0_7 := Bx.mk (Vx0_6.out.below hb)
    clear B_6 X0_6 X1_6 Vs0_6 Vx0_6 y0_0 y0_1 y0_2 y0_3 y0_l y1_0 y1_1 y1_2 y1_3 y1_l hb
    have y0_0 := X0_7.out.c (k := 0) rfl
    have y0_1 := X0_7.out.c (k := 1) rfl
    have y0_2 := X0_7.out.c (k := 2) rfl
    have y0_3 := X0_7.out.c (k := 3) rfl
    have y0_l := X0_7.out.lt
    have y1_0 := X1_7.out.c (k := 0) rfl
    have y1_1 := X1_7.out.c (k := 1) rfl
    have y1_2 := X1_7.out.c (k := 2) rfl
    have y1_3 := X1_7.out.c (k := 3) rfl
    have y1_l := X1_7.out.lt
    go_wp2_with (fail)
    refine (mark_gr R0 _ _ q3.heap.size q4.heap.size q7 SM0.out OF_7.out OA_7.out MU.out.1 MU.out.2.1 MU.out.2.2).mono ?_
    rintro e8 q8 ⟨zm, rfl, hzm, ht⟩
    have hs := ht.size
    have hdm : decide (zm < 0) = false := decide_eq_false (by omega)
    have B_8 := Bx.mk (ht.keeps B_7.out (by have := SZ0.out; have := SZ1.out; have := SZ2.out; have := SZ3.out; have := SZ4.out; have := SZ5.out; have := SZ6.out; have := SZ7.out; omega) B_7.out.size)
    have SZ8 : Bx (q7.heap.size ≤ q8.heap.size) := Bx.mk hs
    have X0_8 := Bx.mk (X0_7.out.turn ht (by have := SZ0.out; have := SZ1.out; have := SZ2.out; have := SZ3.out; have := SZ4.out; have := SZ5.out; have := SZ6.out; have := SZ7.out; have := XL0.out; omega))
    have X1_8 := Bx.mk (X1_7.out.turn ht (by have := SZ0.out; have := SZ1.out; have := SZ2.out; have := SZ3.out; have := SZ4.out; have := SZ5.out; have := SZ6.out; have := SZ7.out; have := XL1.out; omega))
    have Ow_8 := Bx.mk (own_turn Ow_7.out ht (fun x hx => by have h1 := Uw.out x hx; have h2 := own_lo Ow_7.out x hx; have := SZ0.out; have := SZ1.out; have := SZ2.out; have := SZ3.out; have := SZ4.out; have := SZ5.out; have := SZ6.out; have := SZ7.out; omega))
    have Og_8 := Bx.mk (own_turn Og_7.out ht (fun x hx => by have h1 := Ug.out x hx; have h2 := own_lo Og_7.out x hx; have := SZ0.out; have := SZ1.out; have := SZ2.out; have := SZ3.out; have := SZ4.out; have := SZ5.out; have := SZ6.out; have := SZ7.out; omega))
    clear B_7 X0_7 X1_7 Ow_7 Og_7 Vs0_7 Vx0_7 OF_7 OA_7 y0_0 y0_1 y0_2 y0_3 y0_l y1_0 y1_1 y1_2 y1_3 y1_l ht hs
    have y0_0 := X0_8.out.c (k := 0) rfl
    have y0_1 := X0_8.out.c (k := 1) rfl
    have y0_2 := X0_8.out.c (k := 2) rfl
    have y0_3 := X0_8.out.c (k := 3) rfl
    have y0_l := X0_8.out.lt
    have y1_0 := X1_8.out.c (k := 0) rfl
    have y1_1 := X1_8.out.c (k := 1) rfl
    have y1_2 := X1_8.out.c (k := 2) rfl
    have y1_3 := X1_8.out.c (k := 3) rfl
    have y1_l := X1_8.out.lt
    go_wp2_with (fail)
    refine (heqi _ _ _ (IntsAt.own Og_8.out) (IntsAt.own Ow_8.out)).mono ?_
    rintro e9 q9 ⟨rfl, hb⟩
    have hxb : Below q8.heap.size q8 q9 := hb
    have SZ9 : Bx (q8.heap.size ≤ q9.heap.size) := Bx.mk hxb.size
    have Ow_9 := Bx.mk (own_below Ow_8.out hxb)
    have Og_9 := Bx.mk (own_below Og_8.out hxb)
    clear hxb  Ow_8 Og_8
    have B_9 := Bx.mk (B_8.out.trans (hb.mono B_8.out.size))
    have X0_9 := Bx.mk (X0_8.out.below hb)
    have X1_9 := Bx.mk (X1_8.out.below hb)
    clear B_8 X0_8 X1_8 y0_0 y0_1 y0_2 y0_3 y0_l y1_0 y1_1 y1_2 y1_3 y1_l hb
    have y0_0 := X0_9.out.c (k := 0) rfl
    have y0_1 := X0_9.out.c (k := 1) rfl
    have y0_2 := X0_9.out.c (k := 2) rfl
    have y0_3 := X0_9.out.c (k := 3) rfl
    have y0_l := X0_9.out.lt
    have y1_0 := X1_9.out.c (k := 0) rfl
    have y1_1 := X1_9.out.c (k := 1) rfl
    have y1_2 := X1_9.out.c (k := 2) rfl
    have y1_3 := X1_9.out.c (k := 3) rfl
    have y1_l := X1_9.out.lt
    go_wp2_with (fail)
    refine (mark_ints _ ys _ 1 _ Og_9.out (by omega) (by omega) (by omega)).mono ?_
    rintro e10 q10 ⟨rfl, hm, hg⟩
    have hs := hg.size
    have B_10 := Bx.mk (B_9.out.grown hg B_9.out.size (fun x hx => by have h2 := own_lo Og_9.out x hx; have := SZ0.out; have := SZ1.out; have := SZ2.out; have := SZ3.out; have := SZ4.out; have := SZ5.out; have := SZ6.out; have := SZ7.out; have := SZ8.out; have := SZ9.out; omega))
    have SZ10 : Bx (q9.heap.size ≤ q10.heap.size) := Bx.mk hs
    have X0_10 := Bx.mk (X0_9.out.grownR hg (fun e => by have h1 := own_lo Og_9.out _ e.symm; have := SZ0.out; have := SZ1.out; have := SZ2.out; have := SZ3.out; have := SZ4.out; have := SZ5.out; have := SZ6.out; have := SZ7.out; have := SZ8.out; have := SZ9.out; have := XL0.out; omega))
    have X1_10 := Bx.mk (X1_9.out.grownR hg (fun e => by have h1 := own_lo Og_9.out _ e.symm; have := SZ0.out; have := SZ1.out; have := SZ2.out; have := SZ3.out; have := SZ4.out; have := SZ5.out; have := SZ6.out; have := SZ7.out; have := SZ8.out; have := SZ9.out; have := XL1.out; omega))
    have Ow_10 := Bx.mk (Ow_9.out.kept hg (ne_row (fun x hx e => by have h1 := Uw.out x e; have h2 := own_lo Og_9.out x hx; have := SZ0.out; have := SZ1.out; have := SZ2.out; have := SZ3.out; have := SZ4.out; have := SZ5.out; have := SZ6.out; have := SZ7.out; have := SZ8.out; have := SZ9.out; omega)))
    have Og_10 := Bx.mk (hm)
    clear B_9 X0_9 X1_9 Ow_9 Og_9 y0_0 y0_1 y0_2 y0_3 y0_l y1_0 y1_1 y1_2 y1_3 y1_l hm hg hs
    have y0_0 := X0_10.out.c (k := 0) rfl
    have y0_1 := X0_10.out.c (k := 1) rfl
    have y0_2 := X0_10.out.c (k := 2) rfl
    have y0_3 := X0_10.out.c (k := 3) rfl
    have y0_l := X0_10.out.lt
    have y1_0 := X1_10.out.c (k := 0) rfl
    have y1_1 := X1_10.out.c (k := 1) rfl
    have y1_2 := X1_10.out.c (k := 2) rfl
    have y1_3 := X1_10.out.c (k := 3) rfl
    have y1_l := X1_10.out.lt
    go_wp2_with (fail)
    refine (hheld _ _ (IntsAt.own (by rw [marks_len]; exact Og_10.out))).mono ?_
    rintro e11 q11 ⟨rfl, hb⟩
    have hxb : Below q10.heap.size q10 q11 := hb
    have SZ11 : Bx (q10.heap.size ≤ q11.heap.size) := Bx.mk hxb.size
    have Ow_11 := Bx.mk (own_below Ow_10.out hxb)
    have Og_11 := Bx.mk (own_below Og_10.out hxb)
    clear hxb  Ow_10 Og_10
    have B_11 := Bx.mk (B_10.out.trans (hb.mono B_10.out.size))
    have X0_11 := Bx.mk (X0_10.out.below hb)
    have X1_11 := Bx.mk (X1_10.out.below hb)
    clear B_10 X0_10 X1_10 y0_0 y0_1 y0_2 y0_3 y0_l y1_0 y1_1 y1_2 y1_3 y1_l hb
    have y0_0 := X0_11.out.c (k := 0) rfl
    have y0_1 := X0_11.out.c (k := 1) rfl
    have y0_2 := X0_11.out.c (k := 2) rfl
    have y0_3 := X0_11.out.c (k := 3) rfl
    have y0_l := X0_11.out.lt
    have y1_0 := X1_11.out.c (k := 0) rfl
    have y1_1 := X1_11.out.c (k := 1) rfl
    have y1_2 := X1_11.out.c (k := 2) rfl
    have y1_3 := X1_11.out.c (k := 3) rfl
    have y1_l := X1_11.out.lt
    go_wp2_with (fail)
    refine (gr_copy _ R0 _ (HR0.out.below (B_11.out)) SM0.out).mono ?_
    rintro e12 q12 ⟨vy0, rfl, hr, hb⟩
    have Vy0_12 := Bx.mk hr
    obtain ⟨By0, by0, Cy0, cy0, rfl, _, _⟩ := gr_form hr
    clear hr
    have hxb : Below q11.heap.size q11 q12 := hb
    have SZ12 : Bx (q11.heap.size ≤ q12.heap.size) := Bx.mk hxb.size
    have Ow_12 := Bx.mk (own_below Ow_11.out hxb)
    have Og_12 := Bx.mk (own_below Og_11.out hxb)
    clear hxb  Ow_11 Og_11
    have B_12 := Bx.mk (B_11.out.trans (hb.mono B_11.out.size))
    have X0_12 := Bx.mk (X0_11.out.below hb)
    have X1_12 := Bx.mk (X1_11.out.below hb)
    clear B_11 X0_11 X1_11 y0_0 y0_1 y0_2 y0_3 y0_l y1_0 y1_1 y1_2 y1_3 y1_l hb
    have y0_0 := X0_12.out.c (k := 0) rfl
    have y0_1 := X0_12.out.c (k := 1) rfl
    have y0_2 := X0_12.out.c (k := 2) rfl
    have y0_3 := X0_12.out.c (k := 3) rfl
    have y0_l := X0_12.out.lt
    have y1_0 := X1_12.out.c (k := 0) rfl
    have y1_1 := X1_12.out.c (k := 1) rfl
    have y1_2 := X1_12.out.c (k := 2) rfl
    have y1_3 := X1_12.out.c (k := 3) rfl
    have y1_l := X1_12.out.lt
    go_wp2_with (fail)
    refine (hi _ _ Vy0_12.out).mono ?_
    rintro e13 q13 ⟨vh, rfl, ho, hb⟩
    obtain ⟨Ah, ch, rfl⟩ := own_len ho
    have Oh_13 := Bx.mk ho
    have Uh := Bx.mk (own_hi ho)
    clear ho
    have hxb : Below q12.heap.size q12 q13 := hb
    have SZ13 : Bx (q12.heap.size ≤ q13.heap.size) := Bx.mk hxb.size
    have Ow_13 := Bx.mk (own_below Ow_12.out hxb)
    have Og_13 := Bx.mk (own_below Og_12.out hxb)
    clear hxb  Ow_12 Og_12
    have B_13 := Bx.mk (B_12.out.trans (hb.mono B_12.out.size))
    have X0_13 := Bx.mk (X0_12.out.below hb)
    have X1_13 := Bx.mk (X1_12.out.below hb)
    have Vy0_13 := Bx.mk (Vy0_12.out.below hb)
    clear B_12 X0_12 X1_12 Vy0_12 y0_0 y0_1 y0_2 y0_3 y0_l y1_0 y1_1 y1_2 y1_3 y1_l hb
    have y0_0 := X0_13.out.c (k := 0) rfl
    have y0_1 := X0_13.out.c (k := 1) rfl
    have y0_2 := X0_13.out.c (k := 2) rfl
    have y0_3 := X0_13.out.c (k := 3) rfl
    have y0_l := X0_13.out.lt
    have y1_0 := X1_13.out.c (k := 0) rfl
    have y1_1 := X1_13.out.c (k := 1) rfl
    have y1_2 := X1_13.out.c (k := 2) rfl
    have y1_3 := X1_13.out.c (k := 3) rfl
    have y1_l := X1_13.out.lt
    go_wp2_with (fail)
    refine (heqi _ _ _ (IntsAt.own Oh_13.out) (IntsAt.own Ow_13.out)).mono ?_
    rintro e14 q14 ⟨rfl, hb⟩
    have hxb : Below q13.heap.size q13 q14 := hb
    have SZ14 : Bx (q13.heap.size ≤ q14.heap.size) := Bx.mk hxb.size
    have Ow_14 := Bx.mk (own_below Ow_13.out hxb)
    have Og_14 := Bx.mk (own_below Og_13.out hxb)
    have Oh_14 := Bx.mk (own_below Oh_13.out hxb)
    clear hxb  Ow_13 Og_13 Oh_13
    have B_14 := Bx.mk (B_13.out.trans (hb.mono B_13.out.size))
    have X0_14 := Bx.mk (X0_13.out.below hb)
    have X1_14 := Bx.mk (X1_13.out.below hb)
    have Vy0_14 := Bx.mk (Vy0_13.out.below hb)
    clear B_13 X0_13 X1_13 Vy0_13 y0_0 y0_1 y0_2 y0_3 y0_l y1_0 y1_1 y1_2 y1_3 y1_l hb
    have y0_0 := X0_14.out.c (k := 0) rfl
    have y0_1 := X0_14.out.c (k := 1) rfl
    have y0_2 := X0_14.out.c (k := 2) rfl
    have y0_3 := X0_14.out.c (k := 3) rfl
    have y0_l := X0_14.out.lt
    have y1_0 := X1_14.out.c (k := 0) rfl
    have y1_1 := X1_14.out.c (k := 1) rfl
    have y1_2 := X1_14.out.c (k := 2) rfl
    have y1_3 := X1_14.out.c (k := 3) rfl
    have y1_l := X1_14.out.lt
    go_wp2_with (fail)
    refine (hheld _ _ (IntsAt.own (by rw [marks_len]; exact Og_14.out))).mono ?_
    rintro e15 q15 ⟨rfl, hb⟩
    have hxb : Below q14.heap.size q14 q15 := hb
    have SZ15 : Bx (q14.heap.size ≤ q15.heap.size) := Bx.mk hxb.size
    have Ow_15 := Bx.mk (own_below Ow_14.out hxb)
    have Og_15 := Bx.mk (own_below Og_14.out hxb)
    have Oh_15 := Bx.mk (own_below Oh_14.out hxb)
    clear hxb  Ow_14 Og_14 Oh_14
    have B_15 := Bx.mk (B_14.out.trans (hb.mono B_14.out.size))
    have X0_15 := Bx.mk (X0_14.out.below hb)
    have X1_15 := Bx.mk (X1_14.out.below hb)
    have Vy0_15 := Bx.mk (Vy0_14.out.below hb)
    clear B_14 X0_14 X1_14 Vy0_14 y0_0 y0_1 y0_2 y0_3 y0_l y1_0 y1_1 y1_2 y1_3 y1_l hb
    have y0_0 := X0_15.out.c (k := 0) rfl
    have y0_1 := X0_15.out.c (k := 1) rfl
    have y0_2 := X0_15.out.c (k := 2) rfl
    have y0_3 := X0_15.out.c (k := 3) rfl
    have y0_l := X0_15.out.lt
    have y1_0 := X1_15.out.c (k := 0) rfl
    have y1_1 := X1_15.out.c (k := 1) rfl
    have y1_2 := X1_15.out.c (k := 2) rfl
    have y1_3 := X1_15.out.c (k := 3) rfl
    have y1_l := X1_15.out.lt
    go_wp2_with (fail)
    go_ret
    exact ⟨rfl, B_15.out⟩

theorem own : ownKnob Try.prog.godebug = none := by kernel_rfl
theorem laidOut : laidOutB Try.prog = true := by kernel_rfl

set_option maxRecDepth 100000 in
theorem lifted (os : Os) (started : os.Started) (H : Type) (enc : TypeId × Value → H) :
    ReturnsInHanded {} Try.checked os 13 .any (Rows.fnExactDeadStatesSpec.pre6 enc Try.prog Try.f13 Rows.fnExactDeadStatesRow.domain false) (Rows.fnExactDeadStatesSpec.post enc Try.prog Try.f13 false true false false) := by
  refine returnsInHanded_of_change (C := Try.checked) own started (by kernel_rfl) Try.func13
    (ChangeSpec.witness6 (enc := enc) (C := Try.checked) false ⟨#[], #[.agg #[.int .i64 0, .int .i64 0, .slice none 0 0, .slice none 0 0]], []⟩ 8 (by kernel_rfl) (by kernel_rfl) (by kernel_rfl) (by kernel_rfl)) ?_
  intro W base args ds gs before hval0 hW hcnd _
  have hval : ∀ (j : Nat) t v, Try.f13.params[j]? = some t → args[j]? = some v → Value.okWide Try.prog W .any base t v := hval0
  have hW' := hW
  obtain ⟨p, q, hA0, hV, rfl, hfz, hnd⟩ := hW
  have hA : DataW.TrodAll enc Try.prog W 0 (fun _ => true) true Try.f13.params.toList args.toList ds p := hA0
  rw [Try.params13] at hA hval
  obtain ⟨v0, vs0, d0, ds0, p0, q0, hargs, rfl, rfl, h0, r0⟩ := trodAll_cons hA
  obtain ⟨rfl, rfl, rfl⟩ := trodAll_nil r0
  obtain rfl : args = #[v0] := by cases args; simp_all
  obtain ⟨rfl, rfl⟩ := trodVars_none hV
  obtain ⟨R0, w0⟩ := arg_gr (hval 0 25 v0 rfl rfl) h0
  replace w0 := (show GrAt W v0 R0 ∧ SmG0 R0 from w0)
  clear hA0 hval0
  refine (walk R0 v0 w0).mono fun e W' ⟨he, hb⟩ => ?_
  subst he
  exact ⟨_, rfl, post_law laidOut (by kernel_rfl) (by kernel_rfl) Try.underlying4 rfl hW' rfl hb⟩

theorem closed : joinedFacts Try.pinned.checked.prog 13 Try.f13 Rows.fnExactDeadStatesSpec Rows.fnExactDeadStatesRow = true := by
  unfold joinedFacts
  rw [may, lifts, made]
  kernel_rfl
theorem over : Rows.fnExactDeadStatesRow.holds Try.pinned (OpenSpec.ofChange Rows.fnExactDeadStatesSpec) :=
  OpenClaim.holds_of_wide 13 Try.f13 rfl rfl rfl rfl rfl rfl rfl ⟨rfl, rfl, rfl, rfl, rfl⟩ rfl rfl rfl rfl rfl (by kernel_rfl) Try.func13 closed
    (of_decide_eq_true (by kernel_rfl)) (by unfold Func.isWrapper; first | (rw [if_pos (by decide +kernel)]; kernel_rfl) | (rw [if_neg (by decide +kernel)]; exact ⟨rfl, rfl⟩))
    (fun os started H enc _ => lifted os started H enc)

theorem proved : Rows.FnExactDeadStatesSaid := over
#print axioms proved
end Go.Proofs.Ytpbgjlmcafmejaa.fnExactDeadStates
