/- 'laws.FnExactSameGrammar' returns true at every input: SameGrammar on both sides is one function. -/
import Derived.Test.YtpbgjlmcafmejaaGs
import Derived.Deep.RegionWith
import Derived.Deep.RegionHeld3
namespace Go.Proofs.Ytpbgjlmcafmejaa.fnExactSameGrammar
open Go.ChangeShapes Go.WideShapes Go.ChangeAt Go.RowKit
set_option linter.unusedVariables false
set_option linter.unusedSimpArgs false
set_option maxRecDepth 100000

set_option maxHeartbeats 8000000 in
theorem walk (R0 : Gr) (v0 : Value) {w : World} (w0 : GrAt w v0 R0 ∧ SmG0 R0) (R1 : Gr) (v1 : Value) (w1 : GrAt w v1 R1 ∧ SmG0 R1) :
    Calls Try.prog 4 #[v0, v1] w fun e w' => e = .returned (.bool true) ∧ Below w.heap.size w w' := by
  obtain ⟨hi0, hm0⟩ := w0
  have HR0 := Bx.mk hi0
  obtain ⟨B0, b0, C0, c0, rfl, _, _⟩ := gr_form hi0
  clear hi0
  obtain ⟨hi1, hm1⟩ := w1
  have HR1 := Bx.mk hi1
  obtain ⟨B1, b1, C1, c1, rfl, _, _⟩ := gr_form hi1
  clear hi1
  have X0 := BoxN.at w (w.heap.size) #[.int .i64 R0.n, .int .i64 R0.s, .slice B0 R0.f.length b0, .slice C0 R0.a.length c0] 25 (by simp)
  have X1 := BoxN.at (w.alloc (.cells #[.int .i64 R0.n, .int .i64 R0.s, .slice B0 R0.f.length b0, .slice C0 R0.a.length c0] 25)) (w.heap.size + 1) #[.int .i64 R1.n, .int .i64 R1.s, .slice B1 R1.f.length b1, .slice C1 R1.a.length c1] 25 (by simp)
  have X0 := X0.alloc (.cells #[.int .i64 R1.n, .int .i64 R1.s, .slice B1 R1.f.length b1, .slice C1 R1.a.length c1] 25)
  have hb : Below w.heap.size w ((w.alloc (.cells #[.int .i64 R0.n, .int .i64 R0.s, .slice B0 R0.f.length b0, .slice C0 R0.a.length c0] 25)).alloc (.cells #[.int .i64 R1.n, .int .i64 R1.s, .slice B1 R1.f.length b1, .slice C1 R1.a.length c1] 25)) := (((Below.refl _ _).alloc (Nat.le_refl _) _).alloc (by simp) _)
  generalize hW : (w.alloc (.cells #[.int .i64 R0.n, .int .i64 R0.s, .slice B0 R0.f.length b0, .slice C0 R0.a.length c0] 25)).alloc (.cells #[.int .i64 R1.n, .int .i64 R1.s, .slice B1 R1.f.length b1, .slice C1 R1.a.length c1] 25) = q0 at hb X0 X1
  have B_0 := Bx.mk hb
  have X0_0 := Bx.mk X0
  have X1_0 := Bx.mk X1
  clear hb X0 X1
  have y0_0 := X0_0.out.c (k := 0) rfl
  have y0_1 := X0_0.out.c (k := 1) rfl
  have y0_2 := X0_0.out.c (k := 2) rfl
  have y0_3 := X0_0.out.c (k := 3) rfl
  have y0_l := X0_0.out.lt
  have y1_0 := X1_0.out.c (k := 0) rfl
  have y1_1 := X1_0.out.c (k := 1) rfl
  have y1_2 := X1_0.out.c (k := 2) rfl
  have y1_3 := X1_0.out.c (k := 3) rfl
  have y1_l := X1_0.out.lt
  go_enter Try.func4, Try.ntmps4
  go_wp2_with (fail)
  try clear hW
  refine (sz_gr _ R0 1048576 (by decide) _ (HR0.out.below B_0.out) hm0).mono ?_
  rintro e1 q1 ⟨z0, rfl, hz0, hb⟩
  have B_1 := Bx.mk (B_0.out.trans (hb.mono B_0.out.size))
  have X0_1 := Bx.mk (X0_0.out.below hb)
  have X1_1 := Bx.mk (X1_0.out.below hb)
  clear B_0 X0_0 X1_0 y0_0 y0_1 y0_2 y0_3 y0_l y1_0 y1_1 y1_2 y1_3 y1_l hb
  have y0_0 := X0_1.out.c (k := 0) rfl
  have y0_1 := X0_1.out.c (k := 1) rfl
  have y0_2 := X0_1.out.c (k := 2) rfl
  have y0_3 := X0_1.out.c (k := 3) rfl
  have y0_l := X0_1.out.lt
  have y1_0 := X1_1.out.c (k := 0) rfl
  have y1_1 := X1_1.out.c (k := 1) rfl
  have y1_2 := X1_1.out.c (k := 2) rfl
  have y1_3 := X1_1.out.c (k := 3) rfl
  have y1_l := X1_1.out.lt
  rcases hz0 with rfl | ⟨hy0, hx0, SM0⟩
  · go_wp2_with (fail)
    go_ret
    exact ⟨rfl, B_1.out⟩
  have SM0 := Bx.mk SM0
  have hd0 : decide (z0 < 0) = false := decide_eq_false (by omega)
  go_wp2_with (fail)
  refine (sz_gr _ R1 z0 (by omega) _ (HR1.out.below B_1.out) hm1).mono ?_
  rintro e2 q2 ⟨z1, rfl, hz1, hb⟩
  have B_2 := Bx.mk (B_1.out.trans (hb.mono B_1.out.size))
  have X0_2 := Bx.mk (X0_1.out.below hb)
  have X1_2 := Bx.mk (X1_1.out.below hb)
  clear B_1 X0_1 X1_1 y0_0 y0_1 y0_2 y0_3 y0_l y1_0 y1_1 y1_2 y1_3 y1_l hb
  have y0_0 := X0_2.out.c (k := 0) rfl
  have y0_1 := X0_2.out.c (k := 1) rfl
  have y0_2 := X0_2.out.c (k := 2) rfl
  have y0_3 := X0_2.out.c (k := 3) rfl
  have y0_l := X0_2.out.lt
  have y1_0 := X1_2.out.c (k := 0) rfl
  have y1_1 := X1_2.out.c (k := 1) rfl
  have y1_2 := X1_2.out.c (k := 2) rfl
  have y1_3 := X1_2.out.c (k := 3) rfl
  have y1_l := X1_2.out.lt
  rcases hz1 with rfl | ⟨hy1, hx1, SM1⟩
  · go_wp2_with (fail)
    go_ret
    exact ⟨rfl, B_2.out⟩
  have SM1 := Bx.mk SM1
  have hd1 : decide (z1 < 0) = false := decide_eq_false (by omega)
  go_wp2_with (fail)
  clear hm0 hm1
  have hs := fun va vb W (h : GrAt W va R0) (h' : GrAt W vb R1) (s : Bx (SmG R0) ∧ Bx (SmG R1)) => spec_samegr va vb R0 R1 W h h' s.1.out s.2.out
  have hi := fun va vb W (h : GrAt W va R0) (h' : GrAt W vb R1) (s : Bx (SmG R0) ∧ Bx (SmG R1)) => impl_samegr va vb R0 R1 W h h' s.1.out s.2.out
  generalize sameGr R0 R1 = t at hs hi
  go_cut [6] from 10 (fun zz0 wx => zz0 = .bool t ∧ Below q2.heap.size q2 wx)
  case first =>
    go_region_with (first
      | (go_at_call 17; (with_reducible refine (gr_copy _ R0 _ (HR0.out.below (B_2.out.drew)) SM0.out).mono ?_); rintro r wr0 ⟨ve, rfl, hr, hb4⟩; have HC0 := Bx.mk hr; obtain ⟨Be0, be0, Ce0, ce0, rfl, _, _⟩ := gr_form hr; have BR0 : Bx (Below q2.heap.size q2 wr0) := Bx.mk ((Below.refl _ _).drew.trans hb4); clear hr hb4; have z0_0 := (X0_2.out.below BR0.out).c (k := 0) rfl; have z0_1 := (X0_2.out.below BR0.out).c (k := 1) rfl; have z0_2 := (X0_2.out.below BR0.out).c (k := 2) rfl; have z0_3 := (X0_2.out.below BR0.out).c (k := 3) rfl; have z1_0 := (X1_2.out.below BR0.out).c (k := 0) rfl; have z1_1 := (X1_2.out.below BR0.out).c (k := 1) rfl; have z1_2 := (X1_2.out.below BR0.out).c (k := 2) rfl; have z1_3 := (X1_2.out.below BR0.out).c (k := 3) rfl; have z0_l := (X0_2.out.below BR0.out).lt; have z1_l := (X1_2.out.below BR0.out).lt)
      | (go_at_call 17; (with_reducible refine (gr_copy _ R1 _ (HR1.out.below ((B_2.out.trans (BR0.out.mono B_2.out.size)))) SM1.out).mono ?_); rintro r wr1 ⟨ve, rfl, hr, hb4⟩; have HC1 := Bx.mk hr; obtain ⟨Be1, be1, Ce1, ce1, rfl, _, _⟩ := gr_form hr; have BR1 : Bx (Below q2.heap.size q2 wr1) := Bx.mk (BR0.out.trans (hb4.mono BR0.out.size)); have HC0 := Bx.mk (HC0.out.below hb4); clear hr hb4; have z0_0 := (X0_2.out.below BR1.out).c (k := 0) rfl; have z0_1 := (X0_2.out.below BR1.out).c (k := 1) rfl; have z0_2 := (X0_2.out.below BR1.out).c (k := 2) rfl; have z0_3 := (X0_2.out.below BR1.out).c (k := 3) rfl; have z1_0 := (X1_2.out.below BR1.out).c (k := 0) rfl; have z1_1 := (X1_2.out.below BR1.out).c (k := 1) rfl; have z1_2 := (X1_2.out.below BR1.out).c (k := 2) rfl; have z1_3 := (X1_2.out.below BR1.out).c (k := 3) rfl; have z0_l := (X0_2.out.below BR1.out).lt; have z1_l := (X1_2.out.below BR1.out).lt)
      | (go_at_call 20; (with_reducible refine (hs _ _ _ HC0.out HC1.out ⟨SM0, SM1⟩).mono ?_); rintro r wm ⟨rfl, hb⟩; have BM : Bx (Below q2.heap.size q2 wm) := Bx.mk (BR1.out.trans (hb.mono BR1.out.size)); clear hb))
    all_goals
      go_wp2_with (fail)
      go_meet
      case rel => exact ⟨rfl, BM.out⟩
  case rest =>
    obtain ⟨rfl, hb⟩ := hcut
    obtain ⟨q3, hq⟩ : ∃ x, x = wc := ⟨_, rfl⟩
    subst hq
    have B_3 := Bx.mk (B_2.out.trans (hb.mono B_2.out.size))
    have X0_3 := Bx.mk (X0_2.out.below hb)
    have X1_3 := Bx.mk (X1_2.out.below hb)
    clear B_2 X0_2 X1_2 y0_0 y0_1 y0_2 y0_3 y0_l y1_0 y1_1 y1_2 y1_3 y1_l hb
    have y0_0 := X0_3.out.c (k := 0) rfl
    have y0_1 := X0_3.out.c (k := 1) rfl
    have y0_2 := X0_3.out.c (k := 2) rfl
    have y0_3 := X0_3.out.c (k := 3) rfl
    have y0_l := X0_3.out.lt
    have y1_0 := X1_3.out.c (k := 0) rfl
    have y1_1 := X1_3.out.c (k := 1) rfl
    have y1_2 := X1_3.out.c (k := 2) rfl
    have y1_3 := X1_3.out.c (k := 3) rfl
    have y1_l := X1_3.out.lt
    go_wp2_with (fail)
    refine (gr_copy _ R0 _ (HR0.out.below (B_3.out)) SM0.out).mono ?_
    rintro e4 q4 ⟨vx0, rfl, hr, hb⟩
    have Vx0_4 := Bx.mk hr
    obtain ⟨Bx0, bx0, Cx0, cx0, rfl, _, _⟩ := gr_form hr
    clear hr
    have B_4 := Bx.mk (B_3.out.trans (hb.mono B_3.out.size))
    have X0_4 := Bx.mk (X0_3.out.below hb)
    have X1_4 := Bx.mk (X1_3.out.below hb)
    clear B_3 X0_3 X1_3 y0_0 y0_1 y0_2 y0_3 y0_l y1_0 y1_1 y1_2 y1_3 y1_l hb
    have y0_0 := X0_4.out.c (k := 0) rfl
    have y0_1 := X0_4.out.c (k := 1) rfl
    have y0_2 := X0_4.out.c (k := 2) rfl
    have y0_3 := X0_4.out.c (k := 3) rfl
    have y0_l := X0_4.out.lt
    have y1_0 := X1_4.out.c (k := 0) rfl
    have y1_1 := X1_4.out.c (k := 1) rfl
    have y1_2 := X1_4.out.c (k := 2) rfl
    have y1_3 := X1_4.out.c (k := 3) rfl
    have y1_l := X1_4.out.lt
    go_wp2_with (fail)
    refine (gr_copy _ R1 _ (HR1.out.below (B_4.out.alloc B_4.out.size _)) SM1.out).mono ?_
    rintro e5 q5 ⟨vx1, rfl, hr, hb⟩
    have Vx1_5 := Bx.mk hr
    obtain ⟨Bx1, bx1, Cx1, cx1, rfl, _, _⟩ := gr_form hr
    clear hr
    have hbp : Below q4.heap.size q4 q5 := ((Below.refl _ _).alloc (Nat.le_refl _) _).trans (hb.mono (by simp))
    have X2_5 := Bx.mk ((BoxN.at q4 q4.heap.size #[.int .i64 R0.n, .int .i64 R0.s, .slice Bx0 R0.f.length bx0, .slice Cx0 R0.a.length cx0] 30 rfl).below hb)
    have B_5 := Bx.mk (B_4.out.trans (hbp.mono B_4.out.size))
    have X0_5 := Bx.mk (X0_4.out.below hbp)
    have X1_5 := Bx.mk (X1_4.out.below hbp)
    have Vx0_5 := Bx.mk (Vx0_4.out.below hbp)
    clear B_4 X0_4 X1_4 Vx0_4 y0_0 y0_1 y0_2 y0_3 y0_l y1_0 y1_1 y1_2 y1_3 y1_l hb hbp
    have y0_0 := X0_5.out.c (k := 0) rfl
    have y0_1 := X0_5.out.c (k := 1) rfl
    have y0_2 := X0_5.out.c (k := 2) rfl
    have y0_3 := X0_5.out.c (k := 3) rfl
    have y0_l := X0_5.out.lt
    have y1_0 := X1_5.out.c (k := 0) rfl
    have y1_1 := X1_5.out.c (k := 1) rfl
    have y1_2 := X1_5.out.c (k := 2) rfl
    have y1_3 := X1_5.out.c (k := 3) rfl
    have y1_l := X1_5.out.lt
    have y2_0 := X2_5.out.c (k := 0) rfl
    have y2_1 := X2_5.out.c (k := 1) rfl
    have y2_2 := X2_5.out.c (k := 2) rfl
    have y2_3 := X2_5.out.c (k := 3) rfl
    have y2_l := X2_5.out.lt
    go_wp2_with (fail)
    refine (hi _ _ _ (Vx0_5.out.below ((Below.refl _ _).alloc (Nat.le_refl _) _)) (Vx1_5.out.below ((Below.refl _ _).alloc (Nat.le_refl _) _)) ⟨SM0, SM1⟩).mono ?_
    rintro e6 q6 ⟨rfl, hb⟩
    have hbp : Below q5.heap.size q5 q6 := ((Below.refl _ _).alloc (Nat.le_refl _) _).trans (hb.mono (by simp))
    have X3_6 := Bx.mk ((BoxN.at q5 q5.heap.size #[.int .i64 R1.n, .int .i64 R1.s, .slice Bx1 R1.f.length bx1, .slice Cx1 R1.a.length cx1] 30 rfl).below hb)
    have B_6 := Bx.mk (B_5.out.trans (hbp.mono B_5.out.size))
    have X0_6 := Bx.mk (X0_5.out.below hbp)
    have X1_6 := Bx.mk (X1_5.out.below hbp)
    have X2_6 := Bx.mk (X2_5.out.below hbp)
    have Vx0_6 := Bx.mk (Vx0_5.out.below hbp)
    have Vx1_6 := Bx.mk (Vx1_5.out.below hbp)
    clear B_5 X0_5 X1_5 X2_5 Vx0_5 Vx1_5 y0_0 y0_1 y0_2 y0_3 y0_l y1_0 y1_1 y1_2 y1_3 y1_l y2_0 y2_1 y2_2 y2_3 y2_l hb hbp
    have y0_0 := X0_6.out.c (k := 0) rfl
    have y0_1 := X0_6.out.c (k := 1) rfl
    have y0_2 := X0_6.out.c (k := 2) rfl
    have y0_3 := X0_6.out.c (k := 3) rfl
    have y0_l := X0_6.out.lt
    have y1_0 := X1_6.out.c (k := 0) rfl
    have y1_1 := X1_6.out.c (k := 1) rfl
    have y1_2 := X1_6.out.c (k := 2) rfl
    have y1_3 := X1_6.out.c (k := 3) rfl
    have y1_l := X1_6.out.lt
    have y2_0 := X2_6.out.c (k := 0) rfl
    have y2_1 := X2_6.out.c (k := 1) rfl
    have y2_2 := X2_6.out.c (k := 2) rfl
    have y2_3 := X2_6.out.c (k := 3) rfl
    have y2_l := X2_6.out.lt
    have y3_0 := X3_6.out.c (k := 0) rfl
    have y3_1 := X3_6.out.c (k := 1) rfl
    have y3_2 := X3_6.out.c (k := 2) rfl
    have y3_3 := X3_6.out.c (k := 3) rfl
    have y3_l := X3_6.out.lt
    go_wp2_with (fail)
    go_upto_region 14 with (fail)
    go_cut [39] from 10 (fun t wx => t = .bool false ∧ Below q6.heap.size q6 wx)
    case first =>
      go_region_with (first
        | (go_at_call 17; (with_reducible refine (gr_copy _ R0 _ (HR0.out.below B_6.out.drew) SM0.out).mono ?_); rintro r wc ⟨ve, rfl, hr, hb4⟩; have HC := Bx.mk hr; obtain ⟨Be, be, Ce, ce, rfl, _, _⟩ := gr_form hr; have BC : Bx (Below q6.heap.size q6 wc) := Bx.mk ((Below.refl _ _).drew.trans hb4); clear hr hb4; have z2_0 := (X2_6.out.below BC.out).c (k := 0) rfl; have z2_1 := (X2_6.out.below BC.out).c (k := 1) rfl; have z2_2 := (X2_6.out.below BC.out).c (k := 2) rfl; have z2_3 := (X2_6.out.below BC.out).c (k := 3) rfl; have z0_0 := (X0_6.out.below BC.out).c (k := 0) rfl; have z0_1 := (X0_6.out.below BC.out).c (k := 1) rfl; have z0_2 := (X0_6.out.below BC.out).c (k := 2) rfl; have z0_3 := (X0_6.out.below BC.out).c (k := 3) rfl; have z2_l := (X2_6.out.below BC.out).lt; have z0_l := (X0_6.out.below BC.out).lt)
        | (go_at_call 19; (with_reducible refine (eq_gr _ _ R0 _ (Vx0_6.out.below BC.out) HC.out SM0.out).mono ?_); rintro r wd ⟨rfl, hb5⟩; have BE : Bx (Below q6.heap.size q6 wd) := Bx.mk (BC.out.trans (hb5.mono BC.out.size)); have BD := Bx.mk (B_6.out.trans ((BC.out.trans (hb5.mono BC.out.size)).mono B_6.out.size)); clear hb5))
      all_goals
        try go_wp2_with (fail)
        go_meet
        case rel => exact ⟨rfl, BE.out⟩
    case rest =>
      obtain ⟨rfl, hb⟩ := hcut
      obtain ⟨q7, hq⟩ : ∃ x, x = wc := ⟨_, rfl⟩
      subst hq
      have B_7 := Bx.mk (B_6.out.trans (hb.mono B_6.out.size))
      have X0_7 := Bx.mk (X0_6.out.below hb)
      have X1_7 := Bx.mk (X1_6.out.below hb)
      have X2_7 := Bx.mk (X2_6.out.below hb)
      have X3_7 := Bx.mk (X3_6.out.below hb)
      have Vx0_7 := Bx.mk (Vx0_6.out.below hb)
      have Vx1_7 := Bx.mk (Vx1_6.out.below hb)
      clear B_6 X0_6 X1_6 X2_6 X3_6 Vx0_6 Vx1_6 y0_0 y0_1 y0_2 y0_3 y0_l y1_0 y1_1 y1_2 y1_3 y1_l y2_0 y2_1 y2_2 y2_3 y2_l y3_0 y3_1 y3_2 y3_3 y3_l hb
      have y0_0 := X0_7.out.c (k := 0) rfl
      have y0_1 := X0_7.out.c (k := 1) rfl
      have y0_2 := X0_7.out.c (k := 2) rfl
      have y0_3 := X0_7.out.c (k := 3) rfl
      have y0_l := X0_7.out.lt
      have y1_0 := X1_7.out.c (k := 0) rfl
      have y1_1 := X1_7.out.c (k := 1) rfl
      have y1_2 := X1_7.out.c (k := 2) rfl
      have y1_3 := X1_7.out.c (k := 3) rfl
      have y1_l := X1_7.out.lt
      have y2_0 := X2_7.out.c (k := 0) rfl
      have y2_1 := X2_7.out.c (k := 1) rfl
      have y2_2 := X2_7.out.c (k := 2) rfl
      have y2_3 := X2_7.out.c (k := 3) rfl
      have y2_l := X2_7.out.lt
      have y3_0 := X3_7.out.c (k := 0) rfl
      have y3_1 := X3_7.out.c (k := 1) rfl
      have y3_2 := X3_7.out.c (k := 2) rfl
      have y3_3 := X3_7.out.c (k := 3) rfl
      have y3_l := X3_7.out.lt
      go_wp2_with (fail)
      go_region_with (first
        | (go_at_call 17; (with_reducible refine (gr_copy _ R1 _ (HR1.out.below B_7.out.drew) SM1.out).mono ?_); rintro r wc ⟨ve, rfl, hr, hb4⟩; have HC := Bx.mk hr; obtain ⟨Be, be, Ce, ce, rfl, _, _⟩ := gr_form hr; have BC : Bx (Below q7.heap.size q7 wc) := Bx.mk ((Below.refl _ _).drew.trans hb4); clear hr hb4; have z3_0 := (X3_7.out.below BC.out).c (k := 0) rfl; have z3_1 := (X3_7.out.below BC.out).c (k := 1) rfl; have z3_2 := (X3_7.out.below BC.out).c (k := 2) rfl; have z3_3 := (X3_7.out.below BC.out).c (k := 3) rfl; have z1_0 := (X1_7.out.below BC.out).c (k := 0) rfl; have z1_1 := (X1_7.out.below BC.out).c (k := 1) rfl; have z1_2 := (X1_7.out.below BC.out).c (k := 2) rfl; have z1_3 := (X1_7.out.below BC.out).c (k := 3) rfl; have z3_l := (X3_7.out.below BC.out).lt; have z1_l := (X1_7.out.below BC.out).lt)
        | (go_at_call 19; (with_reducible refine (eq_gr _ _ R1 _ (Vx1_7.out.below BC.out) HC.out SM1.out).mono ?_); rintro r wd ⟨rfl, hb5⟩; have BE : Bx (Below q7.heap.size q7 wd) := Bx.mk (BC.out.trans (hb5.mono BC.out.size)); have BD := Bx.mk (B_7.out.trans ((BC.out.trans (hb5.mono BC.out.size)).mono B_7.out.size)); clear hb5))
      all_goals
        go_wp2_with (fail)
        go_ret
        exact ⟨rfl, BD.out⟩

theorem own : ownKnob Try.prog.godebug = none := by kernel_rfl
theorem laidOut : laidOutB Try.prog = true := by kernel_rfl

set_option maxRecDepth 100000 in
theorem lifted (os : Os) (started : os.Started) (H : Type) (enc : TypeId × Value → H) :
    ReturnsInHanded {} Try.checked os 4 .any (Rows.fnExactSameGrammarSpec.pre6 enc Try.prog Try.f4 Rows.fnExactSameGrammarRow.domain false) (Rows.fnExactSameGrammarSpec.post enc Try.prog Try.f4 false true false false) := by
  refine returnsInHanded_of_change (C := Try.checked) own started (by kernel_rfl) Try.func4
    (ChangeSpec.witness6 (enc := enc) (C := Try.checked) false ⟨#[], #[.agg #[.int .i64 0, .int .i64 0, .slice none 0 0, .slice none 0 0], .agg #[.int .i64 0, .int .i64 0, .slice none 0 0, .slice none 0 0]], []⟩ 8 (by kernel_rfl) (by kernel_rfl) (by kernel_rfl) (by kernel_rfl)) ?_
  intro W base args ds gs before hval0 hW hcnd _
  have hval : ∀ (j : Nat) t v, Try.f4.params[j]? = some t → args[j]? = some v → Value.okWide Try.prog W .any base t v := hval0
  have hW' := hW
  obtain ⟨p, q, hA0, hV, rfl, hfz, hnd⟩ := hW
  have hA : DataW.TrodAll enc Try.prog W 0 (fun _ => true) true Try.f4.params.toList args.toList ds p := hA0
  rw [Try.params4] at hA hval
  obtain ⟨v0, vs0, d0, ds0, p0, q0, hargs, rfl, rfl, h0, r0⟩ := trodAll_cons hA
  obtain ⟨v1, vs1, d1, ds1, p1, q1, rfl, rfl, rfl, h1, r1⟩ := trodAll_cons r0
  obtain ⟨rfl, rfl, rfl⟩ := trodAll_nil r1
  obtain rfl : args = #[v0, v1] := by cases args; simp_all
  obtain ⟨rfl, rfl⟩ := trodVars_none hV
  obtain ⟨R0, w0⟩ := arg_gr (hval 0 25 v0 rfl rfl) h0
  replace w0 := (show GrAt W v0 R0 ∧ SmG0 R0 from w0)
  obtain ⟨R1, w1⟩ := arg_gr (hval 1 25 v1 rfl rfl) h1
  replace w1 := (show GrAt W v1 R1 ∧ SmG0 R1 from w1)
  clear hA0 hval0
  refine (walk R0 v0 w0 R1 v1 w1).mono fun e W' ⟨he, hb⟩ => ?_
  subst he
  exact ⟨_, rfl, post_law laidOut (by kernel_rfl) (by kernel_rfl) Try.underlying4 rfl hW' rfl hb⟩

theorem closed : joinedFacts Try.pinned.checked.prog 4 Try.f4 Rows.fnExactSameGrammarSpec Rows.fnExactSameGrammarRow = true := by
  unfold joinedFacts
  rw [may, lifts, made]
  kernel_rfl
theorem over : Rows.fnExactSameGrammarRow.holds Try.pinned (OpenSpec.ofChange Rows.fnExactSameGrammarSpec) :=
  OpenClaim.holds_of_wide 4 Try.f4 rfl rfl rfl rfl rfl rfl rfl ⟨rfl, rfl, rfl, rfl, rfl⟩ rfl rfl rfl rfl rfl (by kernel_rfl) Try.func4 closed
    (of_decide_eq_true (by kernel_rfl)) (by unfold Func.isWrapper; first | (rw [if_pos (by decide +kernel)]; kernel_rfl) | (rw [if_neg (by decide +kernel)]; exact ⟨rfl, rfl⟩))
    (fun os started H enc _ => lifted os started H enc)

theorem proved : Rows.FnExactSameGrammarSaid := over
#print axioms proved
end Go.Proofs.Ytpbgjlmcafmejaa.fnExactSameGrammar
