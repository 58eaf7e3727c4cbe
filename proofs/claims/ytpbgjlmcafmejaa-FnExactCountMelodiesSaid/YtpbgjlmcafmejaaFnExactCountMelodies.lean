/- 'laws.FnExactCountMelodies' returns true at every input: CountMelodies on both sides is one function. -/
import Derived.Test.YtpbgjlmcafmejaaGc2
import Derived.Deep.RegionWith
import Derived.Deep.RegionHeld3
namespace Go.Proofs.Ytpbgjlmcafmejaa.fnExactCountMelodies
open Go.ChangeShapes Go.WideShapes Go.ChangeAt Go.RowKit
set_option linter.unusedVariables false
set_option linter.unusedSimpArgs false
set_option maxRecDepth 100000

set_option maxHeartbeats 8000000 in
theorem walk (R0 : Gr) (v0 : Value) {w : World} (w0 : GrAt w v0 R0 ∧ SmG0 R0) (a1 : Int) (w1 : (Lit.int .i64 a1).wf = true) :
    Calls Try.prog 8 #[v0, .int .i64 a1] w fun e w' => e = .returned (.bool true) ∧ Below w.heap.size w w' := by
  obtain ⟨hi0, hm0⟩ := w0
  have HR0 := Bx.mk hi0
  obtain ⟨B0, b0, C0, c0, rfl, _, _⟩ := gr_form hi0
  clear hi0
  have X0 := BoxN.at w (w.heap.size) #[.int .i64 R0.n, .int .i64 R0.s, .slice B0 R0.f.length b0, .slice C0 R0.a.length c0] 25 (by simp)
  have hb : Below w.heap.size w (w.alloc (.cells #[.int .i64 R0.n, .int .i64 R0.s, .slice B0 R0.f.length b0, .slice C0 R0.a.length c0] 25)) := ((Below.refl _ _).alloc (Nat.le_refl _) _)
  generalize hW : w.alloc (.cells #[.int .i64 R0.n, .int .i64 R0.s, .slice B0 R0.f.length b0, .slice C0 R0.a.length c0] 25) = q0 at hb X0
  have B_0 := Bx.mk hb
  have X0_0 := Bx.mk X0
  clear hb X0
  have y0_0 := X0_0.out.c (k := 0) rfl
  have y0_1 := X0_0.out.c (k := 1) rfl
  have y0_2 := X0_0.out.c (k := 2) rfl
  have y0_3 := X0_0.out.c (k := 3) rfl
  have y0_l := X0_0.out.lt
  go_enter Try.func8, Try.ntmps8
  go_wp2_with (fail)
  try clear hW
  refine (sz_gr _ R0 1048576 (by decide) _ (HR0.out.below B_0.out) hm0).mono ?_
  rintro e1 q1 ⟨z0, rfl, hz0, hb⟩
  have B_1 := Bx.mk (B_0.out.trans (hb.mono B_0.out.size))
  have X0_1 := Bx.mk (X0_0.out.below hb)
  clear B_0 X0_0 y0_0 y0_1 y0_2 y0_3 y0_l hb
  have y0_0 := X0_1.out.c (k := 0) rfl
  have y0_1 := X0_1.out.c (k := 1) rfl
  have y0_2 := X0_1.out.c (k := 2) rfl
  have y0_3 := X0_1.out.c (k := 3) rfl
  have y0_l := X0_1.out.lt
  rcases hz0 with rfl | ⟨hy0, hx0, SM0⟩
  · go_wp2_with (fail)
    go_ret
    exact ⟨rfl, B_1.out⟩
  have SM0 := Bx.mk SM0
  have hd0 : decide (z0 < 0) = false := decide_eq_false (by omega)
  go_wp2_with (fail)
  clear hm0
  have hs := fun v W (h : GrAt W v R0) => spec_countmel v R0 a1 W h SM0.out
  have hi := fun v W (h : GrAt W v R0) => impl_countmel v R0 a1 W h SM0.out
  unfold OutG2 at hs hi
  generalize countE R0 a1 = t at hs hi
  obtain ⟨r0, r1⟩ := t
  refine (gr_copy _ R0 _ (HR0.out.below (B_1.out)) SM0.out).mono ?_
  rintro e2 q2 ⟨vs0, rfl, hr, hb⟩
  have Vs0_2 := Bx.mk hr
  obtain ⟨Bs0, bs0, Cs0, cs0, rfl, _, _⟩ := gr_form hr
  clear hr
  have B_2 := Bx.mk (B_1.out.trans (hb.mono B_1.out.size))
  have X0_2 := Bx.mk (X0_1.out.below hb)
  clear B_1 X0_1 y0_0 y0_1 y0_2 y0_3 y0_l hb
  have y0_0 := X0_2.out.c (k := 0) rfl
  have y0_1 := X0_2.out.c (k := 1) rfl
  have y0_2 := X0_2.out.c (k := 2) rfl
  have y0_3 := X0_2.out.c (k := 3) rfl
  have y0_l := X0_2.out.lt
  go_wp2_with (fail)
  refine (hs _ _ Vs0_2.out).mono ?_
  rintro e3 q3 ⟨rfl, hb⟩
  have B_3 := Bx.mk (B_2.out.trans (hb.mono B_2.out.size))
  have X0_3 := Bx.mk (X0_2.out.below hb)
  have Vs0_3 := Bx.mk (Vs0_2.out.below hb)
  clear B_2 X0_2 Vs0_2 y0_0 y0_1 y0_2 y0_3 y0_l hb
  have y0_0 := X0_3.out.c (k := 0) rfl
  have y0_1 := X0_3.out.c (k := 1) rfl
  have y0_2 := X0_3.out.c (k := 2) rfl
  have y0_3 := X0_3.out.c (k := 3) rfl
  have y0_l := X0_3.out.lt
  go_wp2_with (fail)
  refine (gr_copy _ R0 _ (HR0.out.below (B_3.out)) SM0.out).mono ?_
  rintro e4 q4 ⟨vx0, rfl, hr, hb⟩
  have Vx0_4 := Bx.mk hr
  obtain ⟨Bx0, bx0, Cx0, cx0, rfl, _, _⟩ := gr_form hr
  clear hr
  have B_4 := Bx.mk (B_3.out.trans (hb.mono B_3.out.size))
  have X0_4 := Bx.mk (X0_3.out.below hb)
  have Vs0_4 := Bx.mk (Vs0_3.out.below hb)
  clear B_3 X0_3 Vs0_3 y0_0 y0_1 y0_2 y0_3 y0_l hb
  have y0_0 := X0_4.out.c (k := 0) rfl
  have y0_1 := X0_4.out.c (k := 1) rfl
  have y0_2 := X0_4.out.c (k := 2) rfl
  have y0_3 := X0_4.out.c (k := 3) rfl
  have y0_l := X0_4.out.lt
  go_wp2_with (fail)
  refine (hi _ _ (Vx0_4.out.below ((Below.refl _ _).alloc (Nat.le_refl _) _))).mono ?_
  rintro e5 q5 ⟨rfl, hb⟩
  have hbp : Below q4.heap.size q4 q5 := ((Below.refl _ _).alloc (Nat.le_refl _) _).trans (hb.mono (by simp))
  have X1_5 := Bx.mk ((BoxN.at q4 q4.heap.size #[.int .i64 R0.n, .int .i64 R0.s, .slice Bx0 R0.f.length bx0, .slice Cx0 R0.a.length cx0] 30 rfl).below hb)
  have B_5 := Bx.mk (B_4.out.trans (hbp.mono B_4.out.size))
  have X0_5 := Bx.mk (X0_4.out.below hbp)
  have Vs0_5 := Bx.mk (Vs0_4.out.below hbp)
  have Vx0_5 := Bx.mk (Vx0_4.out.below hbp)
  clear B_4 X0_4 Vs0_4 Vx0_4 y0_0 y0_1 y0_2 y0_3 y0_l hb hbp
  have y0_0 := X0_5.out.c (k := 0) rfl
  have y0_1 := X0_5.out.c (k := 1) rfl
  have y0_2 := X0_5.out.c (k := 2) rfl
  have y0_3 := X0_5.out.c (k := 3) rfl
  have y0_l := X0_5.out.lt
  have y1_0 := X1_5.out.c (k := 0) rfl
  have y1_1 := X1_5.out.c (k := 1) rfl
  have y1_2 := X1_5.out.c (k := 2) rfl
  have y1_3 := X1_5.out.c (k := 3) rfl
  have y1_l := X1_5.out.lt
  go_wp2_with (fail)
  go_region_with (first
    | (go_at_call 17; (with_reducible refine (gr_copy _ R0 _ (HR0.out.below B_5.out.drew) SM0.out).mono ?_); rintro r wc ⟨ve, rfl, hr, hb4⟩; have HC := Bx.mk hr; obtain ⟨Be, be, Ce, ce, rfl, _, _⟩ := gr_form hr; have BC : Bx (Below q5.heap.size q5 wc) := Bx.mk ((Below.refl _ _).drew.trans hb4); clear hr hb4; have z1_0 := (X1_5.out.below BC.out).c (k := 0) rfl; have z1_1 := (X1_5.out.below BC.out).c (k := 1) rfl; have z1_2 := (X1_5.out.below BC.out).c (k := 2) rfl; have z1_3 := (X1_5.out.below BC.out).c (k := 3) rfl; have z0_0 := (X0_5.out.below BC.out).c (k := 0) rfl; have z0_1 := (X0_5.out.below BC.out).c (k := 1) rfl; have z0_2 := (X0_5.out.below BC.out).c (k := 2) rfl; have z0_3 := (X0_5.out.below BC.out).c (k := 3) rfl; have z1_l := (X1_5.out.below BC.out).lt; have z0_l := (X0_5.out.below BC.out).lt)
    | (go_at_call 19; (with_reducible refine (eq_gr _ _ R0 _ (Vx0_5.out.below BC.out) HC.out SM0.out).mono ?_); rintro r wd ⟨rfl, hb5⟩; have BE : Bx (Below q5.heap.size q5 wd) := Bx.mk (BC.out.trans (hb5.mono BC.out.size)); have BD := Bx.mk (B_5.out.trans ((BC.out.trans (hb5.mono BC.out.size)).mono B_5.out.size)); clear hb5))
  all_goals
    go_wp2_with (fail)
    go_ret
    exact ⟨rfl, BD.out⟩

theorem own : ownKnob Try.prog.godebug = none := by kernel_rfl
theorem laidOut : laidOutB Try.prog = true := by kernel_rfl

set_option maxRecDepth 100000 in
theorem lifted (os : Os) (started : os.Started) (H : Type) (enc : TypeId × Value → H) :
    ReturnsInHanded {} Try.checked os 8 .any (Rows.fnExactCountMelodiesSpec.pre6 enc Try.prog Try.f8 Rows.fnExactCountMelodiesRow.domain false) (Rows.fnExactCountMelodiesSpec.post enc Try.prog Try.f8 false true false false) := by
  refine returnsInHanded_of_change (C := Try.checked) own started (by kernel_rfl) Try.func8
    (ChangeSpec.witness6 (enc := enc) (C := Try.checked) false ⟨#[], #[.agg #[.int .i64 0, .int .i64 0, .slice none 0 0, .slice none 0 0], .int .i64 0], []⟩ 8 (by kernel_rfl) (by kernel_rfl) (by kernel_rfl) (by kernel_rfl)) ?_
  intro W base args ds gs before hval0 hW hcnd _
  have hval : ∀ (j : Nat) t v, Try.f8.params[j]? = some t → args[j]? = some v → Value.okWide Try.prog W .any base t v := hval0
  have hW' := hW
  obtain ⟨p, q, hA0, hV, rfl, hfz, hnd⟩ := hW
  have hA : DataW.TrodAll enc Try.prog W 0 (fun _ => true) true Try.f8.params.toList args.toList ds p := hA0
  rw [Try.params8] at hA hval
  obtain ⟨v0, vs0, d0, ds0, p0, q0, hargs, rfl, rfl, h0, r0⟩ := trodAll_cons hA
  obtain ⟨v1, vs1, d1, ds1, p1, q1, rfl, rfl, rfl, h1, r1⟩ := trodAll_cons r0
  obtain ⟨rfl, rfl, rfl⟩ := trodAll_nil r1
  obtain rfl : args = #[v0, v1] := by cases args; simp_all
  obtain ⟨rfl, rfl⟩ := trodVars_none hV
  obtain ⟨R0, w0⟩ := arg_gr (hval 0 25 v0 rfl rfl) h0
  replace w0 := (show GrAt W v0 R0 ∧ SmG0 R0 from w0)
  obtain ⟨a1, rfl, rfl, rfl, w1⟩ := open_int Try.underlying2 (hval 1 2 v1 rfl rfl) h1
  clear hA0 hval0
  refine (walk R0 v0 w0 a1 w1).mono fun e W' ⟨he, hb⟩ => ?_
  subst he
  exact ⟨_, rfl, post_law laidOut (by kernel_rfl) (by kernel_rfl) Try.underlying4 rfl hW' rfl hb⟩

theorem closed : joinedFacts Try.pinned.checked.prog 8 Try.f8 Rows.fnExactCountMelodiesSpec Rows.fnExactCountMelodiesRow = true := by
  unfold joinedFacts
  rw [may, lifts, made]
  kernel_rfl
theorem over : Rows.fnExactCountMelodiesRow.holds Try.pinned (OpenSpec.ofChange Rows.fnExactCountMelodiesSpec) :=
  OpenClaim.holds_of_wide 8 Try.f8 rfl rfl rfl rfl rfl rfl rfl ⟨rfl, rfl, rfl, rfl, rfl⟩ rfl rfl rfl rfl rfl (by kernel_rfl) Try.func8 closed
    (of_decide_eq_true (by kernel_rfl)) (by unfold Func.isWrapper; first | (rw [if_pos (by decide +kernel)]; kernel_rfl) | (rw [if_neg (by decide +kernel)]; exact ⟨rfl, rfl⟩))
    (fun os started H enc _ => lifted os started H enc)

theorem proved : Rows.FnExactCountMelodiesSaid := over
#print axioms proved
end Go.Proofs.Ytpbgjlmcafmejaa.fnExactCountMelodies
