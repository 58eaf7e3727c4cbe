/- 'laws.FnExactCutMelody' returns true at every input: CutMelody on both sides is one function. -/
import Derived.Test.YtendfnimhmnioaaDoorNy3
import Derived.Test.YtendfnimhmnioaaDoorTabs
namespace Go.Proofs.YtendfnimhmnioaaDoor.fnExactCutMelody
open Go.ChangeShapes Go.WideShapes Go.ChangeAt Go.RowKit
set_option linter.unusedVariables false
set_option linter.unusedSimpArgs false
set_option maxRecDepth 100000

set_option maxHeartbeats 4000000 in
theorem walk (v0 : Value) (l0 : List (Int × Int)) {w : World} (w0 : PrsAt w v0 l0 ∧ l0.length ≤ 9223372036854775807 ∧ WfN l0) (a1 : Int) (w1 : (Lit.int .i64 a1).wf = true) (a2 : Int) (w2 : (Lit.int .i64 a2).wf = true) (hl : laidMet Tryd.prog Rows.fnExactCutMelodyRow.laid w) :
    Calls Tryd.prog 7 #[v0, .int .i64 a1, .int .i64 a2] w fun e w' => e = .returned (.bool true) ∧ Below w.heap.size w w' := by
  obtain ⟨ea, eb, he0⟩ := er_laid hl
  have HER := Bx.mk he0
  clear he0
  clear hl
  obtain ⟨hi0, hmax0, hwf0⟩ := w0
  obtain ⟨A0, c0, rfl⟩ := prs_len hi0
  have HW0 := Bx.mk hwf0
  clear hwf0
  have HI0 := Bx.mk hi0
  clear hi0
  have B0 : Bx (Below w.heap.size w w) := Bx.mk (Below.refl _ _)
  go_enter Tryd.func7, Tryd.ntmps7
  go_wp2_with (fail)
  refine (sz_prs _ l0 1048576 _ (HI0.out.below B0.out) (by decide) hmax0).mono ?_
  rintro e1 q1 ⟨rfl, hd⟩
  have hb := below_eq hd
  clear hd
  by_cases hs0 : 1048576 < (l0.length : Int)
  · rw [show szN l0.length 1048576 = -1 from if_pos hs0]
    have BZ := Bx.mk (B0.out.trans (hb.mono B0.out.size))
    clear hb B0
    go_wp2_with (fail)
    go_ret
    exact ⟨rfl, BZ.out⟩
  rw [show szN l0.length 1048576 = 1048576 - l0.length from if_neg hs0]
  have hn0 : l0.length ≤ 1048576 := by omega
  obtain ⟨z0, ez0, hz0⟩ : ∃ z : Int, z = 1048576 - (l0.length : Int) ∧ (0 ≤ z ∧ z ≤ 1048576) := ⟨_, rfl, by omega⟩
  rw [← ez0]
  have hd0 : decide (z0 < 0) = false := decide_eq_false (by omega)
  clear ez0 hs0
  have B1 : Bx (Below w.heap.size w q1) := Bx.mk (B0.out.trans (hb.mono B0.out.size))
  have SZ1 : Bx (w.heap.size ≤ q1.heap.size) := Bx.mk hb.size
  clear hb
  go_wp2_with (fail)
  have hs : ∀ u0 W, PrsAt W u0 l0 → Calls Tryd.prog 24 #[u0, .int .i64 a1, .int .i64 a2] W (NtOut (cutE l0 a1 a2).1 (.int .i64 (cutE l0 a1 a2).2) W) := fun u0 W h0 => spec_cut u0 l0 a1 a2 W h0 hn0
  have hi : ∀ u0 W, PrsAt W u0 l0 → Er W ea eb → Calls Tryd.prog 25 #[u0, .int .i64 a1, .int .i64 a2] W (NtOut (cutE l0 a1 a2).1 (.int .i64 (cutE l0 a1 a2).2) W) := fun u0 W h0 hx => impl_cut u0 l0 a1 a2 ea eb W h0 hx hn0
  have HL : Bx ((cutE l0 a1 a2).1.length ≤ 64) := Bx.mk (by have := cutE_len l0 a1 a2; omega)
  generalize (cutE l0 a1 a2).1 = ys at hs hi HL
  generalize (cutE l0 a1 a2).2 = cc at hs hi
  refine (copy_prs _ l0 q1 (HI0.out.below B1.out) (by omega)).mono ?_
  rintro e2 q2 ⟨va0, rfl, ho, hb⟩
  have B2 : Bx (Below w.heap.size w q2) := Bx.mk (B1.out.trans (hb.mono B1.out.size))
  have SZ2 : Bx (q1.heap.size ≤ q2.heap.size) := Bx.mk hb.size
  have Oa0_2 := Bx.mk ho
  have Ua0 := Bx.mk (own_hi ho)
  clear ho
  clear hb
  go_wp2_with (fail)
  refine (hs _ _ (prs_own Oa0_2.out)).mono ?_
  rintro e3 q3 ⟨vw, rfl, ho, hb⟩
  have B3 : Bx (Below w.heap.size w q3) := Bx.mk (B2.out.trans (hb.mono B2.out.size))
  have SZ3 : Bx (q2.heap.size ≤ q3.heap.size) := Bx.mk hb.size
  have Oa0_3 := Bx.mk (own_below Oa0_2.out hb)
  clear Oa0_2
  have Ow_3 := Bx.mk ho
  have Uw := Bx.mk (own_hi ho)
  clear ho
  clear hb
  go_wp2_with (fail)
  refine (copy_prs _ l0 q3 (HI0.out.below B3.out) (by omega)).mono ?_
  rintro e4 q4 ⟨vb0, rfl, ho, hb⟩
  have B4 : Bx (Below w.heap.size w q4) := Bx.mk (B3.out.trans (hb.mono B3.out.size))
  have SZ4 : Bx (q3.heap.size ≤ q4.heap.size) := Bx.mk hb.size
  have Oa0_4 := Bx.mk (own_below Oa0_3.out hb)
  have Ow_4 := Bx.mk (own_below Ow_3.out hb)
  clear Oa0_3 Ow_3
  have Ob0_4 := Bx.mk ho
  have Ub0 := Bx.mk (own_hi ho)
  clear ho
  clear hb
  go_wp2_with (fail)
  refine (hi _ _ (prs_own Ob0_4.out) (HER.out.below B4.out)).mono ?_
  rintro e5 q5 ⟨vg, rfl, ho, hb⟩
  have B5 : Bx (Below w.heap.size w q5) := Bx.mk (B4.out.trans (hb.mono B4.out.size))
  have SZ5 : Bx (q4.heap.size ≤ q5.heap.size) := Bx.mk hb.size
  have Oa0_5 := Bx.mk (own_below Oa0_4.out hb)
  have Ow_5 := Bx.mk (own_below Ow_4.out hb)
  have Ob0_5 := Bx.mk (own_below Ob0_4.out hb)
  clear Oa0_4 Ow_4 Ob0_4
  have Og_5 := Bx.mk ho
  have Ug := Bx.mk (own_hi ho)
  clear ho
  clear hb
  go_wp2_with (fail)
  refine (eq_prs_same _ _ ys _ (prs_own Og_5.out) (prs_own Ow_5.out) (by have := HL.out; omega)).mono ?_
  rintro e6 q6 ⟨rfl, hb⟩
  have B6 : Bx (Below w.heap.size w q6) := Bx.mk (B5.out.trans (hb.mono B5.out.size))
  have SZ6 : Bx (q5.heap.size ≤ q6.heap.size) := Bx.mk hb.size
  have Oa0_6 := Bx.mk (own_below Oa0_5.out hb)
  have Ow_6 := Bx.mk (own_below Ow_5.out hb)
  have Ob0_6 := Bx.mk (own_below Ob0_5.out hb)
  have Og_6 := Bx.mk (own_below Og_5.out hb)
  clear Oa0_5 Ow_5 Ob0_5 Og_5
  clear hb
  go_wp2_with (fail)
  refine (copy_prs _ l0 q6 (HI0.out.below B6.out) (by omega)).mono ?_
  rintro e7 q7 ⟨vc0, rfl, ho, hb⟩
  have B7 : Bx (Below w.heap.size w q7) := Bx.mk (B6.out.trans (hb.mono B6.out.size))
  have SZ7 : Bx (q6.heap.size ≤ q7.heap.size) := Bx.mk hb.size
  have Oa0_7 := Bx.mk (own_below Oa0_6.out hb)
  have Ow_7 := Bx.mk (own_below Ow_6.out hb)
  have Ob0_7 := Bx.mk (own_below Ob0_6.out hb)
  have Og_7 := Bx.mk (own_below Og_6.out hb)
  clear Oa0_6 Ow_6 Ob0_6 Og_6
  have Oc0_7 := Bx.mk ho
  have Uc0 := Bx.mk (own_hi ho)
  clear ho
  clear hb
  go_wp2_with (fail)
  refine (eq_prs_same _ _ l0 _ (prs_own Ob0_7.out) (prs_own Oc0_7.out) (by omega)).mono ?_
  rintro e8 q8 ⟨rfl, hb⟩
  have B8 : Bx (Below w.heap.size w q8) := Bx.mk (B7.out.trans (hb.mono B7.out.size))
  have SZ8 : Bx (q7.heap.size ≤ q8.heap.size) := Bx.mk hb.size
  have Oa0_8 := Bx.mk (own_below Oa0_7.out hb)
  have Ow_8 := Bx.mk (own_below Ow_7.out hb)
  have Ob0_8 := Bx.mk (own_below Ob0_7.out hb)
  have Og_8 := Bx.mk (own_below Og_7.out hb)
  have Oc0_8 := Bx.mk (own_below Oc0_7.out hb)
  clear Oa0_7 Ow_7 Ob0_7 Og_7 Oc0_7
  clear hb
  go_wp2_with (fail)
  refine (mark_prsE _ l0 q3.heap.size 1 _ Ob0_8.out (by omega) (by omega) (by omega)).mono ?_
  rintro e9 q9 ⟨rfl, hm, hg⟩
  have B9 : Bx (Below w.heap.size w q9) := Bx.mk (below_mark B8.out Ob0_8.out (B3.out.size) hg)
  have SZ9 : Bx (q8.heap.size ≤ q9.heap.size) := Bx.mk (grown_size hg)
  have Oa0_9 := Bx.mk (own_young Oa0_8.out Ua0.out Ob0_8.out (by have := SZ1.out; have := SZ2.out; have := SZ3.out; have := SZ4.out; have := SZ5.out; have := SZ6.out; have := SZ7.out; have := SZ8.out; have := SZ9.out; omega) hg)
  have Ow_9 := Bx.mk (own_young Ow_8.out Uw.out Ob0_8.out (by have := SZ1.out; have := SZ2.out; have := SZ3.out; have := SZ4.out; have := SZ5.out; have := SZ6.out; have := SZ7.out; have := SZ8.out; have := SZ9.out; omega) hg)
  have Og_9 := Bx.mk (own_old Og_8.out Ub0.out (by have := SZ1.out; have := SZ2.out; have := SZ3.out; have := SZ4.out; have := SZ5.out; have := SZ6.out; have := SZ7.out; have := SZ8.out; have := SZ9.out; omega) hg)
  have Oc0_9 := Bx.mk (own_old Oc0_8.out Ub0.out (by have := SZ1.out; have := SZ2.out; have := SZ3.out; have := SZ4.out; have := SZ5.out; have := SZ6.out; have := SZ7.out; have := SZ8.out; have := SZ9.out; omega) hg)
  clear Oa0_8 Ow_8 Ob0_8 Og_8 Oc0_8
  have Ob0_9 := Bx.mk hm
  clear hm hg
  have hdk : decide (1 + 2 * (l0.length : Int) < 0) = false := decide_eq_false (by omega)
  go_wp2_with (fail)
  refine (eq_prs_same _ _ ys _ (prs_own Og_9.out) (prs_own Ow_9.out) (by have := HL.out; omega)).mono ?_
  rintro e10 q10 ⟨rfl, hb⟩
  have B10 : Bx (Below w.heap.size w q10) := Bx.mk (B9.out.trans (hb.mono B9.out.size))
  have SZ10 : Bx (q9.heap.size ≤ q10.heap.size) := Bx.mk hb.size
  have Oa0_10 := Bx.mk (own_below Oa0_9.out hb)
  have Ow_10 := Bx.mk (own_below Ow_9.out hb)
  have Ob0_10 := Bx.mk (own_below Ob0_9.out hb)
  have Og_10 := Bx.mk (own_below Og_9.out hb)
  have Oc0_10 := Bx.mk (own_below Oc0_9.out hb)
  clear Oa0_9 Ow_9 Ob0_9 Og_9 Oc0_9
  clear hb
  go_wp2_with (fail)
  refine (mark_prsE _ ys q4.heap.size 1 _ Og_10.out (by have := HL.out; omega) (by omega) (by omega)).mono ?_
  rintro e11 q11 ⟨rfl, hm, hg⟩
  have B11 : Bx (Below w.heap.size w q11) := Bx.mk (below_mark B10.out Og_10.out (B4.out.size) hg)
  have SZ11 : Bx (q10.heap.size ≤ q11.heap.size) := Bx.mk (grown_size hg)
  have Oa0_11 := Bx.mk (own_young Oa0_10.out Ua0.out Og_10.out (by have := SZ1.out; have := SZ2.out; have := SZ3.out; have := SZ4.out; have := SZ5.out; have := SZ6.out; have := SZ7.out; have := SZ8.out; have := SZ9.out; have := SZ10.out; have := SZ11.out; omega) hg)
  have Ow_11 := Bx.mk (own_young Ow_10.out Uw.out Og_10.out (by have := SZ1.out; have := SZ2.out; have := SZ3.out; have := SZ4.out; have := SZ5.out; have := SZ6.out; have := SZ7.out; have := SZ8.out; have := SZ9.out; have := SZ10.out; have := SZ11.out; omega) hg)
  have Ob0_11 := Bx.mk (own_young Ob0_10.out Ub0.out Og_10.out (by have := SZ1.out; have := SZ2.out; have := SZ3.out; have := SZ4.out; have := SZ5.out; have := SZ6.out; have := SZ7.out; have := SZ8.out; have := SZ9.out; have := SZ10.out; have := SZ11.out; omega) hg)
  have Oc0_11 := Bx.mk (own_old Oc0_10.out Ug.out (by have := SZ1.out; have := SZ2.out; have := SZ3.out; have := SZ4.out; have := SZ5.out; have := SZ6.out; have := SZ7.out; have := SZ8.out; have := SZ9.out; have := SZ10.out; have := SZ11.out; omega) hg)
  clear Oa0_10 Ow_10 Ob0_10 Og_10 Oc0_10
  have Og_11 := Bx.mk hm
  clear hm hg
  go_wp2_with (fail)
  refine (held_prs _ ys.length 1 _ (prs_own (by rw [pmk_len]; exact Og_11.out)) (by have := HL.out; omega) (by omega) (by omega)).mono ?_
  rintro e12 q12 ⟨rfl, hd⟩
  have hb := below_eq hd
  clear hd
  have B12 : Bx (Below w.heap.size w q12) := Bx.mk (B11.out.trans (hb.mono B11.out.size))
  have SZ12 : Bx (q11.heap.size ≤ q12.heap.size) := Bx.mk hb.size
  have Oa0_12 := Bx.mk (own_below Oa0_11.out hb)
  have Ow_12 := Bx.mk (own_below Ow_11.out hb)
  have Ob0_12 := Bx.mk (own_below Ob0_11.out hb)
  have Og_12 := Bx.mk (own_below Og_11.out hb)
  have Oc0_12 := Bx.mk (own_below Oc0_11.out hb)
  clear Oa0_11 Ow_11 Ob0_11 Og_11 Oc0_11
  clear hb
  go_wp2_with (fail)
  refine (copy_prs _ l0 q12 (HI0.out.below B12.out) (by omega)).mono ?_
  rintro e13 q13 ⟨vd0, rfl, ho, hb⟩
  have B13 : Bx (Below w.heap.size w q13) := Bx.mk (B12.out.trans (hb.mono B12.out.size))
  have SZ13 : Bx (q12.heap.size ≤ q13.heap.size) := Bx.mk hb.size
  have Oa0_13 := Bx.mk (own_below Oa0_12.out hb)
  have Ow_13 := Bx.mk (own_below Ow_12.out hb)
  have Ob0_13 := Bx.mk (own_below Ob0_12.out hb)
  have Og_13 := Bx.mk (own_below Og_12.out hb)
  have Oc0_13 := Bx.mk (own_below Oc0_12.out hb)
  clear Oa0_12 Ow_12 Ob0_12 Og_12 Oc0_12
  have Od0_13 := Bx.mk ho
  have Ud0 := Bx.mk (own_hi ho)
  clear ho
  clear hb
  go_wp2_with (fail)
  refine (hi _ _ (prs_own Od0_13.out) (HER.out.below B13.out)).mono ?_
  rintro e14 q14 ⟨vh, rfl, ho, hb⟩
  have B14 : Bx (Below w.heap.size w q14) := Bx.mk (B13.out.trans (hb.mono B13.out.size))
  have SZ14 : Bx (q13.heap.size ≤ q14.heap.size) := Bx.mk hb.size
  have Oa0_14 := Bx.mk (own_below Oa0_13.out hb)
  have Ow_14 := Bx.mk (own_below Ow_13.out hb)
  have Ob0_14 := Bx.mk (own_below Ob0_13.out hb)
  have Og_14 := Bx.mk (own_below Og_13.out hb)
  have Oc0_14 := Bx.mk (own_below Oc0_13.out hb)
  have Od0_14 := Bx.mk (own_below Od0_13.out hb)
  clear Oa0_13 Ow_13 Ob0_13 Og_13 Oc0_13 Od0_13
  have Oh_14 := Bx.mk ho
  have Uh := Bx.mk (own_hi ho)
  clear ho
  clear hb
  go_wp2_with (fail)
  refine (eq_prs_same _ _ ys _ (prs_own Oh_14.out) (prs_own Ow_14.out) (by have := HL.out; omega)).mono ?_
  rintro e15 q15 ⟨rfl, hb⟩
  have B15 : Bx (Below w.heap.size w q15) := Bx.mk (B14.out.trans (hb.mono B14.out.size))
  have SZ15 : Bx (q14.heap.size ≤ q15.heap.size) := Bx.mk hb.size
  have Oa0_15 := Bx.mk (own_below Oa0_14.out hb)
  have Ow_15 := Bx.mk (own_below Ow_14.out hb)
  have Ob0_15 := Bx.mk (own_below Ob0_14.out hb)
  have Og_15 := Bx.mk (own_below Og_14.out hb)
  have Oc0_15 := Bx.mk (own_below Oc0_14.out hb)
  have Od0_15 := Bx.mk (own_below Od0_14.out hb)
  have Oh_15 := Bx.mk (own_below Oh_14.out hb)
  clear Oa0_14 Ow_14 Ob0_14 Og_14 Oc0_14 Od0_14 Oh_14
  clear hb
  go_wp2_with (fail)
  refine (held_prs _ ys.length 1 _ (prs_own (by rw [pmk_len]; exact Og_15.out)) (by have := HL.out; omega) (by omega) (by omega)).mono ?_
  rintro e16 q16 ⟨rfl, hd⟩
  have hb := below_eq hd
  clear hd
  have B16 : Bx (Below w.heap.size w q16) := Bx.mk (B15.out.trans (hb.mono B15.out.size))
  have SZ16 : Bx (q15.heap.size ≤ q16.heap.size) := Bx.mk hb.size
  have Oa0_16 := Bx.mk (own_below Oa0_15.out hb)
  have Ow_16 := Bx.mk (own_below Ow_15.out hb)
  have Ob0_16 := Bx.mk (own_below Ob0_15.out hb)
  have Og_16 := Bx.mk (own_below Og_15.out hb)
  have Oc0_16 := Bx.mk (own_below Oc0_15.out hb)
  have Od0_16 := Bx.mk (own_below Od0_15.out hb)
  have Oh_16 := Bx.mk (own_below Oh_15.out hb)
  clear Oa0_15 Ow_15 Ob0_15 Og_15 Oc0_15 Od0_15 Oh_15
  clear hb
  go_wp2_with (fail)
  go_ret
  exact ⟨rfl, B16.out⟩

theorem own : ownKnob Tryd.prog.godebug = none := by kernel_rfl
theorem laidOut : laidOutB Tryd.prog = true := by kernel_rfl
theorem listed {W : World} (h : laidMetH Tryd.prog Rows.fnExactCutMelodyRow.laid W) : ∃ ps, DataW.LaidVars Tryd.prog W Rows.fnExactCutMelodyRow.laid ps := by
  rw [Go.MakeChecks.laidMetH_plain _ _ _ (by kernel_rfl)] at h
  obtain ⟨ps, h, _⟩ := h
  exact ⟨ps, h⟩
set_option maxRecDepth 100000 in
theorem contract (H : Type) (enc : TypeId × Value → H) (W : World) (base : Nat) (args : Array Value) (ds gs : List (DataW H)) (before : List MemPlace)
    (hval : ∀ (j : Nat) t v, Tryd.f7.params[j]? = some t → args[j]? = some v → Value.okWide Tryd.prog W .any base t v)
    (hW : DataW.Whole enc Tryd.prog Tryd.f7.params.toList Rows.fnExactCutMelodySpec.vars false W args.toList ds gs before) (hL : laidMetH Tryd.prog Rows.fnExactCutMelodyRow.laid W) (hsh : W.ShapedOpen Tryd.prog) :
    Calls Tryd.prog 7 args W fun e W' => ∃ v, e = .returned v ∧ Rows.fnExactCutMelodySpec.post enc Tryd.prog Tryd.f7 false true false false W args v W' := by
  have hW' := hW
  obtain ⟨p, q, hA0, hV, rfl, hfz, hnd⟩ := hW
  obtain ⟨ps, hl⟩ := listed hL
  have hA : DataW.TrodAll enc Tryd.prog W 0 (fun _ => true) true Tryd.f7.params.toList args.toList ds p := hA0
  rw [Tryd.params7] at hA hval
  obtain ⟨v0, vs0, d0, ds0, p0, q0, hargs, rfl, rfl, h0, r0⟩ := trodAll_cons hA
  obtain ⟨v1, vs1, d1, ds1, p1, q1, rfl, rfl, rfl, h1, r1⟩ := trodAll_cons r0
  obtain ⟨v2, vs2, d2, ds2, p2, q2, rfl, rfl, rfl, h2, r2⟩ := trodAll_cons r1
  obtain ⟨rfl, rfl, rfl⟩ := trodAll_nil r2
  obtain rfl : args = #[v0, v1, v2] := by cases args; simp_all
  obtain ⟨gv0, gr0, hgs0, hX0⟩ : ∃ d r, gs = d :: r ∧ True := by
    cases gs with
    | nil => simp [DataW.TrodVars, Rows.fnExactCutMelodySpec] at hV
    | cons d r => exact ⟨d, r, rfl, trivial⟩
  subst hgs0
  obtain ⟨gv1, gr1, hgs1, hX1⟩ : ∃ d r, gr0 = d :: r ∧ True := by
    obtain ⟨_, _, _, _, _, _, _, _, _, _, hv1, _⟩ := hV; cases gr0 with
    | nil => simp [DataW.TrodVars, Rows.fnExactCutMelodySpec] at hv1
    | cons d r => exact ⟨d, r, rfl, trivial⟩
  subst hgs1
  obtain rfl : gr1 = [] := by
    obtain ⟨_, _, _, _, _, _, _, _, _, _, hv1, _⟩ := hV; obtain ⟨_, _, _, _, _, _, _, _, _, _, hv2, _⟩ := hv1; cases gr1 with
    | nil => rfl
    | cons => simp [DataW.TrodVars] at hv2
  obtain ⟨l0, w0⟩ := arg_nts (hval 0 22 v0 rfl rfl) h0
  obtain ⟨a1, rfl, rfl, rfl, w1⟩ := open_int Tryd.underlying2 (hval 1 2 v1 rfl rfl) h1
  obtain ⟨a2, rfl, rfl, rfl, w2⟩ := open_int Tryd.underlying2 (hval 2 2 v2 rfl rfl) h2
  have hlm := hL
  rw [Go.MakeChecks.laidMetH_plain _ _ _ (by kernel_rfl)] at hlm
  refine (walk v0 l0 w0 a1 w1 a2 w2  hlm).mono fun e W' ⟨he, hb⟩ => ?_
  subst he
  exact ⟨_, rfl, post_lawv laidOut (by kernel_rfl) (by kernel_rfl) (by kernel_rfl) Tryd.underlying4 hW' rfl hb⟩

noncomputable def low : Nat := (World.holding Tryd.prog default ⟨#[], #[], []⟩).heap.size
/-- a world for the witness: each listed variable holds what is listed -/
noncomputable def laidWorld (os : Os) : World :=
  { World.holding Tryd.prog os ⟨#[], #[], []⟩ with heap := (((World.holding Tryd.prog os ⟨#[.cells #[.string ⟨#[116, 104, 101, 32, 112, 105, 116, 99, 104, 32, 111, 102, 32, 97, 32, 110, 111, 116, 101, 32, 105, 115, 32, 110, 111, 32, 112, 105, 116, 99, 104, 44, 32, 111, 114, 32, 105, 116, 115, 32, 108, 101, 110, 103, 116, 104, 32, 110, 111, 32, 108, 101, 110, 103, 116, 104]⟩] 168, .cells #[.string ⟨#[116, 104, 101, 114, 101, 32, 97, 114, 101, 32, 109, 111, 114, 101, 32, 110, 111, 116, 101, 115, 32, 116, 104, 97, 110, 32, 97, 32, 109, 101, 108, 111, 100, 121, 32, 104, 97, 115]⟩] 168], #[], []⟩).heap).modify 0 (layCells [.iface 166 (.pointer (some ⟨low + 0, 0, none⟩))])).modify 1 (layCells [.iface 166 (.pointer (some ⟨low + 1, 0, none⟩))]) }
theorem laid_met (os : Os) : laidMet Tryd.prog Rows.fnExactCutMelodyRow.laid ((laidWorld os).forCall (fun _ _ => 0) ⟨#[], #[Value.slice none 0 0, Value.int .i64 0, Value.int .i64 0], []⟩).memory :=
  laidMet_of_run' 8 (by kernel_rfl) (by kernel_rfl)
theorem reads (os : Os) {H : Type} (enc : TypeId × Value → H) : ∃ places, DataW.whole enc Tryd.prog ((laidWorld os).forCall (fun _ _ => 0) ⟨#[], #[Value.slice none 0 0, Value.int .i64 0, Value.int .i64 0], []⟩).memory Tryd.f7.params.toList Rows.fnExactCutMelodySpec.vars false #[Value.slice none 0 0, Value.int .i64 0, Value.int .i64 0].toList 8 = some ([.nil, .lit (.int .i64 0), .lit (.int .i64 0)], [tok enc (.iface 166 (.pointer (some ⟨low + 0, 0, none⟩))), tok enc (.iface 166 (.pointer (some ⟨low + 1, 0, none⟩)))], places) :=
  places_of (by kernel_rfl)

set_option maxRecDepth 100000 in
theorem lifted (os : Os) (started : os.Started) (H : Type) (enc : TypeId × Value → H) (F : Stop.Interp) :
    ReturnsInHanded {} Tryd.checked os 7 .any ((OpenSpec.ofChange Rows.fnExactCutMelodySpec).preRow enc Tryd.prog Tryd.f7 Rows.fnExactCutMelodyRow.domain false Rows.fnExactCutMelodyRow.laid) (((OpenSpec.ofChange Rows.fnExactCutMelodySpec).at F).post enc Tryd.prog Tryd.f7 false true false false) := by
  obtain ⟨places, hx⟩ := reads os enc
  refine returnsInHanded_of_row (C := Tryd.checked) (s := OpenSpec.ofChange Rows.fnExactCutMelodySpec) own started (by kernel_rfl) Tryd.func7
    (witness_row_at (enc := enc) (C := Tryd.checked) false (laidWorld os) #[Value.slice none 0 0, Value.int .i64 0, Value.int .i64 0] rfl (by kernel_rfl) (by kernel_rfl) (by kernel_rfl)
      (OpenSpec.preRow_of_cond 8 hx (by kernel_rfl) (fun k hk => by cases hk) (by kernel_rfl) (by rw [Go.MakeChecks.laidMetH_plain _ _ _ (by kernel_rfl)]; exact laid_met os))) ?_
  intro W base args ds gs before hval hW _ _ _ hL hsh _
  exact contract H enc W base args ds gs before hval hW hL hsh

theorem said : Rows.FnExactCutMelodySaid :=
  OpenClaim.holds_of_cond 7 Tryd.f7 rfl rfl rfl rfl rfl rfl rfl ⟨rfl, rfl, rfl, rfl, rfl⟩ rfl rfl rfl rfl rfl (by kernel_rfl) Tryd.func7 (by kernel_rfl)
    (of_decide_eq_true (by kernel_rfl)) (by unfold Func.isWrapper; first | (rw [if_pos (by decide +kernel)]; kernel_rfl) | (rw [if_neg (by decide +kernel)]; exact ⟨rfl, rfl⟩))
    (fun os started H enc _ F => by rw [OpenClaim.pre_eq_preRow]; exact lifted os started H enc F)

theorem plain (f : FuncId) (fn : Func) (hf : Tryd.pinned.checked.prog.funcNamed "loop.example/g01033/laws.FnExactCutMelody" = some f) (hfn : Tryd.pinned.checked.prog.funcs[f]? = some fn) :
    true = Tryd.pinned.checked.prog.looks [] ∧ ∀ (j : Nat) t, fn.params[j]? = some t → Tryd.pinned.checked.prog.wantsStandIn t = false := by
  obtain rfl : f = 7 := Option.some.inj ((show Tryd.prog.funcNamed "loop.example/g01033/laws.FnExactCutMelody" = some 7 by kernel_rfl).symm.trans hf) |>.symm
  obtain rfl : fn = Tryd.f7 := (Option.some.inj (Tryd.func7.symm.trans hfn)).symm
  refine ⟨by kernel_rfl, fun j t ht => ?_⟩
  rw [Tryd.params7] at ht
  have hm := Array.mem_of_getElem? ht
  have hall : ∀ t ∈ #[22, 2, 2], Tryd.prog.wantsStandIn t = false := by
    intro t ht
    simp at ht
    rcases ht with rfl | rfl <;> kernel_rfl
  exact hall t hm

theorem card : Rows.FnExactCutMelodyCardSaid :=
  Claim7.holds_tied_plain_at .later [] _ _ _ _ said (fun _ h => by cases h) (by kernel_rfl) (fun _ h => by cases h) fnExactCutMelody_row_tie rfl ⟨rfl, rfl⟩ (by kernel_rfl) rfl plain (by kernel_rfl)
theorem proved : Rows.FnExactCutMelodyCardSaid := card
#print axioms proved
end Go.Proofs.YtendfnimhmnioaaDoor.fnExactCutMelody
