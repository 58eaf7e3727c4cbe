/- 'laws.FnExactJoinMelodies' returns true at every input: JoinMelodies on both sides is one function. -/
import Derived.Test.YtendfnimhmnioaaDoorNj3
import Derived.Test.YtendfnimhmnioaaDoorTabs
namespace Go.Proofs.YtendfnimhmnioaaDoor.fnExactJoinMelodies
open Go.ChangeShapes Go.WideShapes Go.ChangeAt Go.RowKit
set_option linter.unusedVariables false
set_option linter.unusedSimpArgs false
set_option maxRecDepth 100000

set_option maxHeartbeats 4000000 in
theorem walk (v0 : Value) (l0 : List (Int × Int)) {w : World} (w0 : PrsAt w v0 l0 ∧ l0.length ≤ 9223372036854775807 ∧ WfN l0) (v1 : Value) (l1 : List (Int × Int)) (w1 : PrsAt w v1 l1 ∧ l1.length ≤ 9223372036854775807 ∧ WfN l1) (hl : laidMet Tryd.prog Rows.fnExactJoinMelodiesRow.laid w) :
    Calls Tryd.prog 6 #[v0, v1] w fun e w' => e = .returned (.bool true) ∧ Below w.heap.size w w' := by
  obtain ⟨ea, eb, he0⟩ := er_laid hl
  have HER := Bx.mk he0
  clear he0
  clear hl
  obtain ⟨hi0, hmax0, hwf0⟩ := w0
  obtain ⟨A0, c0, rfl⟩ := prs_len hi0
  have HW0 := Bx.mk hwf0
  clear hwf0
  have HI0 := Bx.mk hi0
  clear hi0
  obtain ⟨hi1, hmax1, hwf1⟩ := w1
  obtain ⟨A1, c1, rfl⟩ := prs_len hi1
  have HW1 := Bx.mk hwf1
  clear hwf1
  have HI1 := Bx.mk hi1
  clear hi1
  have B0 : Bx (Below w.heap.size w w) := Bx.mk (Below.refl _ _)
  go_enter Tryd.func6, Tryd.ntmps6
  go_wp2_with (fail)
  refine (sz_prs _ l0 1048576 _ (HI0.out.below B0.out) (by decide) hmax0).mono ?_
  rintro e1 q1 ⟨rfl, hd⟩
  have hb := below_eq hd
  clear hd
  by_cases hs0 : 1048576 < (l0.length : Int)
  · rw [show szN l0.length 1048576 = -1 from if_pos hs0]
    have BZ := Bx.mk (B0.out.trans (hb.mono B0.out.size))
    clear hb B0
    go_wp2_with (fail)
    go_ret
    exact ⟨rfl, BZ.out⟩
  rw [show szN l0.length 1048576 = 1048576 - l0.length from if_neg hs0]
  have hn0 : l0.length ≤ 1048576 := by omega
  obtain ⟨z0, ez0, hz0⟩ : ∃ z : Int, z = 1048576 - (l0.length : Int) ∧ (0 ≤ z ∧ z ≤ 1048576) := ⟨_, rfl, by omega⟩
  rw [← ez0]
  have hd0 : decide (z0 < 0) = false := decide_eq_false (by omega)
  clear ez0 hs0
  have B1 : Bx (Below w.heap.size w q1) := Bx.mk (B0.out.trans (hb.mono B0.out.size))
  have SZ1 : Bx (w.heap.size ≤ q1.heap.size) := Bx.mk hb.size
  clear hb
  go_wp2_with (fail)
  refine (sz_prs _ l1 z0 _ (HI1.out.below B1.out) (by omega) hmax1).mono ?_
  rintro e2 q2 ⟨rfl, hd⟩
  have hb := below_eq hd
  clear hd
  by_cases hs1 : z0 < (l1.length : Int)
  · rw [show szN l1.length z0 = -1 from if_pos hs1]
    have BZ := Bx.mk (B1.out.trans (hb.mono B1.out.size))
    clear hb B1
    go_wp2_with (fail)
    go_ret
    exact ⟨rfl, BZ.out⟩
  rw [show szN l1.length z0 = z0 - l1.length from if_neg hs1]
  have hn1 : l1.length ≤ 1048576 := by omega
  obtain ⟨z1, ez1, hz1⟩ : ∃ z : Int, z = z0 - (l1.length : Int) ∧ (0 ≤ z ∧ z ≤ 1048576) := ⟨_, rfl, by omega⟩
  rw [← ez1]
  have hd1 : decide (z1 < 0) = false := decide_eq_false (by omega)
  clear ez1 hs1
  have B2 : Bx (Below w.heap.size w q2) := Bx.mk (B1.out.trans (hb.mono B1.out.size))
  have SZ2 : Bx (q1.heap.size ≤ q2.heap.size) := Bx.mk hb.size
  clear hb
  go_wp2_with (fail)
  have hs : ∀ u0 u1 W, PrsC W u0 l0 → PrsC W u1 l1 → Calls Tryd.prog 22 #[u0, u1] W (NtOut (joE l0 l1).1 (.int .i64 (joE l0 l1).2) W) := fun u0 u1 W h0 h1 => spec_join u0 u1 l0 l1 W h0 h1 hn0 hn1
  have hi : ∀ u0 u1 W, PrsC W u0 l0 → PrsC W u1 l1 → Er W ea eb → Calls Tryd.prog 23 #[u0, u1] W (NtOut (joE l0 l1).1 (.int .i64 (joE l0 l1).2) W) := fun u0 u1 W h0 h1 hx => impl_join u0 u1 l0 l1 ea eb W h0 h1 hx hn0 hn1
  have HL : Bx ((joE l0 l1).1.length ≤ 64) := Bx.mk (by have := joE_len l0 l1; omega)
  generalize (joE l0 l1).1 = ys at hs hi HL
  generalize (joE l0 l1).2 = cc at hs hi
  refine (copy_prs _ l0 q2 (HI0.out.below B2.out) (by omega)).mono ?_
  rintro e3 q3 ⟨va0, rfl, ho, hb⟩
  have B3 : Bx (Below w.heap.size w q3) := Bx.mk (B2.out.trans (hb.mono B2.out.size))
  have SZ3 : Bx (q2.heap.size ≤ q3.heap.size) := Bx.mk hb.size
  have Oa0_3 := Bx.mk ho
  have Ua0 := Bx.mk (own_hi ho)
  clear ho
  clear hb
  go_wp2_with (fail)
  refine (copy_prs _ l1 q3 (HI1.out.below B3.out) (by omega)).mono ?_
  rintro e4 q4 ⟨va1, rfl, ho, hb⟩
  have B4 : Bx (Below w.heap.size w q4) := Bx.mk (B3.out.trans (hb.mono B3.out.size))
  have SZ4 : Bx (q3.heap.size ≤ q4.heap.size) := Bx.mk hb.size
  have Oa0_4 := Bx.mk (own_below Oa0_3.out hb)
  clear Oa0_3
  have Oa1_4 := Bx.mk ho
  have Ua1 := Bx.mk (own_hi ho)
  clear ho
  clear hb
  go_wp2_with (fail)
  refine (hs _ _ _ (prsc_own Oa0_4.out) (prsc_own Oa1_4.out)).mono ?_
  rintro e5 q5 ⟨vw, rfl, ho, hb⟩
  have B5 : Bx (Below w.heap.size w q5) := Bx.mk (B4.out.trans (hb.mono B4.out.size))
  have SZ5 : Bx (q4.heap.size ≤ q5.heap.size) := Bx.mk hb.size
  have Oa0_5 := Bx.mk (own_below Oa0_4.out hb)
  have Oa1_5 := Bx.mk (own_below Oa1_4.out hb)
  clear Oa0_4 Oa1_4
  have Ow_5 := Bx.mk ho
  have Uw := Bx.mk (own_hi ho)
  clear ho
  clear hb
  go_wp2_with (fail)
  refine (copy_prs _ l0 q5 (HI0.out.below B5.out) (by omega)).mono ?_
  rintro e6 q6 ⟨vb0, rfl, ho, hb⟩
  have B6 : Bx (Below w.heap.size w q6) := Bx.mk (B5.out.trans (hb.mono B5.out.size))
  have SZ6 : Bx (q5.heap.size ≤ q6.heap.size) := Bx.mk hb.size
  have Oa0_6 := Bx.mk (own_below Oa0_5.out hb)
  have Oa1_6 := Bx.mk (own_below Oa1_5.out hb)
  have Ow_6 := Bx.mk (own_below Ow_5.out hb)
  clear Oa0_5 Oa1_5 Ow_5
  have Ob0_6 := Bx.mk ho
  have Ub0 := Bx.mk (own_hi ho)
  clear ho
  clear hb
  go_wp2_with (fail)
  refine (copy_prs _ l1 q6 (HI1.out.below B6.out) (by omega)).mono ?_
  rintro e7 q7 ⟨vb1, rfl, ho, hb⟩
  have B7 : Bx (Below w.heap.size w q7) := Bx.mk (B6.out.trans (hb.mono B6.out.size))
  have SZ7 : Bx (q6.heap.size ≤ q7.heap.size) := Bx.mk hb.size
  have Oa0_7 := Bx.mk (own_below Oa0_6.out hb)
  have Oa1_7 := Bx.mk (own_below Oa1_6.out hb)
  have Ow_7 := Bx.mk (own_below Ow_6.out hb)
  have Ob0_7 := Bx.mk (own_below Ob0_6.out hb)
  clear Oa0_6 Oa1_6 Ow_6 Ob0_6
  have Ob1_7 := Bx.mk ho
  have Ub1 := Bx.mk (own_hi ho)
  clear ho
  clear hb
  go_wp2_with (fail)
  refine (hi _ _ _ (prsc_own Ob0_7.out) (prsc_own Ob1_7.out) (HER.out.below B7.out)).mono ?_
  rintro e8 q8 ⟨vg, rfl, ho, hb⟩
  have B8 : Bx (Below w.heap.size w q8) := Bx.mk (B7.out.trans (hb.mono B7.out.size))
  have SZ8 : Bx (q7.heap.size ≤ q8.heap.size) := Bx.mk hb.size
  have Oa0_8 := Bx.mk (own_below Oa0_7.out hb)
  have Oa1_8 := Bx.mk (own_below Oa1_7.out hb)
  have Ow_8 := Bx.mk (own_below Ow_7.out hb)
  have Ob0_8 := Bx.mk (own_below Ob0_7.out hb)
  have Ob1_8 := Bx.mk (own_below Ob1_7.out hb)
  clear Oa0_7 Oa1_7 Ow_7 Ob0_7 Ob1_7
  have Og_8 := Bx.mk ho
  have Ug := Bx.mk (own_hi ho)
  clear ho
  clear hb
  go_wp2_with (fail)
  refine (eq_prs_same _ _ ys _ (prs_own Og_8.out) (prs_own Ow_8.out) (by have := HL.out; omega)).mono ?_
  rintro e9 q9 ⟨rfl, hb⟩
  have B9 : Bx (Below w.heap.size w q9) := Bx.mk (B8.out.trans (hb.mono B8.out.size))
  have SZ9 : Bx (q8.heap.size ≤ q9.heap.size) := Bx.mk hb.size
  have Oa0_9 := Bx.mk (own_below Oa0_8.out hb)
  have Oa1_9 := Bx.mk (own_below Oa1_8.out hb)
  have Ow_9 := Bx.mk (own_below Ow_8.out hb)
  have Ob0_9 := Bx.mk (own_below Ob0_8.out hb)
  have Ob1_9 := Bx.mk (own_below Ob1_8.out hb)
  have Og_9 := Bx.mk (own_below Og_8.out hb)
  clear Oa0_8 Oa1_8 Ow_8 Ob0_8 Ob1_8 Og_8
  clear hb
  go_wp2_with (fail)
  refine (copy_prs _ l0 q9 (HI0.out.below B9.out) (by omega)).mono ?_
  rintro e10 q10 ⟨vc0, rfl, ho, hb⟩
  have B10 : Bx (Below w.heap.size w q10) := Bx.mk (B9.out.trans (hb.mono B9.out.size))
  have SZ10 : Bx (q9.heap.size ≤ q10.heap.size) := Bx.mk hb.size
  have Oa0_10 := Bx.mk (own_below Oa0_9.out hb)
  have Oa1_10 := Bx.mk (own_below Oa1_9.out hb)
  have Ow_10 := Bx.mk (own_below Ow_9.out hb)
  have Ob0_10 := Bx.mk (own_below Ob0_9.out hb)
  have Ob1_10 := Bx.mk (own_below Ob1_9.out hb)
  have Og_10 := Bx.mk (own_below Og_9.out hb)
  clear Oa0_9 Oa1_9 Ow_9 Ob0_9 Ob1_9 Og_9
  have Oc0_10 := Bx.mk ho
  have Uc0 := Bx.mk (own_hi ho)
  clear ho
  clear hb
  go_wp2_with (fail)
  refine (eq_prs_same _ _ l0 _ (prs_own Ob0_10.out) (prs_own Oc0_10.out) (by omega)).mono ?_
  rintro e11 q11 ⟨rfl, hb⟩
  have B11 : Bx (Below w.heap.size w q11) := Bx.mk (B10.out.trans (hb.mono B10.out.size))
  have SZ11 : Bx (q10.heap.size ≤ q11.heap.size) := Bx.mk hb.size
  have Oa0_11 := Bx.mk (own_below Oa0_10.out hb)
  have Oa1_11 := Bx.mk (own_below Oa1_10.out hb)
  have Ow_11 := Bx.mk (own_below Ow_10.out hb)
  have Ob0_11 := Bx.mk (own_below Ob0_10.out hb)
  have Ob1_11 := Bx.mk (own_below Ob1_10.out hb)
  have Og_11 := Bx.mk (own_below Og_10.out hb)
  have Oc0_11 := Bx.mk (own_below Oc0_10.out hb)
  clear Oa0_10 Oa1_10 Ow_10 Ob0_10 Ob1_10 Og_10 Oc0_10
  clear hb
  go_wp2_with (fail)
  refine (copy_prs _ l1 q11 (HI1.out.below B11.out) (by omega)).mono ?_
  rintro e12 q12 ⟨vc1, rfl, ho, hb⟩
  have B12 : Bx (Below w.heap.size w q12) := Bx.mk (B11.out.trans (hb.mono B11.out.size))
  have SZ12 : Bx (q11.heap.size ≤ q12.heap.size) := Bx.mk hb.size
  have Oa0_12 := Bx.mk (own_below Oa0_11.out hb)
  have Oa1_12 := Bx.mk (own_below Oa1_11.out hb)
  have Ow_12 := Bx.mk (own_below Ow_11.out hb)
  have Ob0_12 := Bx.mk (own_below Ob0_11.out hb)
  have Ob1_12 := Bx.mk (own_below Ob1_11.out hb)
  have Og_12 := Bx.mk (own_below Og_11.out hb)
  have Oc0_12 := Bx.mk (own_below Oc0_11.out hb)
  clear Oa0_11 Oa1_11 Ow_11 Ob0_11 Ob1_11 Og_11 Oc0_11
  have Oc1_12 := Bx.mk ho
  have Uc1 := Bx.mk (own_hi ho)
  clear ho
  clear hb
  go_wp2_with (fail)
  refine (eq_prs_same _ _ l1 _ (prs_own Ob1_12.out) (prs_own Oc1_12.out) (by omega)).mono ?_
  rintro e13 q13 ⟨rfl, hb⟩
  have B13 : Bx (Below w.heap.size w q13) := Bx.mk (B12.out.trans (hb.mono B12.out.size))
  have SZ13 : Bx (q12.heap.size ≤ q13.heap.size) := Bx.mk hb.size
  have Oa0_13 := Bx.mk (own_below Oa0_12.out hb)
  have Oa1_13 := Bx.mk (own_below Oa1_12.out hb)
  have Ow_13 := Bx.mk (own_below Ow_12.out hb)
  have Ob0_13 := Bx.mk (own_below Ob0_12.out hb)
  have Ob1_13 := Bx.mk (own_below Ob1_12.out hb)
  have Og_13 := Bx.mk (own_below Og_12.out hb)
  have Oc0_13 := Bx.mk (own_below Oc0_12.out hb)
  have Oc1_13 := Bx.mk (own_below Oc1_12.out hb)
  clear Oa0_12 Oa1_12 Ow_12 Ob0_12 Ob1_12 Og_12 Oc0_12 Oc1_12
  clear hb
  go_wp2_with (fail)
  refine (mark_prsE _ l0 q5.heap.size 1 _ Ob0_13.out (by omega) (by omega) (by omega)).mono ?_
  rintro e14 q14 ⟨rfl, hm, hg⟩
  have B14 : Bx (Below w.heap.size w q14) := Bx.mk (below_mark B13.out Ob0_13.out (B5.out.size) hg)
  have SZ14 : Bx (q13.heap.size ≤ q14.heap.size) := Bx.mk (grown_size hg)
  have Oa0_14 := Bx.mk (own_young Oa0_13.out Ua0.out Ob0_13.out (by have := SZ1.out; have := SZ2.out; have := SZ3.out; have := SZ4.out; have := SZ5.out; have := SZ6.out; have := SZ7.out; have := SZ8.out; have := SZ9.out; have := SZ10.out; have := SZ11.out; have := SZ12.out; have := SZ13.out; have := SZ14.out; omega) hg)
  have Oa1_14 := Bx.mk (own_young Oa1_13.out Ua1.out Ob0_13.out (by have := SZ1.out; have := SZ2.out; have := SZ3.out; have := SZ4.out; have := SZ5.out; have := SZ6.out; have := SZ7.out; have := SZ8.out; have := SZ9.out; have := SZ10.out; have := SZ11.out; have := SZ12.out; have := SZ13.out; have := SZ14.out; omega) hg)
  have Ow_14 := Bx.mk (own_young Ow_13.out Uw.out Ob0_13.out (by have := SZ1.out; have := SZ2.out; have := SZ3.out; have := SZ4.out; have := SZ5.out; have := SZ6.out; have := SZ7.out; have := SZ8.out; have := SZ9.out; have := SZ10.out; have := SZ11.out; have := SZ12.out; have := SZ13.out; have := SZ14.out; omega) hg)
  have Ob1_14 := Bx.mk (own_old Ob1_13.out Ub0.out (by have := SZ1.out; have := SZ2.out; have := SZ3.out; have := SZ4.out; have := SZ5.out; have := SZ6.out; have := SZ7.out; have := SZ8.out; have := SZ9.out; have := SZ10.out; have := SZ11.out; have := SZ12.out; have := SZ13.out; have := SZ14.out; omega) hg)
  have Og_14 := Bx.mk (own_old Og_13.out Ub0.out (by have := SZ1.out; have := SZ2.out; have := SZ3.out; have := SZ4.out; have := SZ5.out; have := SZ6.out; have := SZ7.out; have := SZ8.out; have := SZ9.out; have := SZ10.out; have := SZ11.out; have := SZ12.out; have := SZ13.out; have := SZ14.out; omega) hg)
  have Oc0_14 := Bx.mk (own_old Oc0_13.out Ub0.out (by have := SZ1.out; have := SZ2.out; have := SZ3.out; have := SZ4.out; have := SZ5.out; have := SZ6.out; have := SZ7.out; have := SZ8.out; have := SZ9.out; have := SZ10.out; have := SZ11.out; have := SZ12.out; have := SZ13.out; have := SZ14.out; omega) hg)
  have Oc1_14 := Bx.mk (own_old Oc1_13.out Ub0.out (by have := SZ1.out; have := SZ2.out; have := SZ3.out; have := SZ4.out; have := SZ5.out; have := SZ6.out; have := SZ7.out; have := SZ8.out; have := SZ9.out; have := SZ10.out; have := SZ11.out; have := SZ12.out; have := SZ13.out; have := SZ14.out; omega) hg)
  clear Oa0_13 Oa1_13 Ow_13 Ob0_13 Ob1_13 Og_13 Oc0_13 Oc1_13
  have Ob0_14 := Bx.mk hm
  clear hm hg
  go_wp2_with (fail)
  refine (mark_prsE _ l1 q6.heap.size (1 + 2 * (l0.length : Int)) _ Ob1_14.out (by omega) (by omega) (by omega)).mono ?_
  rintro e15 q15 ⟨rfl, hm, hg⟩
  have B15 : Bx (Below w.heap.size w q15) := Bx.mk (below_mark B14.out Ob1_14.out (B6.out.size) hg)
  have SZ15 : Bx (q14.heap.size ≤ q15.heap.size) := Bx.mk (grown_size hg)
  have Oa0_15 := Bx.mk (own_young Oa0_14.out Ua0.out Ob1_14.out (by have := SZ1.out; have := SZ2.out; have := SZ3.out; have := SZ4.out; have := SZ5.out; have := SZ6.out; have := SZ7.out; have := SZ8.out; have := SZ9.out; have := SZ10.out; have := SZ11.out; have := SZ12.out; have := SZ13.out; have := SZ14.out; have := SZ15.out; omega) hg)
  have Oa1_15 := Bx.mk (own_young Oa1_14.out Ua1.out Ob1_14.out (by have := SZ1.out; have := SZ2.out; have := SZ3.out; have := SZ4.out; have := SZ5.out; have := SZ6.out; have := SZ7.out; have := SZ8.out; have := SZ9.out; have := SZ10.out; have := SZ11.out; have := SZ12.out; have := SZ13.out; have := SZ14.out; have := SZ15.out; omega) hg)
  have Ow_15 := Bx.mk (own_young Ow_14.out Uw.out Ob1_14.out (by have := SZ1.out; have := SZ2.out; have := SZ3.out; have := SZ4.out; have := SZ5.out; have := SZ6.out; have := SZ7.out; have := SZ8.out; have := SZ9.out; have := SZ10.out; have := SZ11.out; have := SZ12.out; have := SZ13.out; have := SZ14.out; have := SZ15.out; omega) hg)
  have Ob0_15 := Bx.mk (own_young Ob0_14.out Ub0.out Ob1_14.out (by have := SZ1.out; have := SZ2.out; have := SZ3.out; have := SZ4.out; have := SZ5.out; have := SZ6.out; have := SZ7.out; have := SZ8.out; have := SZ9.out; have := SZ10.out; have := SZ11.out; have := SZ12.out; have := SZ13.out; have := SZ14.out; have := SZ15.out; omega) hg)
  have Og_15 := Bx.mk (own_old Og_14.out Ub1.out (by have := SZ1.out; have := SZ2.out; have := SZ3.out; have := SZ4.out; have := SZ5.out; have := SZ6.out; have := SZ7.out; have := SZ8.out; have := SZ9.out; have := SZ10.out; have := SZ11.out; have := SZ12.out; have := SZ13.out; have := SZ14.out; have := SZ15.out; omega) hg)
  have Oc0_15 := Bx.mk (own_old Oc0_14.out Ub1.out (by have := SZ1.out; have := SZ2.out; have := SZ3.out; have := SZ4.out; have := SZ5.out; have := SZ6.out; have := SZ7.out; have := SZ8.out; have := SZ9.out; have := SZ10.out; have := SZ11.out; have := SZ12.out; have := SZ13.out; have := SZ14.out; have := SZ15.out; omega) hg)
  have Oc1_15 := Bx.mk (own_old Oc1_14.out Ub1.out (by have := SZ1.out; have := SZ2.out; have := SZ3.out; have := SZ4.out; have := SZ5.out; have := SZ6.out; have := SZ7.out; have := SZ8.out; have := SZ9.out; have := SZ10.out; have := SZ11.out; have := SZ12.out; have := SZ13.out; have := SZ14.out; have := SZ15.out; omega) hg)
  clear Oa0_14 Oa1_14 Ow_14 Ob0_14 Ob1_14 Og_14 Oc0_14 Oc1_14
  have Ob1_15 := Bx.mk hm
  clear hm hg
  have hdk : decide ((1 + 2 * (l0.length : Int)) + 2 * (l1.length : Int) < 0) = false := decide_eq_false (by omega)
  go_wp2_with (fail)
  refine (eq_prs_same _ _ ys _ (prs_own Og_15.out) (prs_own Ow_15.out) (by have := HL.out; omega)).mono ?_
  rintro e16 q16 ⟨rfl, hb⟩
  have B16 : Bx (Below w.heap.size w q16) := Bx.mk (B15.out.trans (hb.mono B15.out.size))
  have SZ16 : Bx (q15.heap.size ≤ q16.heap.size) := Bx.mk hb.size
  have Oa0_16 := Bx.mk (own_below Oa0_15.out hb)
  have Oa1_16 := Bx.mk (own_below Oa1_15.out hb)
  have Ow_16 := Bx.mk (own_below Ow_15.out hb)
  have Ob0_16 := Bx.mk (own_below Ob0_15.out hb)
  have Ob1_16 := Bx.mk (own_below Ob1_15.out hb)
  have Og_16 := Bx.mk (own_below Og_15.out hb)
  have Oc0_16 := Bx.mk (own_below Oc0_15.out hb)
  have Oc1_16 := Bx.mk (own_below Oc1_15.out hb)
  clear Oa0_15 Oa1_15 Ow_15 Ob0_15 Ob1_15 Og_15 Oc0_15 Oc1_15
  clear hb
  go_wp2_with (fail)
  refine (mark_prsE _ ys q7.heap.size 1 _ Og_16.out (by have := HL.out; omega) (by omega) (by omega)).mono ?_
  rintro e17 q17 ⟨rfl, hm, hg⟩
  have B17 : Bx (Below w.heap.size w q17) := Bx.mk (below_mark B16.out Og_16.out (B7.out.size) hg)
  have SZ17 : Bx (q16.heap.size ≤ q17.heap.size) := Bx.mk (grown_size hg)
  have Oa0_17 := Bx.mk (own_young Oa0_16.out Ua0.out Og_16.out (by have := SZ1.out; have := SZ2.out; have := SZ3.out; have := SZ4.out; have := SZ5.out; have := SZ6.out; have := SZ7.out; have := SZ8.out; have := SZ9.out; have := SZ10.out; have := SZ11.out; have := SZ12.out; have := SZ13.out; have := SZ14.out; have := SZ15.out; have := SZ16.out; have := SZ17.out; omega) hg)
  have Oa1_17 := Bx.mk (own_young Oa1_16.out Ua1.out Og_16.out (by have := SZ1.out; have := SZ2.out; have := SZ3.out; have := SZ4.out; have := SZ5.out; have := SZ6.out; have := SZ7.out; have := SZ8.out; have := SZ9.out; have := SZ10.out; have := SZ11.out; have := SZ12.out; have := SZ13.out; have := SZ14.out; have := SZ15.out; have := SZ16.out; have := SZ17.out; omega) hg)
  have Ow_17 := Bx.mk (own_young Ow_16.out Uw.out Og_16.out (by have := SZ1.out; have := SZ2.out; have := SZ3.out; have := SZ4.out; have := SZ5.out; have := SZ6.out; have := SZ7.out; have := SZ8.out; have := SZ9.out; have := SZ10.out; have := SZ11.out; have := SZ12.out; have := SZ13.out; have := SZ14.out; have := SZ15.out; have := SZ16.out; have := SZ17.out; omega) hg)
  have Ob0_17 := Bx.mk (own_young Ob0_16.out Ub0.out Og_16.out (by have := SZ1.out; have := SZ2.out; have := SZ3.out; have := SZ4.out; have := SZ5.out; have := SZ6.out; have := SZ7.out; have := SZ8.out; have := SZ9.out; have := SZ10.out; have := SZ11.out; have := SZ12.out; have := SZ13.out; have := SZ14.out; have := SZ15.out; have := SZ16.out; have := SZ17.out; omega) hg)
  have Ob1_17 := Bx.mk (own_young Ob1_16.out Ub1.out Og_16.out (by have := SZ1.out; have := SZ2.out; have := SZ3.out; have := SZ4.out; have := SZ5.out; have := SZ6.out; have := SZ7.out; have := SZ8.out; have := SZ9.out; have := SZ10.out; have := SZ11.out; have := SZ12.out; have := SZ13.out; have := SZ14.out; have := SZ15.out; have := SZ16.out; have := SZ17.out; omega) hg)
  have Oc0_17 := Bx.mk (own_old Oc0_16.out Ug.out (by have := SZ1.out; have := SZ2.out; have := SZ3.out; have := SZ4.out; have := SZ5.out; have := SZ6.out; have := SZ7.out; have := SZ8.out; have := SZ9.out; have := SZ10.out; have := SZ11.out; have := SZ12.out; have := SZ13.out; have := SZ14.out; have := SZ15.out; have := SZ16.out; have := SZ17.out; omega) hg)
  have Oc1_17 := Bx.mk (own_old Oc1_16.out Ug.out (by have := SZ1.out; have := SZ2.out; have := SZ3.out; have := SZ4.out; have := SZ5.out; have := SZ6.out; have := SZ7.out; have := SZ8.out; have := SZ9.out; have := SZ10.out; have := SZ11.out; have := SZ12.out; have := SZ13.out; have := SZ14.out; have := SZ15.out; have := SZ16.out; have := SZ17.out; omega) hg)
  clear Oa0_16 Oa1_16 Ow_16 Ob0_16 Ob1_16 Og_16 Oc0_16 Oc1_16
  have Og_17 := Bx.mk hm
  clear hm hg
  go_wp2_with (fail)
  refine (held_prs _ ys.length 1 _ (prs_own (by rw [pmk_len]; exact Og_17.out)) (by have := HL.out; omega) (by omega) (by omega)).mono ?_
  rintro e18 q18 ⟨rfl, hd⟩
  have hb := below_eq hd
  clear hd
  have B18 : Bx (Below w.heap.size w q18) := Bx.mk (B17.out.trans (hb.mono B17.out.size))
  have SZ18 : Bx (q17.heap.size ≤ q18.heap.size) := Bx.mk hb.size
  have Oa0_18 := Bx.mk (own_below Oa0_17.out hb)
  have Oa1_18 := Bx.mk (own_below Oa1_17.out hb)
  have Ow_18 := Bx.mk (own_below Ow_17.out hb)
  have Ob0_18 := Bx.mk (own_below Ob0_17.out hb)
  have Ob1_18 := Bx.mk (own_below Ob1_17.out hb)
  have Og_18 := Bx.mk (own_below Og_17.out hb)
  have Oc0_18 := Bx.mk (own_below Oc0_17.out hb)
  have Oc1_18 := Bx.mk (own_below Oc1_17.out hb)
  clear Oa0_17 Oa1_17 Ow_17 Ob0_17 Ob1_17 Og_17 Oc0_17 Oc1_17
  clear hb
  go_wp2_with (fail)
  refine (copy_prs _ l0 q18 (HI0.out.below B18.out) (by omega)).mono ?_
  rintro e19 q19 ⟨vd0, rfl, ho, hb⟩
  have B19 : Bx (Below w.heap.size w q19) := Bx.mk (B18.out.trans (hb.mono B18.out.size))
  have SZ19 : Bx (q18.heap.size ≤ q19.heap.size) := Bx.mk hb.size
  have Oa0_19 := Bx.mk (own_below Oa0_18.out hb)
  have Oa1_19 := Bx.mk (own_below Oa1_18.out hb)
  have Ow_19 := Bx.mk (own_below Ow_18.out hb)
  have Ob0_19 := Bx.mk (own_below Ob0_18.out hb)
  have Ob1_19 := Bx.mk (own_below Ob1_18.out hb)
  have Og_19 := Bx.mk (own_below Og_18.out hb)
  have Oc0_19 := Bx.mk (own_below Oc0_18.out hb)
  have Oc1_19 := Bx.mk (own_below Oc1_18.out hb)
  clear Oa0_18 Oa1_18 Ow_18 Ob0_18 Ob1_18 Og_18 Oc0_18 Oc1_18
  have Od0_19 := Bx.mk ho
  have Ud0 := Bx.mk (own_hi ho)
  clear ho
  clear hb
  go_wp2_with (fail)
  refine (copy_prs _ l1 q19 (HI1.out.below B19.out) (by omega)).mono ?_
  rintro e20 q20 ⟨vd1, rfl, ho, hb⟩
  have B20 : Bx (Below w.heap.size w q20) := Bx.mk (B19.out.trans (hb.mono B19.out.size))
  have SZ20 : Bx (q19.heap.size ≤ q20.heap.size) := Bx.mk hb.size
  have Oa0_20 := Bx.mk (own_below Oa0_19.out hb)
  have Oa1_20 := Bx.mk (own_below Oa1_19.out hb)
  have Ow_20 := Bx.mk (own_below Ow_19.out hb)
  have Ob0_20 := Bx.mk (own_below Ob0_19.out hb)
  have Ob1_20 := Bx.mk (own_below Ob1_19.out hb)
  have Og_20 := Bx.mk (own_below Og_19.out hb)
  have Oc0_20 := Bx.mk (own_below Oc0_19.out hb)
  have Oc1_20 := Bx.mk (own_below Oc1_19.out hb)
  have Od0_20 := Bx.mk (own_below Od0_19.out hb)
  clear Oa0_19 Oa1_19 Ow_19 Ob0_19 Ob1_19 Og_19 Oc0_19 Oc1_19 Od0_19
  have Od1_20 := Bx.mk ho
  have Ud1 := Bx.mk (own_hi ho)
  clear ho
  clear hb
  go_wp2_with (fail)
  refine (hi _ _ _ (prsc_own Od0_20.out) (prsc_own Od1_20.out) (HER.out.below B20.out)).mono ?_
  rintro e21 q21 ⟨vh, rfl, ho, hb⟩
  have B21 : Bx (Below w.heap.size w q21) := Bx.mk (B20.out.trans (hb.mono B20.out.size))
  have SZ21 : Bx (q20.heap.size ≤ q21.heap.size) := Bx.mk hb.size
  have Oa0_21 := Bx.mk (own_below Oa0_20.out hb)
  have Oa1_21 := Bx.mk (own_below Oa1_20.out hb)
  have Ow_21 := Bx.mk (own_below Ow_20.out hb)
  have Ob0_21 := Bx.mk (own_below Ob0_20.out hb)
  have Ob1_21 := Bx.mk (own_below Ob1_20.out hb)
  have Og_21 := Bx.mk (own_below Og_20.out hb)
  have Oc0_21 := Bx.mk (own_below Oc0_20.out hb)
  have Oc1_21 := Bx.mk (own_below Oc1_20.out hb)
  have Od0_21 := Bx.mk (own_below Od0_20.out hb)
  have Od1_21 := Bx.mk (own_below Od1_20.out hb)
  clear Oa0_20 Oa1_20 Ow_20 Ob0_20 Ob1_20 Og_20 Oc0_20 Oc1_20 Od0_20 Od1_20
  have Oh_21 := Bx.mk ho
  have Uh := Bx.mk (own_hi ho)
  clear ho
  clear hb
  go_wp2_with (fail)
  refine (eq_prs_same _ _ ys _ (prs_own Oh_21.out) (prs_own Ow_21.out) (by have := HL.out; omega)).mono ?_
  rintro e22 q22 ⟨rfl, hb⟩
  have B22 : Bx (Below w.heap.size w q22) := Bx.mk (B21.out.trans (hb.mono B21.out.size))
  have SZ22 : Bx (q21.heap.size ≤ q22.heap.size) := Bx.mk hb.size
  have Oa0_22 := Bx.mk (own_below Oa0_21.out hb)
  have Oa1_22 := Bx.mk (own_below Oa1_21.out hb)
  have Ow_22 := Bx.mk (own_below Ow_21.out hb)
  have Ob0_22 := Bx.mk (own_below Ob0_21.out hb)
  have Ob1_22 := Bx.mk (own_below Ob1_21.out hb)
  have Og_22 := Bx.mk (own_below Og_21.out hb)
  have Oc0_22 := Bx.mk (own_below Oc0_21.out hb)
  have Oc1_22 := Bx.mk (own_below Oc1_21.out hb)
  have Od0_22 := Bx.mk (own_below Od0_21.out hb)
  have Od1_22 := Bx.mk (own_below Od1_21.out hb)
  have Oh_22 := Bx.mk (own_below Oh_21.out hb)
  clear Oa0_21 Oa1_21 Ow_21 Ob0_21 Ob1_21 Og_21 Oc0_21 Oc1_21 Od0_21 Od1_21 Oh_21
  clear hb
  go_wp2_with (fail)
  refine (held_prs _ ys.length 1 _ (prs_own (by rw [pmk_len]; exact Og_22.out)) (by have := HL.out; omega) (by omega) (by omega)).mono ?_
  rintro e23 q23 ⟨rfl, hd⟩
  have hb := below_eq hd
  clear hd
  have B23 : Bx (Below w.heap.size w q23) := Bx.mk (B22.out.trans (hb.mono B22.out.size))
  have SZ23 : Bx (q22.heap.size ≤ q23.heap.size) := Bx.mk hb.size
  have Oa0_23 := Bx.mk (own_below Oa0_22.out hb)
  have Oa1_23 := Bx.mk (own_below Oa1_22.out hb)
  have Ow_23 := Bx.mk (own_below Ow_22.out hb)
  have Ob0_23 := Bx.mk (own_below Ob0_22.out hb)
  have Ob1_23 := Bx.mk (own_below Ob1_22.out hb)
  have Og_23 := Bx.mk (own_below Og_22.out hb)
  have Oc0_23 := Bx.mk (own_below Oc0_22.out hb)
  have Oc1_23 := Bx.mk (own_below Oc1_22.out hb)
  have Od0_23 := Bx.mk (own_below Od0_22.out hb)
  have Od1_23 := Bx.mk (own_below Od1_22.out hb)
  have Oh_23 := Bx.mk (own_below Oh_22.out hb)
  clear Oa0_22 Oa1_22 Ow_22 Ob0_22 Ob1_22 Og_22 Oc0_22 Oc1_22 Od0_22 Od1_22 Oh_22
  clear hb
  go_wp2_with (fail)
  go_ret
  exact ⟨rfl, B23.out⟩

theorem own : ownKnob Tryd.prog.godebug = none := by kernel_rfl
theorem laidOut : laidOutB Tryd.prog = true := by kernel_rfl
theorem listed {W : World} (h : laidMetH Tryd.prog Rows.fnExactJoinMelodiesRow.laid W) : ∃ ps, DataW.LaidVars Tryd.prog W Rows.fnExactJoinMelodiesRow.laid ps := by
  rw [Go.MakeChecks.laidMetH_plain _ _ _ (by kernel_rfl)] at h
  obtain ⟨ps, h, _⟩ := h
  exact ⟨ps, h⟩
set_option maxRecDepth 100000 in
theorem contract (H : Type) (enc : TypeId × Value → H) (W : World) (base : Nat) (args : Array Value) (ds gs : List (DataW H)) (before : List MemPlace)
    (hval : ∀ (j : Nat) t v, Tryd.f6.params[j]? = some t → args[j]? = some v → Value.okWide Tryd.prog W .any base t v)
    (hW : DataW.Whole enc Tryd.prog Tryd.f6.params.toList Rows.fnExactJoinMelodiesSpec.vars false W args.toList ds gs before) (hL : laidMetH Tryd.prog Rows.fnExactJoinMelodiesRow.laid W) (hsh : W.ShapedOpen Tryd.prog) :
    Calls Tryd.prog 6 args W fun e W' => ∃ v, e = .returned v ∧ Rows.fnExactJoinMelodiesSpec.post enc Tryd.prog Tryd.f6 false true false false W args v W' := by
  have hW' := hW
  obtain ⟨p, q, hA0, hV, rfl, hfz, hnd⟩ := hW
  obtain ⟨ps, hl⟩ := listed hL
  have hA : DataW.TrodAll enc Tryd.prog W 0 (fun _ => true) true Tryd.f6.params.toList args.toList ds p := hA0
  rw [Tryd.params6] at hA hval
  obtain ⟨v0, vs0, d0, ds0, p0, q0, hargs, rfl, rfl, h0, r0⟩ := trodAll_cons hA
  obtain ⟨v1, vs1, d1, ds1, p1, q1, rfl, rfl, rfl, h1, r1⟩ := trodAll_cons r0
  obtain ⟨rfl, rfl, rfl⟩ := trodAll_nil r1
  obtain rfl : args = #[v0, v1] := by cases args; simp_all
  obtain ⟨gv0, gr0, hgs0, hX0⟩ : ∃ d r, gs = d :: r ∧ True := by
    cases gs with
    | nil => simp [DataW.TrodVars, Rows.fnExactJoinMelodiesSpec] at hV
    | cons d r => exact ⟨d, r, rfl, trivial⟩
  subst hgs0
  obtain ⟨gv1, gr1, hgs1, hX1⟩ : ∃ d r, gr0 = d :: r ∧ True := by
    obtain ⟨_, _, _, _, _, _, _, _, _, _, hv1, _⟩ := hV; cases gr0 with
    | nil => simp [DataW.TrodVars, Rows.fnExactJoinMelodiesSpec] at hv1
    | cons d r => exact ⟨d, r, rfl, trivial⟩
  subst hgs1
  obtain rfl : gr1 = [] := by
    obtain ⟨_, _, _, _, _, _, _, _, _, _, hv1, _⟩ := hV; obtain ⟨_, _, _, _, _, _, _, _, _, _, hv2, _⟩ := hv1; cases gr1 with
    | nil => rfl
    | cons => simp [DataW.TrodVars] at hv2
  obtain ⟨l0, w0⟩ := arg_nts (hval 0 22 v0 rfl rfl) h0
  obtain ⟨l1, w1⟩ := arg_nts (hval 1 22 v1 rfl rfl) h1
  have hlm := hL
  rw [Go.MakeChecks.laidMetH_plain _ _ _ (by kernel_rfl)] at hlm
  refine (walk v0 l0 w0 v1 l1 w1  hlm).mono fun e W' ⟨he, hb⟩ => ?_
  subst he
  exact ⟨_, rfl, post_lawv laidOut (by kernel_rfl) (by kernel_rfl) (by kernel_rfl) Tryd.underlying4 hW' rfl hb⟩

noncomputable def low : Nat := (World.holding Tryd.prog default ⟨#[], #[], []⟩).heap.size
/-- a world for the witness: each listed variable holds what is listed -/
noncomputable def laidWorld (os : Os) : World :=
  { World.holding Tryd.prog os ⟨#[], #[], []⟩ with heap := (((World.holding Tryd.prog os ⟨#[.cells #[.string ⟨#[116, 104, 101, 32, 112, 105, 116, 99, 104, 32, 111, 102, 32, 97, 32, 110, 111, 116, 101, 32, 105, 115, 32, 110, 111, 32, 112, 105, 116, 99, 104, 44, 32, 111, 114, 32, 105, 116, 115, 32, 108, 101, 110, 103, 116, 104, 32, 110, 111, 32, 108, 101, 110, 103, 116, 104]⟩] 168, .cells #[.string ⟨#[116, 104, 101, 114, 101, 32, 97, 114, 101, 32, 109, 111, 114, 101, 32, 110, 111, 116, 101, 115, 32, 116, 104, 97, 110, 32, 97, 32, 109, 101, 108, 111, 100, 121, 32, 104, 97, 115]⟩] 168], #[], []⟩).heap).modify 0 (layCells [.iface 166 (.pointer (some ⟨low + 0, 0, none⟩))])).modify 1 (layCells [.iface 166 (.pointer (some ⟨low + 1, 0, none⟩))]) }
theorem laid_met (os : Os) : laidMet Tryd.prog Rows.fnExactJoinMelodiesRow.laid ((laidWorld os).forCall (fun _ _ => 0) ⟨#[], #[Value.slice none 0 0, Value.slice none 0 0], []⟩).memory :=
  laidMet_of_run' 8 (by kernel_rfl) (by kernel_rfl)
theorem reads (os : Os) {H : Type} (enc : TypeId × Value → H) : ∃ places, DataW.whole enc Tryd.prog ((laidWorld os).forCall (fun _ _ => 0) ⟨#[], #[Value.slice none 0 0, Value.slice none 0 0], []⟩).memory Tryd.f6.params.toList Rows.fnExactJoinMelodiesSpec.vars false #[Value.slice none 0 0, Value.slice none 0 0].toList 8 = some ([.nil, .nil], [tok enc (.iface 166 (.pointer (some ⟨low + 0, 0, none⟩))), tok enc (.iface 166 (.pointer (some ⟨low + 1, 0, none⟩)))], places) :=
  places_of (by kernel_rfl)

set_option maxRecDepth 100000 in
theorem lifted (os : Os) (started : os.Started) (H : Type) (enc : TypeId × Value → H) (F : Stop.Interp) :
    ReturnsInHanded {} Tryd.checked os 6 .any ((OpenSpec.ofChange Rows.fnExactJoinMelodiesSpec).preRow enc Tryd.prog Tryd.f6 Rows.fnExactJoinMelodiesRow.domain false Rows.fnExactJoinMelodiesRow.laid) (((OpenSpec.ofChange Rows.fnExactJoinMelodiesSpec).at F).post enc Tryd.prog Tryd.f6 false true false false) := by
  obtain ⟨places, hx⟩ := reads os enc
  refine returnsInHanded_of_row (C := Tryd.checked) (s := OpenSpec.ofChange Rows.fnExactJoinMelodiesSpec) own started (by kernel_rfl) Tryd.func6
    (witness_row_at (enc := enc) (C := Tryd.checked) false (laidWorld os) #[Value.slice none 0 0, Value.slice none 0 0] rfl (by kernel_rfl) (by kernel_rfl) (by kernel_rfl)
      (OpenSpec.preRow_of_cond 8 hx (by kernel_rfl) (fun k hk => by cases hk) (by kernel_rfl) (by rw [Go.MakeChecks.laidMetH_plain _ _ _ (by kernel_rfl)]; exact laid_met os))) ?_
  intro W base args ds gs before hval hW _ _ _ hL hsh _
  exact contract H enc W base args ds gs before hval hW hL hsh

theorem said : Rows.FnExactJoinMelodiesSaid :=
  OpenClaim.holds_of_cond 6 Tryd.f6 rfl rfl rfl rfl rfl rfl rfl ⟨rfl, rfl, rfl, rfl, rfl⟩ rfl rfl rfl rfl rfl (by kernel_rfl) Tryd.func6 (by kernel_rfl)
    (of_decide_eq_true (by kernel_rfl)) (by unfold Func.isWrapper; first | (rw [if_pos (by decide +kernel)]; kernel_rfl) | (rw [if_neg (by decide +kernel)]; exact ⟨rfl, rfl⟩))
    (fun os started H enc _ F => by rw [OpenClaim.pre_eq_preRow]; exact lifted os started H enc F)

theorem plain (f : FuncId) (fn : Func) (hf : Tryd.pinned.checked.prog.funcNamed "loop.example/g01033/laws.FnExactJoinMelodies" = some f) (hfn : Tryd.pinned.checked.prog.funcs[f]? = some fn) :
    true = Tryd.pinned.checked.prog.looks [] ∧ ∀ (j : Nat) t, fn.params[j]? = some t → Tryd.pinned.checked.prog.wantsStandIn t = false := by
  obtain rfl : f = 6 := Option.some.inj ((show Tryd.prog.funcNamed "loop.example/g01033/laws.FnExactJoinMelodies" = some 6 by kernel_rfl).symm.trans hf) |>.symm
  obtain rfl : fn = Tryd.f6 := (Option.some.inj (Tryd.func6.symm.trans hfn)).symm
  refine ⟨by kernel_rfl, fun j t ht => ?_⟩
  rw [Tryd.params6] at ht
  have hm := Array.mem_of_getElem? ht
  have hall : ∀ t ∈ #[22, 22], Tryd.prog.wantsStandIn t = false := by
    intro t ht
    simp at ht
    subst ht; kernel_rfl
  exact hall t hm

theorem card : Rows.FnExactJoinMelodiesCardSaid :=
  Claim7.holds_tied_plain_at .later [] _ _ _ _ said (fun _ h => by cases h) (by kernel_rfl) (fun _ h => by cases h) fnExactJoinMelodies_row_tie rfl ⟨rfl, rfl⟩ (by kernel_rfl) rfl plain (by kernel_rfl)
theorem proved : Rows.FnExactJoinMelodiesCardSaid := card
#print axioms proved
end Go.Proofs.YtendfnimhmnioaaDoor.fnExactJoinMelodies
