/- 'laws.FnExactCommonTones' returns true at every input: CommonTones on both sides is one function (comC). -/
import Derived.Test.YtfoikipacnmgkaaScLaw
namespace Go.Proofs.Ytfoikipacnmgkaa.fnExactCommonTones
open Go.ChangeShapes Go.WideShapes Go.ChangeAt Go.RowKit
set_option linter.unusedVariables false
set_option linter.unusedSimpArgs false
set_option maxRecDepth 100000

set_option maxHeartbeats 4000000 in
theorem walk (v0 : Value) (zs0 : List Int) {w : World} (w0 : IntsAt w v0 zs0 ∧ zs0.length ≤ 9223372036854775807) (v1 : Value) (zs1 : List Int) (w1 : IntsAt w v1 zs1 ∧ zs1.length ≤ 9223372036854775807) :
    Calls Try.prog 16 #[v0, v1] w fun e w' => e = .returned (.bool true) ∧ Below w.heap.size w w' := by
  obtain ⟨hi0, hmax0⟩ := w0
  obtain ⟨A0, c0, rfl⟩ := len_of hi0
  obtain ⟨hi1, hmax1⟩ := w1
  obtain ⟨A1, c1, rfl⟩ := len_of hi1
  by_cases hb0 : 1048576 < zs0.length
  · clear hi0 hi1
    go_enter Try.func16, Try.ntmps16
    go_wp2_with (fail)
    go_ret
    exact ⟨rfl, Below.refl _ _⟩
  · have hz0 : zs0.length ≤ 1048576 := by omega
    by_cases hb1 : 1048576 < zs1.length
    · clear hi0 hi1
      go_enter Try.func16, Try.ntmps16
      go_wp2_with (fail)
      go_ret
      exact ⟨rfl, Below.refl _ _⟩
    · have hz1 : zs1.length ≤ 1048576 := by omega
      have HI0 := Bx.mk hi0
      have HI1 := Bx.mk hi1
      clear hi0 hi1
      have B0 : Bx (Below w.heap.size w w) := Bx.mk (Below.refl _ _)
      have hs : ∀ u0 u1 W, IntsAt W u0 zs0 → IntsAt W u1 zs1 → Calls Try.prog 56 #[u0, u1] W (RowOut ((comC zs0 zs1).1) (.int .i64 (comC zs0 zs1).2) W) := fun u0 u1 W h0 h1 => spec_common u0 u1 zs0 zs1 W h0 h1 (by omega) (by omega)
      have hi : ∀ u0 u1 W, IntsAt W u0 zs0 → IntsAt W u1 zs1 → Calls Try.prog 40 #[u0, u1] W (RowOut ((comC zs0 zs1).1) (.int .i64 (comC zs0 zs1).2) W) := fun u0 u1 W h0 h1 => impl_common u0 u1 zs0 zs1 W h0 h1 (by omega) (by omega)
      have HL : Bx (((comC zs0 zs1).1).length ≤ 64) := Bx.mk (comC_len zs0 zs1)
      generalize (comC zs0 zs1).1 = ys at hs hi HL
      generalize (comC zs0 zs1).2 = cc at hs hi
      go_enter Try.func16, Try.ntmps16
      go_wp2_with (fail)
      refine (copy_ints _ zs0 w (HI0.out.below B0.out) (by omega)).mono ?_
      rintro e1 q1 ⟨va0, rfl, ho, hb⟩
      have B1 : Bx (Below w.heap.size w q1) := Bx.mk (B0.out.trans (hb.mono B0.out.size))
      have SZ1 : Bx (w.heap.size ≤ q1.heap.size) := Bx.mk hb.size
      have Oa0_1 := Bx.mk ho
      have Ua0 := Bx.mk (own_hi ho)
      clear ho
      clear hb
      go_wp2_with (fail)
      refine (copy_ints _ zs1 q1 (HI1.out.below B1.out) (by omega)).mono ?_
      rintro e2 q2 ⟨va1, rfl, ho, hb⟩
      have B2 : Bx (Below w.heap.size w q2) := Bx.mk (B1.out.trans (hb.mono B1.out.size))
      have SZ2 : Bx (q1.heap.size ≤ q2.heap.size) := Bx.mk hb.size
      have Oa0_2 := Bx.mk (own_below Oa0_1.out hb)
      clear Oa0_1
      have Oa1_2 := Bx.mk ho
      have Ua1 := Bx.mk (own_hi ho)
      clear ho
      clear hb
      go_wp2_with (fail)
      refine (hs _ _ _ (IntsAt.own Oa0_2.out) (IntsAt.own Oa1_2.out)).mono ?_
      rintro e3 q3 ⟨vw, rfl, ho, hb⟩
      have B3 : Bx (Below w.heap.size w q3) := Bx.mk (B2.out.trans (hb.mono B2.out.size))
      have SZ3 : Bx (q2.heap.size ≤ q3.heap.size) := Bx.mk hb.size
      have Oa0_3 := Bx.mk (own_below Oa0_2.out hb)
      have Oa1_3 := Bx.mk (own_below Oa1_2.out hb)
      clear Oa0_2 Oa1_2
      have Ow_3 := Bx.mk ho
      have Uw := Bx.mk (own_hi ho)
      clear ho
      clear hb
      go_wp2_with (fail)
      refine (copy_ints _ zs0 q3 (HI0.out.below B3.out) (by omega)).mono ?_
      rintro e4 q4 ⟨vb0, rfl, ho, hb⟩
      have B4 : Bx (Below w.heap.size w q4) := Bx.mk (B3.out.trans (hb.mono B3.out.size))
      have SZ4 : Bx (q3.heap.size ≤ q4.heap.size) := Bx.mk hb.size
      have Oa0_4 := Bx.mk (own_below Oa0_3.out hb)
      have Oa1_4 := Bx.mk (own_below Oa1_3.out hb)
      have Ow_4 := Bx.mk (own_below Ow_3.out hb)
      clear Oa0_3 Oa1_3 Ow_3
      have Ob0_4 := Bx.mk ho
      have Ub0 := Bx.mk (own_hi ho)
      clear ho
      clear hb
      go_wp2_with (fail)
      refine (copy_ints _ zs1 q4 (HI1.out.below B4.out) (by omega)).mono ?_
      rintro e5 q5 ⟨vb1, rfl, ho, hb⟩
      have B5 : Bx (Below w.heap.size w q5) := Bx.mk (B4.out.trans (hb.mono B4.out.size))
      have SZ5 : Bx (q4.heap.size ≤ q5.heap.size) := Bx.mk hb.size
      have Oa0_5 := Bx.mk (own_below Oa0_4.out hb)
      have Oa1_5 := Bx.mk (own_below Oa1_4.out hb)
      have Ow_5 := Bx.mk (own_below Ow_4.out hb)
      have Ob0_5 := Bx.mk (own_below Ob0_4.out hb)
      clear Oa0_4 Oa1_4 Ow_4 Ob0_4
      have Ob1_5 := Bx.mk ho
      have Ub1 := Bx.mk (own_hi ho)
      clear ho
      clear hb
      go_wp2_with (fail)
      refine (hi _ _ _ (IntsAt.own Ob0_5.out) (IntsAt.own Ob1_5.out)).mono ?_
      rintro e6 q6 ⟨vg, rfl, ho, hb⟩
      have B6 : Bx (Below w.heap.size w q6) := Bx.mk (B5.out.trans (hb.mono B5.out.size))
      have SZ6 : Bx (q5.heap.size ≤ q6.heap.size) := Bx.mk hb.size
      have Oa0_6 := Bx.mk (own_below Oa0_5.out hb)
      have Oa1_6 := Bx.mk (own_below Oa1_5.out hb)
      have Ow_6 := Bx.mk (own_below Ow_5.out hb)
      have Ob0_6 := Bx.mk (own_below Ob0_5.out hb)
      have Ob1_6 := Bx.mk (own_below Ob1_5.out hb)
      clear Oa0_5 Oa1_5 Ow_5 Ob0_5 Ob1_5
      have Og_6 := Bx.mk ho
      have Ug := Bx.mk (own_hi ho)
      clear ho
      clear hb
      go_wp2_with (fail)
      refine (eq_ints _ _ ys ys _ (IntsAt.own Og_6.out) (IntsAt.own Ow_6.out) (by have := HL.out; omega) (by have := HL.out; omega)).mono ?_
      rintro e7 q7 ⟨rfl, hd⟩
      have hb := below_dr hd
      clear hd
      have B7 : Bx (Below w.heap.size w q7) := Bx.mk (B6.out.trans (hb.mono B6.out.size))
      have SZ7 : Bx (q6.heap.size ≤ q7.heap.size) := Bx.mk hb.size
      have Oa0_7 := Bx.mk (own_below Oa0_6.out hb)
      have Oa1_7 := Bx.mk (own_below Oa1_6.out hb)
      have Ow_7 := Bx.mk (own_below Ow_6.out hb)
      have Ob0_7 := Bx.mk (own_below Ob0_6.out hb)
      have Ob1_7 := Bx.mk (own_below Ob1_6.out hb)
      have Og_7 := Bx.mk (own_below Og_6.out hb)
      clear Oa0_6 Oa1_6 Ow_6 Ob0_6 Ob1_6 Og_6
      clear hb
      go_wp2_with (fail)
      refine (copy_ints _ zs0 q7 (HI0.out.below B7.out) (by omega)).mono ?_
      rintro e8 q8 ⟨vc0, rfl, ho, hb⟩
      have B8 : Bx (Below w.heap.size w q8) := Bx.mk (B7.out.trans (hb.mono B7.out.size))
      have SZ8 : Bx (q7.heap.size ≤ q8.heap.size) := Bx.mk hb.size
      have Oa0_8 := Bx.mk (own_below Oa0_7.out hb)
      have Oa1_8 := Bx.mk (own_below Oa1_7.out hb)
      have Ow_8 := Bx.mk (own_below Ow_7.out hb)
      have Ob0_8 := Bx.mk (own_below Ob0_7.out hb)
      have Ob1_8 := Bx.mk (own_below Ob1_7.out hb)
      have Og_8 := Bx.mk (own_below Og_7.out hb)
      clear Oa0_7 Oa1_7 Ow_7 Ob0_7 Ob1_7 Og_7
      have Oc0_8 := Bx.mk ho
      have Uc0 := Bx.mk (own_hi ho)
      clear ho
      clear hb
      go_wp2_with (fail)
      refine (eq_ints _ _ zs0 zs0 _ (IntsAt.own Ob0_8.out) (IntsAt.own Oc0_8.out) (by omega) (by omega)).mono ?_
      rintro e9 q9 ⟨rfl, hd⟩
      have hb := below_dr hd
      clear hd
      have B9 : Bx (Below w.heap.size w q9) := Bx.mk (B8.out.trans (hb.mono B8.out.size))
      have SZ9 : Bx (q8.heap.size ≤ q9.heap.size) := Bx.mk hb.size
      have Oa0_9 := Bx.mk (own_below Oa0_8.out hb)
      have Oa1_9 := Bx.mk (own_below Oa1_8.out hb)
      have Ow_9 := Bx.mk (own_below Ow_8.out hb)
      have Ob0_9 := Bx.mk (own_below Ob0_8.out hb)
      have Ob1_9 := Bx.mk (own_below Ob1_8.out hb)
      have Og_9 := Bx.mk (own_below Og_8.out hb)
      have Oc0_9 := Bx.mk (own_below Oc0_8.out hb)
      clear Oa0_8 Oa1_8 Ow_8 Ob0_8 Ob1_8 Og_8 Oc0_8
      clear hb
      go_wp2_with (fail)
      refine (copy_ints _ zs1 q9 (HI1.out.below B9.out) (by omega)).mono ?_
      rintro e10 q10 ⟨vc1, rfl, ho, hb⟩
      have B10 : Bx (Below w.heap.size w q10) := Bx.mk (B9.out.trans (hb.mono B9.out.size))
      have SZ10 : Bx (q9.heap.size ≤ q10.heap.size) := Bx.mk hb.size
      have Oa0_10 := Bx.mk (own_below Oa0_9.out hb)
      have Oa1_10 := Bx.mk (own_below Oa1_9.out hb)
      have Ow_10 := Bx.mk (own_below Ow_9.out hb)
      have Ob0_10 := Bx.mk (own_below Ob0_9.out hb)
      have Ob1_10 := Bx.mk (own_below Ob1_9.out hb)
      have Og_10 := Bx.mk (own_below Og_9.out hb)
      have Oc0_10 := Bx.mk (own_below Oc0_9.out hb)
      clear Oa0_9 Oa1_9 Ow_9 Ob0_9 Ob1_9 Og_9 Oc0_9
      have Oc1_10 := Bx.mk ho
      have Uc1 := Bx.mk (own_hi ho)
      clear ho
      clear hb
      go_wp2_with (fail)
      refine (eq_ints _ _ zs1 zs1 _ (IntsAt.own Ob1_10.out) (IntsAt.own Oc1_10.out) (by omega) (by omega)).mono ?_
      rintro e11 q11 ⟨rfl, hd⟩
      have hb := below_dr hd
      clear hd
      have B11 : Bx (Below w.heap.size w q11) := Bx.mk (B10.out.trans (hb.mono B10.out.size))
      have SZ11 : Bx (q10.heap.size ≤ q11.heap.size) := Bx.mk hb.size
      have Oa0_11 := Bx.mk (own_below Oa0_10.out hb)
      have Oa1_11 := Bx.mk (own_below Oa1_10.out hb)
      have Ow_11 := Bx.mk (own_below Ow_10.out hb)
      have Ob0_11 := Bx.mk (own_below Ob0_10.out hb)
      have Ob1_11 := Bx.mk (own_below Ob1_10.out hb)
      have Og_11 := Bx.mk (own_below Og_10.out hb)
      have Oc0_11 := Bx.mk (own_below Oc0_10.out hb)
      have Oc1_11 := Bx.mk (own_below Oc1_10.out hb)
      clear Oa0_10 Oa1_10 Ow_10 Ob0_10 Ob1_10 Og_10 Oc0_10 Oc1_10
      clear hb
      go_wp2_with (fail)
      refine (mark_ints _ zs0 q3.heap.size 1 _ Ob0_11.out (by omega) (by omega) (by omega)).mono ?_
      rintro e12 q12 ⟨rfl, hm, hg⟩
      have B12 : Bx (Below w.heap.size w q12) := Bx.mk (below_mark B11.out Ob0_11.out (B3.out.size) hg)
      have SZ12 : Bx (q11.heap.size ≤ q12.heap.size) := Bx.mk (grown_size hg)
      have Oa0_12 := Bx.mk (own_young Oa0_11.out Ua0.out Ob0_11.out (by have := SZ1.out; have := SZ2.out; have := SZ3.out; have := SZ4.out; have := SZ5.out; have := SZ6.out; have := SZ7.out; have := SZ8.out; have := SZ9.out; have := SZ10.out; have := SZ11.out; have := SZ12.out; omega) hg)
      have Oa1_12 := Bx.mk (own_young Oa1_11.out Ua1.out Ob0_11.out (by have := SZ1.out; have := SZ2.out; have := SZ3.out; have := SZ4.out; have := SZ5.out; have := SZ6.out; have := SZ7.out; have := SZ8.out; have := SZ9.out; have := SZ10.out; have := SZ11.out; have := SZ12.out; omega) hg)
      have Ow_12 := Bx.mk (own_young Ow_11.out Uw.out Ob0_11.out (by have := SZ1.out; have := SZ2.out; have := SZ3.out; have := SZ4.out; have := SZ5.out; have := SZ6.out; have := SZ7.out; have := SZ8.out; have := SZ9.out; have := SZ10.out; have := SZ11.out; have := SZ12.out; omega) hg)
      have Ob1_12 := Bx.mk (own_old Ob1_11.out Ub0.out (by have := SZ1.out; have := SZ2.out; have := SZ3.out; have := SZ4.out; have := SZ5.out; have := SZ6.out; have := SZ7.out; have := SZ8.out; have := SZ9.out; have := SZ10.out; have := SZ11.out; have := SZ12.out; omega) hg)
      have Og_12 := Bx.mk (own_old Og_11.out Ub0.out (by have := SZ1.out; have := SZ2.out; have := SZ3.out; have := SZ4.out; have := SZ5.out; have := SZ6.out; have := SZ7.out; have := SZ8.out; have := SZ9.out; have := SZ10.out; have := SZ11.out; have := SZ12.out; omega) hg)
      have Oc0_12 := Bx.mk (own_old Oc0_11.out Ub0.out (by have := SZ1.out; have := SZ2.out; have := SZ3.out; have := SZ4.out; have := SZ5.out; have := SZ6.out; have := SZ7.out; have := SZ8.out; have := SZ9.out; have := SZ10.out; have := SZ11.out; have := SZ12.out; omega) hg)
      have Oc1_12 := Bx.mk (own_old Oc1_11.out Ub0.out (by have := SZ1.out; have := SZ2.out; have := SZ3.out; have := SZ4.out; have := SZ5.out; have := SZ6.out; have := SZ7.out; have := SZ8.out; have := SZ9.out; have := SZ10.out; have := SZ11.out; have := SZ12.out; omega) hg)
      clear Oa0_11 Oa1_11 Ow_11 Ob0_11 Ob1_11 Og_11 Oc0_11 Oc1_11
      have Ob0_12 := Bx.mk hm
      clear hm hg
      go_wp2_with (fail)
      refine (mark_ints _ zs1 q4.heap.size (1 + zs0.length) _ Ob1_12.out (by omega) (by omega) (by omega)).mono ?_
      rintro e13 q13 ⟨rfl, hm, hg⟩
      have B13 : Bx (Below w.heap.size w q13) := Bx.mk (below_mark B12.out Ob1_12.out (B4.out.size) hg)
      have SZ13 : Bx (q12.heap.size ≤ q13.heap.size) := Bx.mk (grown_size hg)
      have Oa0_13 := Bx.mk (own_young Oa0_12.out Ua0.out Ob1_12.out (by have := SZ1.out; have := SZ2.out; have := SZ3.out; have := SZ4.out; have := SZ5.out; have := SZ6.out; have := SZ7.out; have := SZ8.out; have := SZ9.out; have := SZ10.out; have := SZ11.out; have := SZ12.out; have := SZ13.out; omega) hg)
      have Oa1_13 := Bx.mk (own_young Oa1_12.out Ua1.out Ob1_12.out (by have := SZ1.out; have := SZ2.out; have := SZ3.out; have := SZ4.out; have := SZ5.out; have := SZ6.out; have := SZ7.out; have := SZ8.out; have := SZ9.out; have := SZ10.out; have := SZ11.out; have := SZ12.out; have := SZ13.out; omega) hg)
      have Ow_13 := Bx.mk (own_young Ow_12.out Uw.out Ob1_12.out (by have := SZ1.out; have := SZ2.out; have := SZ3.out; have := SZ4.out; have := SZ5.out; have := SZ6.out; have := SZ7.out; have := SZ8.out; have := SZ9.out; have := SZ10.out; have := SZ11.out; have := SZ12.out; have := SZ13.out; omega) hg)
      have Ob0_13 := Bx.mk (own_young Ob0_12.out Ub0.out Ob1_12.out (by have := SZ1.out; have := SZ2.out; have := SZ3.out; have := SZ4.out; have := SZ5.out; have := SZ6.out; have := SZ7.out; have := SZ8.out; have := SZ9.out; have := SZ10.out; have := SZ11.out; have := SZ12.out; have := SZ13.out; omega) hg)
      have Og_13 := Bx.mk (own_old Og_12.out Ub1.out (by have := SZ1.out; have := SZ2.out; have := SZ3.out; have := SZ4.out; have := SZ5.out; have := SZ6.out; have := SZ7.out; have := SZ8.out; have := SZ9.out; have := SZ10.out; have := SZ11.out; have := SZ12.out; have := SZ13.out; omega) hg)
      have Oc0_13 := Bx.mk (own_old Oc0_12.out Ub1.out (by have := SZ1.out; have := SZ2.out; have := SZ3.out; have := SZ4.out; have := SZ5.out; have := SZ6.out; have := SZ7.out; have := SZ8.out; have := SZ9.out; have := SZ10.out; have := SZ11.out; have := SZ12.out; have := SZ13.out; omega) hg)
      have Oc1_13 := Bx.mk (own_old Oc1_12.out Ub1.out (by have := SZ1.out; have := SZ2.out; have := SZ3.out; have := SZ4.out; have := SZ5.out; have := SZ6.out; have := SZ7.out; have := SZ8.out; have := SZ9.out; have := SZ10.out; have := SZ11.out; have := SZ12.out; have := SZ13.out; omega) hg)
      clear Oa0_12 Oa1_12 Ow_12 Ob0_12 Ob1_12 Og_12 Oc0_12 Oc1_12
      have Ob1_13 := Bx.mk hm
      clear hm hg
      go_wp2_with (fail)
      refine (eq_ints _ _ ys ys _ (IntsAt.own Og_13.out) (IntsAt.own Ow_13.out) (by have := HL.out; omega) (by have := HL.out; omega)).mono ?_
      rintro e14 q14 ⟨rfl, hd⟩
      have hb := below_dr hd
      clear hd
      have B14 : Bx (Below w.heap.size w q14) := Bx.mk (B13.out.trans (hb.mono B13.out.size))
      have SZ14 : Bx (q13.heap.size ≤ q14.heap.size) := Bx.mk hb.size
      have Oa0_14 := Bx.mk (own_below Oa0_13.out hb)
      have Oa1_14 := Bx.mk (own_below Oa1_13.out hb)
      have Ow_14 := Bx.mk (own_below Ow_13.out hb)
      have Ob0_14 := Bx.mk (own_below Ob0_13.out hb)
      have Ob1_14 := Bx.mk (own_below Ob1_13.out hb)
      have Og_14 := Bx.mk (own_below Og_13.out hb)
      have Oc0_14 := Bx.mk (own_below Oc0_13.out hb)
      have Oc1_14 := Bx.mk (own_below Oc1_13.out hb)
      clear Oa0_13 Oa1_13 Ow_13 Ob0_13 Ob1_13 Og_13 Oc0_13 Oc1_13
      clear hb
      go_wp2_with (fail)
      refine (mark_ints _ ys q5.heap.size 1 _ Og_14.out (by have := HL.out; omega) (by omega) (by omega)).mono ?_
      rintro e15 q15 ⟨rfl, hm, hg⟩
      have B15 : Bx (Below w.heap.size w q15) := Bx.mk (below_mark B14.out Og_14.out (B5.out.size) hg)
      have SZ15 : Bx (q14.heap.size ≤ q15.heap.size) := Bx.mk (grown_size hg)
      have Oa0_15 := Bx.mk (own_young Oa0_14.out Ua0.out Og_14.out (by have := SZ1.out; have := SZ2.out; have := SZ3.out; have := SZ4.out; have := SZ5.out; have := SZ6.out; have := SZ7.out; have := SZ8.out; have := SZ9.out; have := SZ10.out; have := SZ11.out; have := SZ12.out; have := SZ13.out; have := SZ14.out; have := SZ15.out; omega) hg)
      have Oa1_15 := Bx.mk (own_young Oa1_14.out Ua1.out Og_14.out (by have := SZ1.out; have := SZ2.out; have := SZ3.out; have := SZ4.out; have := SZ5.out; have := SZ6.out; have := SZ7.out; have := SZ8.out; have := SZ9.out; have := SZ10.out; have := SZ11.out; have := SZ12.out; have := SZ13.out; have := SZ14.out; have := SZ15.out; omega) hg)
      have Ow_15 := Bx.mk (own_young Ow_14.out Uw.out Og_14.out (by have := SZ1.out; have := SZ2.out; have := SZ3.out; have := SZ4.out; have := SZ5.out; have := SZ6.out; have := SZ7.out; have := SZ8.out; have := SZ9.out; have := SZ10.out; have := SZ11.out; have := SZ12.out; have := SZ13.out; have := SZ14.out; have := SZ15.out; omega) hg)
      have Ob0_15 := Bx.mk (own_young Ob0_14.out Ub0.out Og_14.out (by have := SZ1.out; have := SZ2.out; have := SZ3.out; have := SZ4.out; have := SZ5.out; have := SZ6.out; have := SZ7.out; have := SZ8.out; have := SZ9.out; have := SZ10.out; have := SZ11.out; have := SZ12.out; have := SZ13.out; have := SZ14.out; have := SZ15.out; omega) hg)
      have Ob1_15 := Bx.mk (own_young Ob1_14.out Ub1.out Og_14.out (by have := SZ1.out; have := SZ2.out; have := SZ3.out; have := SZ4.out; have := SZ5.out; have := SZ6.out; have := SZ7.out; have := SZ8.out; have := SZ9.out; have := SZ10.out; have := SZ11.out; have := SZ12.out; have := SZ13.out; have := SZ14.out; have := SZ15.out; omega) hg)
      have Oc0_15 := Bx.mk (own_old Oc0_14.out Ug.out (by have := SZ1.out; have := SZ2.out; have := SZ3.out; have := SZ4.out; have := SZ5.out; have := SZ6.out; have := SZ7.out; have := SZ8.out; have := SZ9.out; have := SZ10.out; have := SZ11.out; have := SZ12.out; have := SZ13.out; have := SZ14.out; have := SZ15.out; omega) hg)
      have Oc1_15 := Bx.mk (own_old Oc1_14.out Ug.out (by have := SZ1.out; have := SZ2.out; have := SZ3.out; have := SZ4.out; have := SZ5.out; have := SZ6.out; have := SZ7.out; have := SZ8.out; have := SZ9.out; have := SZ10.out; have := SZ11.out; have := SZ12.out; have := SZ13.out; have := SZ14.out; have := SZ15.out; omega) hg)
      clear Oa0_14 Oa1_14 Ow_14 Ob0_14 Ob1_14 Og_14 Oc0_14 Oc1_14
      have Og_15 := Bx.mk hm
      clear hm hg
      go_wp2_with (fail)
      refine (held_ints _ ys.length 1 _ (IntsAt.own (by rw [marks_len]; exact Og_15.out)) (by have := HL.out; omega) (by omega) (by omega)).mono ?_
      rintro e16 q16 ⟨rfl, hd⟩
      have hb := below_eq hd
      clear hd
      have B16 : Bx (Below w.heap.size w q16) := Bx.mk (B15.out.trans (hb.mono B15.out.size))
      have SZ16 : Bx (q15.heap.size ≤ q16.heap.size) := Bx.mk hb.size
      have Oa0_16 := Bx.mk (own_below Oa0_15.out hb)
      have Oa1_16 := Bx.mk (own_below Oa1_15.out hb)
      have Ow_16 := Bx.mk (own_below Ow_15.out hb)
      have Ob0_16 := Bx.mk (own_below Ob0_15.out hb)
      have Ob1_16 := Bx.mk (own_below Ob1_15.out hb)
      have Og_16 := Bx.mk (own_below Og_15.out hb)
      have Oc0_16 := Bx.mk (own_below Oc0_15.out hb)
      have Oc1_16 := Bx.mk (own_below Oc1_15.out hb)
      clear Oa0_15 Oa1_15 Ow_15 Ob0_15 Ob1_15 Og_15 Oc0_15 Oc1_15
      clear hb
      go_wp2_with (fail)
      refine (copy_ints _ zs0 q16 (HI0.out.below B16.out) (by omega)).mono ?_
      rintro e17 q17 ⟨vd0, rfl, ho, hb⟩
      have B17 : Bx (Below w.heap.size w q17) := Bx.mk (B16.out.trans (hb.mono B16.out.size))
      have SZ17 : Bx (q16.heap.size ≤ q17.heap.size) := Bx.mk hb.size
      have Oa0_17 := Bx.mk (own_below Oa0_16.out hb)
      have Oa1_17 := Bx.mk (own_below Oa1_16.out hb)
      have Ow_17 := Bx.mk (own_below Ow_16.out hb)
      have Ob0_17 := Bx.mk (own_below Ob0_16.out hb)
      have Ob1_17 := Bx.mk (own_below Ob1_16.out hb)
      have Og_17 := Bx.mk (own_below Og_16.out hb)
      have Oc0_17 := Bx.mk (own_below Oc0_16.out hb)
      have Oc1_17 := Bx.mk (own_below Oc1_16.out hb)
      clear Oa0_16 Oa1_16 Ow_16 Ob0_16 Ob1_16 Og_16 Oc0_16 Oc1_16
      have Od0_17 := Bx.mk ho
      have Ud0 := Bx.mk (own_hi ho)
      clear ho
      clear hb
      go_wp2_with (fail)
      refine (copy_ints _ zs1 q17 (HI1.out.below B17.out) (by omega)).mono ?_
      rintro e18 q18 ⟨vd1, rfl, ho, hb⟩
      have B18 : Bx (Below w.heap.size w q18) := Bx.mk (B17.out.trans (hb.mono B17.out.size))
      have SZ18 : Bx (q17.heap.size ≤ q18.heap.size) := Bx.mk hb.size
      have Oa0_18 := Bx.mk (own_below Oa0_17.out hb)
      have Oa1_18 := Bx.mk (own_below Oa1_17.out hb)
      have Ow_18 := Bx.mk (own_below Ow_17.out hb)
      have Ob0_18 := Bx.mk (own_below Ob0_17.out hb)
      have Ob1_18 := Bx.mk (own_below Ob1_17.out hb)
      have Og_18 := Bx.mk (own_below Og_17.out hb)
      have Oc0_18 := Bx.mk (own_below Oc0_17.out hb)
      have Oc1_18 := Bx.mk (own_below Oc1_17.out hb)
      have Od0_18 := Bx.mk (own_below Od0_17.out hb)
      clear Oa0_17 Oa1_17 Ow_17 Ob0_17 Ob1_17 Og_17 Oc0_17 Oc1_17 Od0_17
      have Od1_18 := Bx.mk ho
      have Ud1 := Bx.mk (own_hi ho)
      clear ho
      clear hb
      go_wp2_with (fail)
      refine (hi _ _ _ (IntsAt.own Od0_18.out) (IntsAt.own Od1_18.out)).mono ?_
      rintro e19 q19 ⟨vh, rfl, ho, hb⟩
      have B19 : Bx (Below w.heap.size w q19) := Bx.mk (B18.out.trans (hb.mono B18.out.size))
      have SZ19 : Bx (q18.heap.size ≤ q19.heap.size) := Bx.mk hb.size
      have Oa0_19 := Bx.mk (own_below Oa0_18.out hb)
      have Oa1_19 := Bx.mk (own_below Oa1_18.out hb)
      have Ow_19 := Bx.mk (own_below Ow_18.out hb)
      have Ob0_19 := Bx.mk (own_below Ob0_18.out hb)
      have Ob1_19 := Bx.mk (own_below Ob1_18.out hb)
      have Og_19 := Bx.mk (own_below Og_18.out hb)
      have Oc0_19 := Bx.mk (own_below Oc0_18.out hb)
      have Oc1_19 := Bx.mk (own_below Oc1_18.out hb)
      have Od0_19 := Bx.mk (own_below Od0_18.out hb)
      have Od1_19 := Bx.mk (own_below Od1_18.out hb)
      clear Oa0_18 Oa1_18 Ow_18 Ob0_18 Ob1_18 Og_18 Oc0_18 Oc1_18 Od0_18 Od1_18
      have Oh_19 := Bx.mk ho
      have Uh := Bx.mk (own_hi ho)
      clear ho
      clear hb
      go_wp2_with (fail)
      refine (eq_ints _ _ ys ys _ (IntsAt.own Oh_19.out) (IntsAt.own Ow_19.out) (by have := HL.out; omega) (by have := HL.out; omega)).mono ?_
      rintro e20 q20 ⟨rfl, hd⟩
      have hb := below_dr hd
      clear hd
      have B20 : Bx (Below w.heap.size w q20) := Bx.mk (B19.out.trans (hb.mono B19.out.size))
      have SZ20 : Bx (q19.heap.size ≤ q20.heap.size) := Bx.mk hb.size
      have Oa0_20 := Bx.mk (own_below Oa0_19.out hb)
      have Oa1_20 := Bx.mk (own_below Oa1_19.out hb)
      have Ow_20 := Bx.mk (own_below Ow_19.out hb)
      have Ob0_20 := Bx.mk (own_below Ob0_19.out hb)
      have Ob1_20 := Bx.mk (own_below Ob1_19.out hb)
      have Og_20 := Bx.mk (own_below Og_19.out hb)
      have Oc0_20 := Bx.mk (own_below Oc0_19.out hb)
      have Oc1_20 := Bx.mk (own_below Oc1_19.out hb)
      have Od0_20 := Bx.mk (own_below Od0_19.out hb)
      have Od1_20 := Bx.mk (own_below Od1_19.out hb)
      have Oh_20 := Bx.mk (own_below Oh_19.out hb)
      clear Oa0_19 Oa1_19 Ow_19 Ob0_19 Ob1_19 Og_19 Oc0_19 Oc1_19 Od0_19 Od1_19 Oh_19
      clear hb
      go_wp2_with (fail)
      refine (held_ints _ ys.length 1 _ (IntsAt.own (by rw [marks_len]; exact Og_20.out)) (by have := HL.out; omega) (by omega) (by omega)).mono ?_
      rintro e21 q21 ⟨rfl, hd⟩
      have hb := below_eq hd
      clear hd
      have B21 : Bx (Below w.heap.size w q21) := Bx.mk (B20.out.trans (hb.mono B20.out.size))
      have SZ21 : Bx (q20.heap.size ≤ q21.heap.size) := Bx.mk hb.size
      have Oa0_21 := Bx.mk (own_below Oa0_20.out hb)
      have Oa1_21 := Bx.mk (own_below Oa1_20.out hb)
      have Ow_21 := Bx.mk (own_below Ow_20.out hb)
      have Ob0_21 := Bx.mk (own_below Ob0_20.out hb)
      have Ob1_21 := Bx.mk (own_below Ob1_20.out hb)
      have Og_21 := Bx.mk (own_below Og_20.out hb)
      have Oc0_21 := Bx.mk (own_below Oc0_20.out hb)
      have Oc1_21 := Bx.mk (own_below Oc1_20.out hb)
      have Od0_21 := Bx.mk (own_below Od0_20.out hb)
      have Od1_21 := Bx.mk (own_below Od1_20.out hb)
      have Oh_21 := Bx.mk (own_below Oh_20.out hb)
      clear Oa0_20 Oa1_20 Ow_20 Ob0_20 Ob1_20 Og_20 Oc0_20 Oc1_20 Od0_20 Od1_20 Oh_20
      clear hb
      go_wp2_with (fail)
      go_ret
      exact ⟨rfl, B21.out⟩

theorem own : ownKnob Try.prog.godebug = none := by kernel_rfl
theorem laidOut : laidOutB Try.prog = true := by kernel_rfl

set_option maxRecDepth 100000 in
theorem lifted (os : Os) (started : os.Started) (H : Type) (enc : TypeId × Value → H) :
    ReturnsInHanded {} Try.checked os 16 .any (Rows.fnExactCommonTonesSpec.pre6 enc Try.prog Try.f16 Rows.fnExactCommonTonesRow.domain false) (Rows.fnExactCommonTonesSpec.post enc Try.prog Try.f16 false true false false) := by
  refine returnsInHanded_of_change (C := Try.checked) own started (by kernel_rfl) Try.func16
    (ChangeSpec.witness6 (enc := enc) (C := Try.checked) false ⟨#[], #[.slice none 0 0, .slice none 0 0], []⟩ 8 (by kernel_rfl) (by kernel_rfl) (by kernel_rfl) (by kernel_rfl)) ?_
  intro W base args ds gs before hval0 hW hcnd _
  have hval : ∀ (j : Nat) t v, Try.f16.params[j]? = some t → args[j]? = some v → Value.okWide Try.prog W .any base t v := hval0
  have hW' := hW
  obtain ⟨p, q, hA0, hV, rfl, hfz, hnd⟩ := hW
  have hA : DataW.TrodAll enc Try.prog W 0 (fun _ => true) true Try.f16.params.toList args.toList ds p := hA0
  rw [Try.params16] at hA hval
  obtain ⟨v0, vs0, d0, ds0, p0, q0, hargs, rfl, rfl, h0, r0⟩ := trodAll_cons hA
  obtain ⟨v1, vs1, d1, ds1, p1, q1, rfl, rfl, rfl, h1, r1⟩ := trodAll_cons r0
  obtain ⟨rfl, rfl, rfl⟩ := trodAll_nil r1
  obtain rfl : args = #[v0, v1] := by cases args; simp_all
  obtain ⟨rfl, rfl⟩ := trodVars_none hV
  obtain ⟨zs0, w0⟩ := arg_ints (hval 0 24 v0 rfl rfl) h0 (fun x hx => hW'.lt x (by simp [hx]))
  obtain ⟨zs1, w1⟩ := arg_ints (hval 1 24 v1 rfl rfl) h1 (fun x hx => hW'.lt x (by simp [hx]))
  clear hA0 hval0
  refine (walk v0 zs0 w0 v1 zs1 w1).mono fun e W' ⟨he, hb⟩ => ?_
  subst he
  exact ⟨_, rfl, post_law laidOut (by kernel_rfl) (by kernel_rfl) Try.underlying4 rfl hW' rfl hb⟩

theorem closed : joinedFacts Try.pinned.checked.prog 16 Try.f16 Rows.fnExactCommonTonesSpec Rows.fnExactCommonTonesRow = true := by
  unfold joinedFacts
  rw [may, lifts, made]
  kernel_rfl
theorem over : Rows.fnExactCommonTonesRow.holds Try.pinned (OpenSpec.ofChange Rows.fnExactCommonTonesSpec) :=
  OpenClaim.holds_of_wide 16 Try.f16 rfl rfl rfl rfl rfl rfl rfl ⟨rfl, rfl, rfl, rfl, rfl⟩ rfl rfl rfl rfl rfl (by kernel_rfl) Try.func16 closed
    (of_decide_eq_true (by kernel_rfl)) (by unfold Func.isWrapper; first | (rw [if_pos (by decide +kernel)]; kernel_rfl) | (rw [if_neg (by decide +kernel)]; exact ⟨rfl, rfl⟩))
    (fun os started H enc _ => lifted os started H enc)

theorem proved : Rows.FnExactCommonTonesSaid := over
#print axioms proved
end Go.Proofs.Ytfoikipacnmgkaa.fnExactCommonTones
