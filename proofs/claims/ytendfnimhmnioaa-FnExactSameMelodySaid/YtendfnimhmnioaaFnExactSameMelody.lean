/- 'laws.FnExactSameMelody' returns true at every input: SameMelody on both sides is one function. -/
import Derived.Test.YtendfnimhmnioaaNe2
import Derived.Test.YtendfnimhmnioaaNi2
namespace Go.Proofs.Ytendfnimhmnioaa.fnExactSameMelody
open Go.ChangeShapes Go.WideShapes Go.ChangeAt Go.RowKit
set_option linter.unusedVariables false
set_option linter.unusedSimpArgs false
set_option maxRecDepth 100000

set_option maxHeartbeats 4000000 in
theorem walk (v0 : Value) (l0 : List (Int × Int)) {w : World} (w0 : PrsAt w v0 l0 ∧ l0.length ≤ 9223372036854775807 ∧ WfN l0) (v1 : Value) (l1 : List (Int × Int)) (w1 : PrsAt w v1 l1 ∧ l1.length ≤ 9223372036854775807 ∧ WfN l1) :
    Calls Try.prog 6 #[v0, v1] w fun e w' => e = .returned (.bool true) ∧ Below w.heap.size w w' := by
  obtain ⟨hi0, hmax0, hwf0⟩ := w0
  obtain ⟨A0, c0, rfl⟩ := prs_len hi0
  have HW0 := Bx.mk hwf0
  clear hwf0
  have HI0 := Bx.mk hi0
  clear hi0
  obtain ⟨hi1, hmax1, hwf1⟩ := w1
  obtain ⟨A1, c1, rfl⟩ := prs_len hi1
  have HW1 := Bx.mk hwf1
  clear hwf1
  have HI1 := Bx.mk hi1
  clear hi1
  have B0 : Bx (Below w.heap.size w w) := Bx.mk (Below.refl _ _)
  go_enter Try.func6, Try.ntmps6
  go_wp2_with (fail)
  refine (sz_prs _ l0 1048576 _ (HI0.out.below B0.out) (by decide) hmax0).mono ?_
  rintro e1 q1 ⟨rfl, hd⟩
  have hb := below_eq hd
  clear hd
  by_cases hs0 : 1048576 < (l0.length : Int)
  · rw [show szN l0.length 1048576 = -1 from if_pos hs0]
    have BZ := Bx.mk (B0.out.trans (hb.mono B0.out.size))
    clear hb B0
    go_wp2_with (fail)
    go_ret
    exact ⟨rfl, BZ.out⟩
  rw [show szN l0.length 1048576 = 1048576 - l0.length from if_neg hs0]
  have hn0 : l0.length ≤ 1048576 := by omega
  obtain ⟨z0, ez0, hz0⟩ : ∃ z : Int, z = 1048576 - (l0.length : Int) ∧ (0 ≤ z ∧ z ≤ 1048576) := ⟨_, rfl, by omega⟩
  rw [← ez0]
  have hd0 : decide (z0 < 0) = false := decide_eq_false (by omega)
  clear ez0 hs0
  have B1 : Bx (Below w.heap.size w q1) := Bx.mk (B0.out.trans (hb.mono B0.out.size))
  have SZ1 : Bx (w.heap.size ≤ q1.heap.size) := Bx.mk hb.size
  clear hb
  go_wp2_with (fail)
  refine (sz_prs _ l1 z0 _ (HI1.out.below B1.out) (by omega) hmax1).mono ?_
  rintro e2 q2 ⟨rfl, hd⟩
  have hb := below_eq hd
  clear hd
  by_cases hs1 : z0 < (l1.length : Int)
  · rw [show szN l1.length z0 = -1 from if_pos hs1]
    have BZ := Bx.mk (B1.out.trans (hb.mono B1.out.size))
    clear hb B1
    go_wp2_with (fail)
    go_ret
    exact ⟨rfl, BZ.out⟩
  rw [show szN l1.length z0 = z0 - l1.length from if_neg hs1]
  have hn1 : l1.length ≤ 1048576 := by omega
  obtain ⟨z1, ez1, hz1⟩ : ∃ z : Int, z = z0 - (l1.length : Int) ∧ (0 ≤ z ∧ z ≤ 1048576) := ⟨_, rfl, by omega⟩
  rw [← ez1]
  have hd1 : decide (z1 < 0) = false := decide_eq_false (by omega)
  clear ez1 hs1
  have B2 : Bx (Below w.heap.size w q2) := Bx.mk (B1.out.trans (hb.mono B1.out.size))
  have SZ2 : Bx (q1.heap.size ≤ q2.heap.size) := Bx.mk hb.size
  clear hb
  go_wp2_with (fail)
  have hs : ∀ u0 u1 W, PrsAt W u0 l0 → PrsAt W u1 l1 → Calls Try.prog 29 #[u0, u1] W (fun e w' => e = .returned (.bool (decide (l0 = l1))) ∧ Below W.heap.size W w') := fun u0 u1 W h0 h1 => spec_samemelody u0 u1 l0 l1 W h0 h1 hn0 hn1
  have hi : ∀ u0 u1 W, PrsAt W u0 l0 → PrsAt W u1 l1 → Calls Try.prog 30 #[u0, u1] W (fun e w' => e = .returned (.bool (decide (l0 = l1))) ∧ Below W.heap.size W w') := fun u0 u1 W h0 h1 => impl_samemelody u0 u1 l0 l1 W h0 h1 hn0 hn1
  generalize decide (l0 = l1) = r1 at hs hi
  refine (copy_prs _ l0 q2 (HI0.out.below B2.out) (by omega)).mono ?_
  rintro e3 q3 ⟨va0, rfl, ho, hb⟩
  have B3 : Bx (Below w.heap.size w q3) := Bx.mk (B2.out.trans (hb.mono B2.out.size))
  have SZ3 : Bx (q2.heap.size ≤ q3.heap.size) := Bx.mk hb.size
  have Oa0_3 := Bx.mk ho
  have Ua0 := Bx.mk (own_hi ho)
  clear ho
  clear hb
  go_wp2_with (fail)
  refine (copy_prs _ l1 q3 (HI1.out.below B3.out) (by omega)).mono ?_
  rintro e4 q4 ⟨va1, rfl, ho, hb⟩
  have B4 : Bx (Below w.heap.size w q4) := Bx.mk (B3.out.trans (hb.mono B3.out.size))
  have SZ4 : Bx (q3.heap.size ≤ q4.heap.size) := Bx.mk hb.size
  have Oa0_4 := Bx.mk (own_below Oa0_3.out hb)
  clear Oa0_3
  have Oa1_4 := Bx.mk ho
  have Ua1 := Bx.mk (own_hi ho)
  clear ho
  clear hb
  go_wp2_with (fail)
  refine (hs _ _ _ (prs_own Oa0_4.out) (prs_own Oa1_4.out)).mono ?_
  rintro e5 q5 ⟨rfl, hb⟩
  have B5 : Bx (Below w.heap.size w q5) := Bx.mk (B4.out.trans (hb.mono B4.out.size))
  have SZ5 : Bx (q4.heap.size ≤ q5.heap.size) := Bx.mk hb.size
  have Oa0_5 := Bx.mk (own_below Oa0_4.out hb)
  have Oa1_5 := Bx.mk (own_below Oa1_4.out hb)
  clear Oa0_4 Oa1_4
  clear hb
  go_wp2_with (fail)
  refine (copy_prs _ l0 q5 (HI0.out.below B5.out) (by omega)).mono ?_
  rintro e6 q6 ⟨vb0, rfl, ho, hb⟩
  have B6 : Bx (Below w.heap.size w q6) := Bx.mk (B5.out.trans (hb.mono B5.out.size))
  have SZ6 : Bx (q5.heap.size ≤ q6.heap.size) := Bx.mk hb.size
  have Oa0_6 := Bx.mk (own_below Oa0_5.out hb)
  have Oa1_6 := Bx.mk (own_below Oa1_5.out hb)
  clear Oa0_5 Oa1_5
  have Ob0_6 := Bx.mk ho
  have Ub0 := Bx.mk (own_hi ho)
  clear ho
  clear hb
  go_wp2_with (fail)
  refine (copy_prs _ l1 q6 (HI1.out.below B6.out) (by omega)).mono ?_
  rintro e7 q7 ⟨vb1, rfl, ho, hb⟩
  have B7 : Bx (Below w.heap.size w q7) := Bx.mk (B6.out.trans (hb.mono B6.out.size))
  have SZ7 : Bx (q6.heap.size ≤ q7.heap.size) := Bx.mk hb.size
  have Oa0_7 := Bx.mk (own_below Oa0_6.out hb)
  have Oa1_7 := Bx.mk (own_below Oa1_6.out hb)
  have Ob0_7 := Bx.mk (own_below Ob0_6.out hb)
  clear Oa0_6 Oa1_6 Ob0_6
  have Ob1_7 := Bx.mk ho
  have Ub1 := Bx.mk (own_hi ho)
  clear ho
  clear hb
  go_wp2_with (fail)
  refine (hi _ _ _ (prs_own Ob0_7.out) (prs_own Ob1_7.out)).mono ?_
  rintro e8 q8 ⟨rfl, hb⟩
  have B8 : Bx (Below w.heap.size w q8) := Bx.mk (B7.out.trans (hb.mono B7.out.size))
  have SZ8 : Bx (q7.heap.size ≤ q8.heap.size) := Bx.mk hb.size
  have Oa0_8 := Bx.mk (own_below Oa0_7.out hb)
  have Oa1_8 := Bx.mk (own_below Oa1_7.out hb)
  have Ob0_8 := Bx.mk (own_below Ob0_7.out hb)
  have Ob1_8 := Bx.mk (own_below Ob1_7.out hb)
  clear Oa0_7 Oa1_7 Ob0_7 Ob1_7
  clear hb
  go_wp2_with (fail)
  refine (copy_prs _ l0 q8 (HI0.out.below B8.out) (by omega)).mono ?_
  rintro e9 q9 ⟨vc0, rfl, ho, hb⟩
  have B9 : Bx (Below w.heap.size w q9) := Bx.mk (B8.out.trans (hb.mono B8.out.size))
  have SZ9 : Bx (q8.heap.size ≤ q9.heap.size) := Bx.mk hb.size
  have Oa0_9 := Bx.mk (own_below Oa0_8.out hb)
  have Oa1_9 := Bx.mk (own_below Oa1_8.out hb)
  have Ob0_9 := Bx.mk (own_below Ob0_8.out hb)
  have Ob1_9 := Bx.mk (own_below Ob1_8.out hb)
  clear Oa0_8 Oa1_8 Ob0_8 Ob1_8
  have Oc0_9 := Bx.mk ho
  have Uc0 := Bx.mk (own_hi ho)
  clear ho
  clear hb
  go_wp2_with (fail)
  refine (eq_prs_same _ _ l0 _ (prs_own Ob0_9.out) (prs_own Oc0_9.out) (by omega)).mono ?_
  rintro e10 q10 ⟨rfl, hb⟩
  have B10 : Bx (Below w.heap.size w q10) := Bx.mk (B9.out.trans (hb.mono B9.out.size))
  have SZ10 : Bx (q9.heap.size ≤ q10.heap.size) := Bx.mk hb.size
  have Oa0_10 := Bx.mk (own_below Oa0_9.out hb)
  have Oa1_10 := Bx.mk (own_below Oa1_9.out hb)
  have Ob0_10 := Bx.mk (own_below Ob0_9.out hb)
  have Ob1_10 := Bx.mk (own_below Ob1_9.out hb)
  have Oc0_10 := Bx.mk (own_below Oc0_9.out hb)
  clear Oa0_9 Oa1_9 Ob0_9 Ob1_9 Oc0_9
  clear hb
  go_wp2_with (fail)
  refine (copy_prs _ l1 q10 (HI1.out.below B10.out) (by omega)).mono ?_
  rintro e11 q11 ⟨vc1, rfl, ho, hb⟩
  have B11 : Bx (Below w.heap.size w q11) := Bx.mk (B10.out.trans (hb.mono B10.out.size))
  have SZ11 : Bx (q10.heap.size ≤ q11.heap.size) := Bx.mk hb.size
  have Oa0_11 := Bx.mk (own_below Oa0_10.out hb)
  have Oa1_11 := Bx.mk (own_below Oa1_10.out hb)
  have Ob0_11 := Bx.mk (own_below Ob0_10.out hb)
  have Ob1_11 := Bx.mk (own_below Ob1_10.out hb)
  have Oc0_11 := Bx.mk (own_below Oc0_10.out hb)
  clear Oa0_10 Oa1_10 Ob0_10 Ob1_10 Oc0_10
  have Oc1_11 := Bx.mk ho
  have Uc1 := Bx.mk (own_hi ho)
  clear ho
  clear hb
  go_wp2_with (fail)
  refine (eq_prs_same _ _ l1 _ (prs_own Ob1_11.out) (prs_own Oc1_11.out) (by omega)).mono ?_
  rintro e12 q12 ⟨rfl, hb⟩
  have B12 : Bx (Below w.heap.size w q12) := Bx.mk (B11.out.trans (hb.mono B11.out.size))
  have SZ12 : Bx (q11.heap.size ≤ q12.heap.size) := Bx.mk hb.size
  have Oa0_12 := Bx.mk (own_below Oa0_11.out hb)
  have Oa1_12 := Bx.mk (own_below Oa1_11.out hb)
  have Ob0_12 := Bx.mk (own_below Ob0_11.out hb)
  have Ob1_12 := Bx.mk (own_below Ob1_11.out hb)
  have Oc0_12 := Bx.mk (own_below Oc0_11.out hb)
  have Oc1_12 := Bx.mk (own_below Oc1_11.out hb)
  clear Oa0_11 Oa1_11 Ob0_11 Ob1_11 Oc0_11 Oc1_11
  clear hb
  go_wp2_with (fail)
  go_ret
  exact ⟨rfl, B12.out⟩

theorem own : ownKnob Try.prog.godebug = none := by kernel_rfl
theorem laidOut : laidOutB Try.prog = true := by kernel_rfl

set_option maxRecDepth 100000 in
theorem lifted (os : Os) (started : os.Started) (H : Type) (enc : TypeId × Value → H) :
    ReturnsInHanded {} Try.checked os 6 .any (Rows.fnExactSameMelodySpec.pre6 enc Try.prog Try.f6 Rows.fnExactSameMelodyRow.domain false) (Rows.fnExactSameMelodySpec.post enc Try.prog Try.f6 false true false false) := by
  refine returnsInHanded_of_change (C := Try.checked) own started (by kernel_rfl) Try.func6
    (ChangeSpec.witness6 (enc := enc) (C := Try.checked) false ⟨#[], #[.slice none 0 0, .slice none 0 0], []⟩ 8 (by kernel_rfl) (by kernel_rfl) (by kernel_rfl) (by kernel_rfl)) ?_
  intro W base args ds gs before hval0 hW hcnd _
  have hval : ∀ (j : Nat) t v, Try.f6.params[j]? = some t → args[j]? = some v → Value.okWide Try.prog W .any base t v := hval0
  have hW' := hW
  obtain ⟨p, q, hA0, hV, rfl, hfz, hnd⟩ := hW
  have hA : DataW.TrodAll enc Try.prog W 0 (fun _ => true) true Try.f6.params.toList args.toList ds p := hA0
  rw [Try.params6] at hA hval
  obtain ⟨v0, vs0, d0, ds0, p0, q0, hargs, rfl, rfl, h0, r0⟩ := trodAll_cons hA
  obtain ⟨v1, vs1, d1, ds1, p1, q1, rfl, rfl, rfl, h1, r1⟩ := trodAll_cons r0
  obtain ⟨rfl, rfl, rfl⟩ := trodAll_nil r1
  obtain rfl : args = #[v0, v1] := by cases args; simp_all
  obtain ⟨rfl, rfl⟩ := trodVars_none hV
  obtain ⟨l0, w0⟩ := arg_nts (hval 0 36 v0 rfl rfl) h0
  obtain ⟨l1, w1⟩ := arg_nts (hval 1 36 v1 rfl rfl) h1
  clear hA0 hval0
  refine (walk v0 l0 w0 v1 l1 w1).mono fun e W' ⟨he, hb⟩ => ?_
  subst he
  exact ⟨_, rfl, post_law laidOut (by kernel_rfl) (by kernel_rfl) Try.underlying4 rfl hW' rfl hb⟩

theorem closed : joinedFacts Try.pinned.checked.prog 6 Try.f6 Rows.fnExactSameMelodySpec Rows.fnExactSameMelodyRow = true := by
  unfold joinedFacts
  rw [may, lifts, made]
  kernel_rfl
theorem over : Rows.fnExactSameMelodyRow.holds Try.pinned (OpenSpec.ofChange Rows.fnExactSameMelodySpec) :=
  OpenClaim.holds_of_wide 6 Try.f6 rfl rfl rfl rfl rfl rfl rfl ⟨rfl, rfl, rfl, rfl, rfl⟩ rfl rfl rfl rfl rfl (by kernel_rfl) Try.func6 closed
    (of_decide_eq_true (by kernel_rfl)) (by unfold Func.isWrapper; first | (rw [if_pos (by decide +kernel)]; kernel_rfl) | (rw [if_neg (by decide +kernel)]; exact ⟨rfl, rfl⟩))
    (fun os started H enc _ => lifted os started H enc)

theorem proved : Rows.FnExactSameMelodySaid := over
#print axioms proved
end Go.Proofs.Ytendfnimhmnioaa.fnExactSameMelody
