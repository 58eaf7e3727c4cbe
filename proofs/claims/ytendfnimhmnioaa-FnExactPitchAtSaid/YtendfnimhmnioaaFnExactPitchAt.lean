/- 'laws.FnExactPitchAt' returns true at every input: PitchAt on both sides is one function. -/
import Derived.Test.YtendfnimhmnioaaNe6
import Derived.Test.YtendfnimhmnioaaNi8
namespace Go.Proofs.Ytendfnimhmnioaa.fnExactPitchAt
open Go.ChangeShapes Go.WideShapes Go.ChangeAt Go.RowKit
set_option linter.unusedVariables false
set_option linter.unusedSimpArgs false
set_option maxRecDepth 100000

set_option maxHeartbeats 4000000 in
theorem walk (v0 : Value) (l0 : List (Int × Int)) {w : World} (w0 : PrsAt w v0 l0 ∧ l0.length ≤ 9223372036854775807 ∧ WfN l0) (a1 : Int) (w1 : (Lit.int .i64 a1).wf = true) :
    Calls Try.prog 11 #[v0, .int .i64 a1] w fun e w' => e = .returned (.bool true) ∧ Below w.heap.size w w' := by
  obtain ⟨hi0, hmax0, hwf0⟩ := w0
  obtain ⟨A0, c0, rfl⟩ := prs_len hi0
  have HW0 := Bx.mk hwf0
  clear hwf0
  have HI0 := Bx.mk hi0
  clear hi0
  have B0 : Bx (Below w.heap.size w w) := Bx.mk (Below.refl _ _)
  go_enter Try.func11, Try.ntmps11
  go_wp2_with (fail)
  refine (sz_prs _ l0 1048576 _ (HI0.out.below B0.out) (by decide) hmax0).mono ?_
  rintro e1 q1 ⟨rfl, hd⟩
  have hb := below_eq hd
  clear hd
  by_cases hs0 : 1048576 < (l0.length : Int)
  · rw [show szN l0.length 1048576 = -1 from if_pos hs0]
    have BZ := Bx.mk (B0.out.trans (hb.mono B0.out.size))
    clear hb B0
    go_wp2_with (fail)
    go_ret
    exact ⟨rfl, BZ.out⟩
  rw [show szN l0.length 1048576 = 1048576 - l0.length from if_neg hs0]
  have hn0 : l0.length ≤ 1048576 := by omega
  obtain ⟨z0, ez0, hz0⟩ : ∃ z : Int, z = 1048576 - (l0.length : Int) ∧ (0 ≤ z ∧ z ≤ 1048576) := ⟨_, rfl, by omega⟩
  rw [← ez0]
  have hd0 : decide (z0 < 0) = false := decide_eq_false (by omega)
  clear ez0 hs0
  have B1 : Bx (Below w.heap.size w q1) := Bx.mk (B0.out.trans (hb.mono B0.out.size))
  have SZ1 : Bx (w.heap.size ≤ q1.heap.size) := Bx.mk hb.size
  clear hb
  go_wp2_with (fail)
  have hs : ∀ u0 W, PrsAt W u0 l0 → Calls Try.prog 40 #[u0, .int .i64 a1] W (fun e w' => e = .returned (.tuple #[.int .i64 (pitAtE l0 a1).1, .int .i64 (pitAtE l0 a1).2]) ∧ Below W.heap.size W w') := fun u0 W h0 => spec_pitchat u0 l0 a1 W h0 hn0
  have hi : ∀ u0 W, PrsAt W u0 l0 → Calls Try.prog 41 #[u0, .int .i64 a1] W (fun e w' => e = .returned (.tuple #[.int .i64 (pitAtE l0 a1).1, .int .i64 (pitAtE l0 a1).2]) ∧ Below W.heap.size W w') := fun u0 W h0 => impl_pitchat u0 l0 a1 W h0 hn0
  generalize (pitAtE l0 a1).1 = r1 at hs hi
  generalize (pitAtE l0 a1).2 = r2 at hs hi
  refine (copy_prs _ l0 q1 (HI0.out.below B1.out) (by omega)).mono ?_
  rintro e2 q2 ⟨va0, rfl, ho, hb⟩
  have B2 : Bx (Below w.heap.size w q2) := Bx.mk (B1.out.trans (hb.mono B1.out.size))
  have SZ2 : Bx (q1.heap.size ≤ q2.heap.size) := Bx.mk hb.size
  have Oa0_2 := Bx.mk ho
  have Ua0 := Bx.mk (own_hi ho)
  clear ho
  clear hb
  go_wp2_with (fail)
  refine (hs _ _ (prs_own Oa0_2.out)).mono ?_
  rintro e3 q3 ⟨rfl, hb⟩
  have B3 : Bx (Below w.heap.size w q3) := Bx.mk (B2.out.trans (hb.mono B2.out.size))
  have SZ3 : Bx (q2.heap.size ≤ q3.heap.size) := Bx.mk hb.size
  have Oa0_3 := Bx.mk (own_below Oa0_2.out hb)
  clear Oa0_2
  clear hb
  go_wp2_with (fail)
  refine (copy_prs _ l0 q3 (HI0.out.below B3.out) (by omega)).mono ?_
  rintro e4 q4 ⟨vb0, rfl, ho, hb⟩
  have B4 : Bx (Below w.heap.size w q4) := Bx.mk (B3.out.trans (hb.mono B3.out.size))
  have SZ4 : Bx (q3.heap.size ≤ q4.heap.size) := Bx.mk hb.size
  have Oa0_4 := Bx.mk (own_below Oa0_3.out hb)
  clear Oa0_3
  have Ob0_4 := Bx.mk ho
  have Ub0 := Bx.mk (own_hi ho)
  clear ho
  clear hb
  go_wp2_with (fail)
  refine (hi _ _ (prs_own Ob0_4.out)).mono ?_
  rintro e5 q5 ⟨rfl, hb⟩
  have B5 : Bx (Below w.heap.size w q5) := Bx.mk (B4.out.trans (hb.mono B4.out.size))
  have SZ5 : Bx (q4.heap.size ≤ q5.heap.size) := Bx.mk hb.size
  have Oa0_5 := Bx.mk (own_below Oa0_4.out hb)
  have Ob0_5 := Bx.mk (own_below Ob0_4.out hb)
  clear Oa0_4 Ob0_4
  clear hb
  go_wp2_with (fail)
  refine (copy_prs _ l0 q5 (HI0.out.below B5.out) (by omega)).mono ?_
  rintro e6 q6 ⟨vc0, rfl, ho, hb⟩
  have B6 : Bx (Below w.heap.size w q6) := Bx.mk (B5.out.trans (hb.mono B5.out.size))
  have SZ6 : Bx (q5.heap.size ≤ q6.heap.size) := Bx.mk hb.size
  have Oa0_6 := Bx.mk (own_below Oa0_5.out hb)
  have Ob0_6 := Bx.mk (own_below Ob0_5.out hb)
  clear Oa0_5 Ob0_5
  have Oc0_6 := Bx.mk ho
  have Uc0 := Bx.mk (own_hi ho)
  clear ho
  clear hb
  go_wp2_with (fail)
  refine (eq_prs_same _ _ l0 _ (prs_own Ob0_6.out) (prs_own Oc0_6.out) (by omega)).mono ?_
  rintro e7 q7 ⟨rfl, hb⟩
  have B7 : Bx (Below w.heap.size w q7) := Bx.mk (B6.out.trans (hb.mono B6.out.size))
  have SZ7 : Bx (q6.heap.size ≤ q7.heap.size) := Bx.mk hb.size
  have Oa0_7 := Bx.mk (own_below Oa0_6.out hb)
  have Ob0_7 := Bx.mk (own_below Ob0_6.out hb)
  have Oc0_7 := Bx.mk (own_below Oc0_6.out hb)
  clear Oa0_6 Ob0_6 Oc0_6
  clear hb
  go_wp2_with (fail)
  go_ret
  exact ⟨rfl, B7.out⟩

theorem own : ownKnob Try.prog.godebug = none := by kernel_rfl
theorem laidOut : laidOutB Try.prog = true := by kernel_rfl

set_option maxRecDepth 100000 in
theorem lifted (os : Os) (started : os.Started) (H : Type) (enc : TypeId × Value → H) :
    ReturnsInHanded {} Try.checked os 11 .any (Rows.fnExactPitchAtSpec.pre6 enc Try.prog Try.f11 Rows.fnExactPitchAtRow.domain false) (Rows.fnExactPitchAtSpec.post enc Try.prog Try.f11 false true false false) := by
  refine returnsInHanded_of_change (C := Try.checked) own started (by kernel_rfl) Try.func11
    (ChangeSpec.witness6 (enc := enc) (C := Try.checked) false ⟨#[], #[.slice none 0 0, .int .i64 0], []⟩ 8 (by kernel_rfl) (by kernel_rfl) (by kernel_rfl) (by kernel_rfl)) ?_
  intro W base args ds gs before hval0 hW hcnd _
  have hval : ∀ (j : Nat) t v, Try.f11.params[j]? = some t → args[j]? = some v → Value.okWide Try.prog W .any base t v := hval0
  have hW' := hW
  obtain ⟨p, q, hA0, hV, rfl, hfz, hnd⟩ := hW
  have hA : DataW.TrodAll enc Try.prog W 0 (fun _ => true) true Try.f11.params.toList args.toList ds p := hA0
  rw [Try.params11] at hA hval
  obtain ⟨v0, vs0, d0, ds0, p0, q0, hargs, rfl, rfl, h0, r0⟩ := trodAll_cons hA
  obtain ⟨v1, vs1, d1, ds1, p1, q1, rfl, rfl, rfl, h1, r1⟩ := trodAll_cons r0
  obtain ⟨rfl, rfl, rfl⟩ := trodAll_nil r1
  obtain rfl : args = #[v0, v1] := by cases args; simp_all
  obtain ⟨rfl, rfl⟩ := trodVars_none hV
  obtain ⟨l0, w0⟩ := arg_nts (hval 0 36 v0 rfl rfl) h0
  obtain ⟨a1, rfl, rfl, rfl, w1⟩ := open_int Try.underlying2 (hval 1 2 v1 rfl rfl) h1
  clear hA0 hval0
  refine (walk v0 l0 w0 a1 w1).mono fun e W' ⟨he, hb⟩ => ?_
  subst he
  exact ⟨_, rfl, post_law laidOut (by kernel_rfl) (by kernel_rfl) Try.underlying4 rfl hW' rfl hb⟩

theorem closed : joinedFacts Try.pinned.checked.prog 11 Try.f11 Rows.fnExactPitchAtSpec Rows.fnExactPitchAtRow = true := by
  unfold joinedFacts
  rw [may, lifts, made]
  kernel_rfl
theorem over : Rows.fnExactPitchAtRow.holds Try.pinned (OpenSpec.ofChange Rows.fnExactPitchAtSpec) :=
  OpenClaim.holds_of_wide 11 Try.f11 rfl rfl rfl rfl rfl rfl rfl ⟨rfl, rfl, rfl, rfl, rfl⟩ rfl rfl rfl rfl rfl (by kernel_rfl) Try.func11 closed
    (of_decide_eq_true (by kernel_rfl)) (by unfold Func.isWrapper; first | (rw [if_pos (by decide +kernel)]; kernel_rfl) | (rw [if_neg (by decide +kernel)]; exact ⟨rfl, rfl⟩))
    (fun os started H enc _ => lifted os started H enc)

theorem proved : Rows.FnExactPitchAtSaid := over
#print axioms proved
end Go.Proofs.Ytendfnimhmnioaa.fnExactPitchAt
