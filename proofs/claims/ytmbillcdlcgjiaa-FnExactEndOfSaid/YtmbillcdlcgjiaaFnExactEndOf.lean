/- 'laws.FnExactEndOf' returns true at every input: EndOf on both sides is one function. -/
import Derived.Test.YtmbillcdlcgjiaaHk2
import Derived.Test.YtmbillcdlcgjiaaLaw
namespace Go.Proofs.Ytmbillcdlcgjiaa.fnExactEndOf
open Go.ChangeShapes Go.WideShapes Go.ChangeAt Go.RowKit
set_option linter.unusedVariables false
set_option linter.unusedSimpArgs false
set_option maxRecDepth 100000

set_option maxHeartbeats 4000000 in
theorem walk (v0 : Value) (l0 : List It) {w : World} (w0 : ItsAt w v0 l0 ∧ l0.length ≤ 9223372036854775807 ∧ ∀ k, k < l0.length → WfI (iat l0 k)) (v1 : Value) (zs1 : List Int) (w1 : IntsAt w v1 zs1 ∧ zs1.length ≤ 9223372036854775807) (a2 : Int) (w2 : (Lit.int .i64 a2).wf = true) (a3 : Int) (w3 : (Lit.int .i64 a3).wf = true) :
    Calls Try.prog 11 #[v0, v1, .int .i64 a2, .int .i64 a3] w fun e w' => e = .returned (.bool true) ∧ Below w.heap.size w w' := by
  obtain ⟨hi0, hmax0, hwf0⟩ := w0
  obtain ⟨A0, c0, rfl⟩ := its_len hi0
  have HW0 := Bx.mk hwf0
  clear hwf0
  have HI0 := Bx.mk hi0
  clear hi0
  obtain ⟨hi1, hmax1⟩ := w1
  obtain ⟨A1, c1, rfl⟩ := len_ofI hi1
  have HI1 := Bx.mk hi1
  clear hi1
  have B0 : Bx (Below w.heap.size w w) := Bx.mk (Below.refl _ _)
  by_cases hb1 : 1048576 < zs1.length
  · go_enter Try.func11, Try.ntmps11
    go_wp2_with (fail)
    go_ret
    exact ⟨rfl, Below.refl _ _⟩
  have hz1 : zs1.length ≤ 1048576 := by omega
  go_enter Try.func11, Try.ntmps11
  go_wp2_with (fail)
  refine (sz_its _ l0 1048576 _ (HI0.out.below B0.out) (by decide) hmax0 HW0.out).mono ?_
  rintro e1 q1 ⟨z0, rfl, hz0, hb⟩
  rcases hz0 with rfl | ⟨hy0, hx0, SM0⟩
  · have BZ := Bx.mk (B0.out.trans (hb.mono B0.out.size))
    clear hb B0
    go_wp2_with (fail)
    go_ret
    exact ⟨rfl, BZ.out⟩
  have SM0 := Bx.mk SM0
  have hd0 : decide (z0 < 0) = false := decide_eq_false (by omega)
  have B1 : Bx (Below w.heap.size w q1) := Bx.mk (B0.out.trans (hb.mono B0.out.size))
  have SZ1 : Bx (w.heap.size ≤ q1.heap.size) := Bx.mk hb.size
  clear hb
  go_wp2_with (fail)
  have hs : ∀ u0 u1 W, ItsAt W u0 l0 → IntC W u1 zs1 → Calls Try.prog 46 #[u0, u1, .int .i64 a2, .int .i64 a3] W (fun e w' => e = .returned (.tuple #[.int .i64 (endE l0 zs1 a2 a3).1, .int .i64 (endE l0 zs1 a2 a3).2]) ∧ Below W.heap.size W w') := fun u0 u1 W h0 h1 => spec_endof u0 u1 l0 zs1 a2 a3 W h0 h1 SM0.out (by omega)
  have hi : ∀ u0 u1 W, ItsAt W u0 l0 → IntC W u1 zs1 → Calls Try.prog 47 #[u0, u1, .int .i64 a2, .int .i64 a3] W (fun e w' => e = .returned (.tuple #[.int .i64 (endE l0 zs1 a2 a3).1, .int .i64 (endE l0 zs1 a2 a3).2]) ∧ Below W.heap.size W w') := fun u0 u1 W h0 h1 => impl_endof u0 u1 l0 zs1 a2 a3 W h0 h1 SM0.out (by omega)
  generalize (endE l0 zs1 a2 a3).1 = r1 at hs hi
  generalize (endE l0 zs1 a2 a3).2 = r2 at hs hi
  refine (copy_its _ l0 q1 (HI0.out.below B1.out) SM0.out.n).mono ?_
  rintro e2 q2 ⟨va0, rfl, ho, hb⟩
  have B2 : Bx (Below w.heap.size w q2) := Bx.mk (B1.out.trans (hb.mono B1.out.size))
  have SZ2 : Bx (q1.heap.size ≤ q2.heap.size) := Bx.mk hb.size
  have Oa0_2 := Bx.mk ho
  have Ua0 := Bx.mk (own_hi ho)
  clear ho
  clear hb
  go_wp2_with (fail)
  refine (copy_ints _ zs1 q2 (HI1.out.below B2.out) (by omega)).mono ?_
  rintro e3 q3 ⟨va1, rfl, ho, hb⟩
  have B3 : Bx (Below w.heap.size w q3) := Bx.mk (B2.out.trans (hb.mono B2.out.size))
  have SZ3 : Bx (q2.heap.size ≤ q3.heap.size) := Bx.mk hb.size
  have Oa0_3 := Bx.mk (own_below Oa0_2.out hb)
  clear Oa0_2
  have Oa1_3 := Bx.mk ho
  have Ua1 := Bx.mk (own_hi ho)
  clear ho
  clear hb
  go_wp2_with (fail)
  refine (hs _ _ _ (ItsAt.own Oa0_3.out) (IntC.own Oa1_3.out)).mono ?_
  rintro e4 q4 ⟨rfl, hb⟩
  have B4 : Bx (Below w.heap.size w q4) := Bx.mk (B3.out.trans (hb.mono B3.out.size))
  have SZ4 : Bx (q3.heap.size ≤ q4.heap.size) := Bx.mk hb.size
  have Oa0_4 := Bx.mk (own_below Oa0_3.out hb)
  have Oa1_4 := Bx.mk (own_below Oa1_3.out hb)
  clear Oa0_3 Oa1_3
  clear hb
  go_wp2_with (fail)
  refine (copy_its _ l0 q4 (HI0.out.below B4.out) SM0.out.n).mono ?_
  rintro e5 q5 ⟨vb0, rfl, ho, hb⟩
  have B5 : Bx (Below w.heap.size w q5) := Bx.mk (B4.out.trans (hb.mono B4.out.size))
  have SZ5 : Bx (q4.heap.size ≤ q5.heap.size) := Bx.mk hb.size
  have Oa0_5 := Bx.mk (own_below Oa0_4.out hb)
  have Oa1_5 := Bx.mk (own_below Oa1_4.out hb)
  clear Oa0_4 Oa1_4
  have Ob0_5 := Bx.mk ho
  have Ub0 := Bx.mk (own_hi ho)
  clear ho
  clear hb
  go_wp2_with (fail)
  refine (copy_ints _ zs1 q5 (HI1.out.below B5.out) (by omega)).mono ?_
  rintro e6 q6 ⟨vb1, rfl, ho, hb⟩
  have B6 : Bx (Below w.heap.size w q6) := Bx.mk (B5.out.trans (hb.mono B5.out.size))
  have SZ6 : Bx (q5.heap.size ≤ q6.heap.size) := Bx.mk hb.size
  have Oa0_6 := Bx.mk (own_below Oa0_5.out hb)
  have Oa1_6 := Bx.mk (own_below Oa1_5.out hb)
  have Ob0_6 := Bx.mk (own_below Ob0_5.out hb)
  clear Oa0_5 Oa1_5 Ob0_5
  have Ob1_6 := Bx.mk ho
  have Ub1 := Bx.mk (own_hi ho)
  clear ho
  clear hb
  go_wp2_with (fail)
  refine (hi _ _ _ (ItsAt.own Ob0_6.out) (IntC.own Ob1_6.out)).mono ?_
  rintro e7 q7 ⟨rfl, hb⟩
  have B7 : Bx (Below w.heap.size w q7) := Bx.mk (B6.out.trans (hb.mono B6.out.size))
  have SZ7 : Bx (q6.heap.size ≤ q7.heap.size) := Bx.mk hb.size
  have Oa0_7 := Bx.mk (own_below Oa0_6.out hb)
  have Oa1_7 := Bx.mk (own_below Oa1_6.out hb)
  have Ob0_7 := Bx.mk (own_below Ob0_6.out hb)
  have Ob1_7 := Bx.mk (own_below Ob1_6.out hb)
  clear Oa0_6 Oa1_6 Ob0_6 Ob1_6
  clear hb
  go_wp2_with (fail)
  refine (copy_its _ l0 q7 (HI0.out.below B7.out) SM0.out.n).mono ?_
  rintro e8 q8 ⟨vc0, rfl, ho, hb⟩
  have B8 : Bx (Below w.heap.size w q8) := Bx.mk (B7.out.trans (hb.mono B7.out.size))
  have SZ8 : Bx (q7.heap.size ≤ q8.heap.size) := Bx.mk hb.size
  have Oa0_8 := Bx.mk (own_below Oa0_7.out hb)
  have Oa1_8 := Bx.mk (own_below Oa1_7.out hb)
  have Ob0_8 := Bx.mk (own_below Ob0_7.out hb)
  have Ob1_8 := Bx.mk (own_below Ob1_7.out hb)
  clear Oa0_7 Oa1_7 Ob0_7 Ob1_7
  have Oc0_8 := Bx.mk ho
  have Uc0 := Bx.mk (own_hi ho)
  clear ho
  clear hb
  go_wp2_with (fail)
  refine (eq_its _ _ l0 _ (ItsAt.own Ob0_8.out) (ItsAt.own Oc0_8.out) (by have := SM0.out.n; omega)).mono ?_
  rintro e9 q9 ⟨rfl, hb⟩
  have B9 : Bx (Below w.heap.size w q9) := Bx.mk (B8.out.trans (hb.mono B8.out.size))
  have SZ9 : Bx (q8.heap.size ≤ q9.heap.size) := Bx.mk hb.size
  have Oa0_9 := Bx.mk (own_below Oa0_8.out hb)
  have Oa1_9 := Bx.mk (own_below Oa1_8.out hb)
  have Ob0_9 := Bx.mk (own_below Ob0_8.out hb)
  have Ob1_9 := Bx.mk (own_below Ob1_8.out hb)
  have Oc0_9 := Bx.mk (own_below Oc0_8.out hb)
  clear Oa0_8 Oa1_8 Ob0_8 Ob1_8 Oc0_8
  clear hb
  go_wp2_with (fail)
  refine (copy_ints _ zs1 q9 (HI1.out.below B9.out) (by omega)).mono ?_
  rintro e10 q10 ⟨vc1, rfl, ho, hb⟩
  have B10 : Bx (Below w.heap.size w q10) := Bx.mk (B9.out.trans (hb.mono B9.out.size))
  have SZ10 : Bx (q9.heap.size ≤ q10.heap.size) := Bx.mk hb.size
  have Oa0_10 := Bx.mk (own_below Oa0_9.out hb)
  have Oa1_10 := Bx.mk (own_below Oa1_9.out hb)
  have Ob0_10 := Bx.mk (own_below Ob0_9.out hb)
  have Ob1_10 := Bx.mk (own_below Ob1_9.out hb)
  have Oc0_10 := Bx.mk (own_below Oc0_9.out hb)
  clear Oa0_9 Oa1_9 Ob0_9 Ob1_9 Oc0_9
  have Oc1_10 := Bx.mk ho
  have Uc1 := Bx.mk (own_hi ho)
  clear ho
  clear hb
  go_wp2_with (fail)
  refine (eq_ints _ _ zs1 zs1 _ (IntsAt.own Ob1_10.out) (IntsAt.own Oc1_10.out) (by omega) (by omega)).mono ?_
  rintro e11 q11 ⟨rfl, hd⟩
  have hb := below_dr hd
  clear hd
  have B11 : Bx (Below w.heap.size w q11) := Bx.mk (B10.out.trans (hb.mono B10.out.size))
  have SZ11 : Bx (q10.heap.size ≤ q11.heap.size) := Bx.mk hb.size
  have Oa0_11 := Bx.mk (own_below Oa0_10.out hb)
  have Oa1_11 := Bx.mk (own_below Oa1_10.out hb)
  have Ob0_11 := Bx.mk (own_below Ob0_10.out hb)
  have Ob1_11 := Bx.mk (own_below Ob1_10.out hb)
  have Oc0_11 := Bx.mk (own_below Oc0_10.out hb)
  have Oc1_11 := Bx.mk (own_below Oc1_10.out hb)
  clear Oa0_10 Oa1_10 Ob0_10 Ob1_10 Oc0_10 Oc1_10
  clear hb
  go_wp2_with (fail)
  go_ret
  exact ⟨rfl, B11.out⟩

theorem own : ownKnob Try.prog.godebug = none := by kernel_rfl
theorem laidOut : laidOutB Try.prog = true := by kernel_rfl

set_option maxRecDepth 100000 in
theorem lifted (os : Os) (started : os.Started) (H : Type) (enc : TypeId × Value → H) :
    ReturnsInHanded {} Try.checked os 11 .any (Rows.fnExactEndOfSpec.pre6 enc Try.prog Try.f11 Rows.fnExactEndOfRow.domain false) (Rows.fnExactEndOfSpec.post enc Try.prog Try.f11 false true false false) := by
  refine returnsInHanded_of_change (C := Try.checked) own started (by kernel_rfl) Try.func11
    (ChangeSpec.witness6 (enc := enc) (C := Try.checked) false ⟨#[], #[.slice none 0 0, .slice none 0 0, .int .i64 0, .int .i64 0], []⟩ 8 (by kernel_rfl) (by kernel_rfl) (by kernel_rfl) (by kernel_rfl)) ?_
  intro W base args ds gs before hval0 hW hcnd _
  have hval : ∀ (j : Nat) t v, Try.f11.params[j]? = some t → args[j]? = some v → Value.okWide Try.prog W .any base t v := hval0
  have hW' := hW
  obtain ⟨p, q, hA0, hV, rfl, hfz, hnd⟩ := hW
  have hA : DataW.TrodAll enc Try.prog W 0 (fun _ => true) true Try.f11.params.toList args.toList ds p := hA0
  rw [Try.params11] at hA hval
  obtain ⟨v0, vs0, d0, ds0, p0, q0, hargs, rfl, rfl, h0, r0⟩ := trodAll_cons hA
  obtain ⟨v1, vs1, d1, ds1, p1, q1, rfl, rfl, rfl, h1, r1⟩ := trodAll_cons r0
  obtain ⟨v2, vs2, d2, ds2, p2, q2, rfl, rfl, rfl, h2, r2⟩ := trodAll_cons r1
  obtain ⟨v3, vs3, d3, ds3, p3, q3, rfl, rfl, rfl, h3, r3⟩ := trodAll_cons r2
  obtain ⟨rfl, rfl, rfl⟩ := trodAll_nil r3
  obtain rfl : args = #[v0, v1, v2, v3] := by cases args; simp_all
  obtain ⟨rfl, rfl⟩ := trodVars_none hV
  obtain ⟨l0, w0⟩ := arg_itsA (hval 0 51 v0 rfl rfl) h0
  obtain ⟨zs1, w1⟩ := arg_ints (hval 1 22 v1 rfl rfl) h1 (fun x hx => hW'.lt x (by simp [hx]))
  obtain ⟨a2, rfl, rfl, rfl, w2⟩ := open_int Try.underlying2 (hval 2 2 v2 rfl rfl) h2
  obtain ⟨a3, rfl, rfl, rfl, w3⟩ := open_int Try.underlying2 (hval 3 2 v3 rfl rfl) h3
  clear hA0 hval0
  refine (walk v0 l0 w0 v1 zs1 w1 a2 w2 a3 w3).mono fun e W' ⟨he, hb⟩ => ?_
  subst he
  exact ⟨_, rfl, post_law laidOut (by kernel_rfl) (by kernel_rfl) Try.underlying4 rfl hW' rfl hb⟩

theorem closed : joinedFacts Try.pinned.checked.prog 11 Try.f11 Rows.fnExactEndOfSpec Rows.fnExactEndOfRow = true := by
  unfold joinedFacts
  rw [may, lifts, made]
  kernel_rfl
theorem over : Rows.fnExactEndOfRow.holds Try.pinned (OpenSpec.ofChange Rows.fnExactEndOfSpec) :=
  OpenClaim.holds_of_wide 11 Try.f11 rfl rfl rfl rfl rfl rfl rfl ⟨rfl, rfl, rfl, rfl, rfl⟩ rfl rfl rfl rfl rfl (by kernel_rfl) Try.func11 closed
    (of_decide_eq_true (by kernel_rfl)) (by unfold Func.isWrapper; first | (rw [if_pos (by decide +kernel)]; kernel_rfl) | (rw [if_neg (by decide +kernel)]; exact ⟨rfl, rfl⟩))
    (fun os started H enc _ => lifted os started H enc)

theorem proved : Rows.FnExactEndOfSaid := over
#print axioms proved
end Go.Proofs.Ytmbillcdlcgjiaa.fnExactEndOf
