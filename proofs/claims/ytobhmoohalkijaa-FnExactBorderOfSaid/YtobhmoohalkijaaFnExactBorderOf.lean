/- 'laws.FnExactBorderOf' returns true at every input: BorderOf on both sides is one function. -/
import Derived.Test.YtobhmoohalkijaaPl
import Derived.Test.YtobhmoohalkijaaPi3
namespace Go.Proofs.Ytobhmoohalkijaa.fnExactBorderOf
open Go.ChangeShapes Go.WideShapes Go.ChangeAt Go.RowKit
set_option linter.unusedVariables false
set_option linter.unusedSimpArgs false
set_option maxRecDepth 100000

set_option maxHeartbeats 4000000 in
theorem walk (v0 : Value) (zs0 : List Int) {w : World} (w0 : IntsAt w v0 zs0 ∧ zs0.length ≤ 9223372036854775807) :
    Calls Try.prog 7 #[v0] w fun e w' => e = .returned (.bool true) ∧ Below w.heap.size w w' := by
  obtain ⟨hi0, hmax0⟩ := w0
  obtain ⟨A0, c0, rfl⟩ := len_of hi0
  by_cases hb0 : 1048576 < zs0.length
  · clear hi0
    go_enter Try.func7, Try.ntmps7
    go_wp2_with (fail)
    go_ret
    exact ⟨rfl, Below.refl _ _⟩
  · have hz0 : zs0.length ≤ 1048576 := by omega
    have HI0 := Bx.mk hi0
    clear hi0
    have B0 : Bx (Below w.heap.size w w) := Bx.mk (Below.refl _ _)
    have hs : ∀ u0 W b, W.ownsRow b 2 1 u0 zs0.length (ints zs0) → Calls Try.prog 31 #[u0] W (ValOut (.tuple #[.int .i64 (borderE zs0).1, .int .i64 (borderE zs0).2]) W) := fun u0 W b h0 => by
      have hi := IntsAt.own h0
      obtain ⟨A, c, rfl, hc⟩ := own_capN h0
      exact vout (spec_border A c zs0 W hi hc (by omega))
    have hi : ∀ u0 W, IntsAt W u0 zs0 → Calls Try.prog 32 #[u0] W (ValOut (.tuple #[.int .i64 (borderE zs0).1, .int .i64 (borderE zs0).2]) W) := fun u0 W h0 => vout (impl_border u0 zs0 W h0 (by omega))
    generalize (borderE zs0).1 = r1 at hs hi
    generalize (borderE zs0).2 = r2 at hs hi
    go_enter Try.func7, Try.ntmps7
    go_wp2_with (fail)
    refine (copy_ints _ zs0 w (HI0.out.below B0.out) (by omega)).mono ?_
    rintro e1 q1 ⟨va0, rfl, ho, hb⟩
    have B1 : Bx (Below w.heap.size w q1) := Bx.mk (B0.out.trans (hb.mono B0.out.size))
    have SZ1 : Bx (w.heap.size ≤ q1.heap.size) := Bx.mk hb.size
    have Oa0_1 := Bx.mk ho
    have Ua0 := Bx.mk (own_hi ho)
    clear ho
    clear hb
    go_wp2_with (fail)
    refine (hs _ _ _ (Oa0_1.out)).mono ?_
    rintro e2 q2 ⟨rfl, hb⟩
    have B2 : Bx (Below w.heap.size w q2) := Bx.mk (B1.out.trans (hb.mono B1.out.size))
    have SZ2 : Bx (q1.heap.size ≤ q2.heap.size) := Bx.mk hb.size
    have Oa0_2 := Bx.mk (own_below Oa0_1.out hb)
    clear Oa0_1
    clear hb
    go_wp2_with (fail)
    refine (copy_ints _ zs0 q2 (HI0.out.below B2.out) (by omega)).mono ?_
    rintro e3 q3 ⟨vb0, rfl, ho, hb⟩
    have B3 : Bx (Below w.heap.size w q3) := Bx.mk (B2.out.trans (hb.mono B2.out.size))
    have SZ3 : Bx (q2.heap.size ≤ q3.heap.size) := Bx.mk hb.size
    have Oa0_3 := Bx.mk (own_below Oa0_2.out hb)
    clear Oa0_2
    have Ob0_3 := Bx.mk ho
    have Ub0 := Bx.mk (own_hi ho)
    clear ho
    clear hb
    go_wp2_with (fail)
    refine (hi _ _ (IntsAt.own Ob0_3.out)).mono ?_
    rintro e4 q4 ⟨rfl, hb⟩
    have B4 : Bx (Below w.heap.size w q4) := Bx.mk (B3.out.trans (hb.mono B3.out.size))
    have SZ4 : Bx (q3.heap.size ≤ q4.heap.size) := Bx.mk hb.size
    have Oa0_4 := Bx.mk (own_below Oa0_3.out hb)
    have Ob0_4 := Bx.mk (own_below Ob0_3.out hb)
    clear Oa0_3 Ob0_3
    clear hb
    go_wp2_with (fail)
    refine (copy_ints _ zs0 q4 (HI0.out.below B4.out) (by omega)).mono ?_
    rintro e5 q5 ⟨vc0, rfl, ho, hb⟩
    have B5 : Bx (Below w.heap.size w q5) := Bx.mk (B4.out.trans (hb.mono B4.out.size))
    have SZ5 : Bx (q4.heap.size ≤ q5.heap.size) := Bx.mk hb.size
    have Oa0_5 := Bx.mk (own_below Oa0_4.out hb)
    have Ob0_5 := Bx.mk (own_below Ob0_4.out hb)
    clear Oa0_4 Ob0_4
    have Oc0_5 := Bx.mk ho
    have Uc0 := Bx.mk (own_hi ho)
    clear ho
    clear hb
    go_wp2_with (fail)
    refine (eq_ints _ _ zs0 zs0 _ (IntsAt.own Ob0_5.out) (IntsAt.own Oc0_5.out) (by omega) (by omega)).mono ?_
    rintro e6 q6 ⟨rfl, hd⟩
    have hb := below_dr hd
    clear hd
    have B6 : Bx (Below w.heap.size w q6) := Bx.mk (B5.out.trans (hb.mono B5.out.size))
    have SZ6 : Bx (q5.heap.size ≤ q6.heap.size) := Bx.mk hb.size
    have Oa0_6 := Bx.mk (own_below Oa0_5.out hb)
    have Ob0_6 := Bx.mk (own_below Ob0_5.out hb)
    have Oc0_6 := Bx.mk (own_below Oc0_5.out hb)
    clear Oa0_5 Ob0_5 Oc0_5
    clear hb
    go_wp2_with (fail)
    go_ret
    exact ⟨rfl, B6.out⟩

theorem own : ownKnob Try.prog.godebug = none := by kernel_rfl
theorem laidOut : laidOutB Try.prog = true := by kernel_rfl

set_option maxRecDepth 100000 in
theorem lifted (os : Os) (started : os.Started) (H : Type) (enc : TypeId × Value → H) :
    ReturnsInHanded {} Try.checked os 7 .any (Rows.fnExactBorderOfSpec.pre6 enc Try.prog Try.f7 Rows.fnExactBorderOfRow.domain false) (Rows.fnExactBorderOfSpec.post enc Try.prog Try.f7 false true false false) := by
  refine returnsInHanded_of_change (C := Try.checked) own started (by kernel_rfl) Try.func7
    (ChangeSpec.witness6 (enc := enc) (C := Try.checked) false ⟨#[], #[.slice none 0 0], []⟩ 8 (by kernel_rfl) (by kernel_rfl) (by kernel_rfl) (by kernel_rfl)) ?_
  intro W base args ds gs before hval0 hW hcnd _
  have hval : ∀ (j : Nat) t v, Try.f7.params[j]? = some t → args[j]? = some v → Value.okWide Try.prog W .any base t v := hval0
  have hW' := hW
  obtain ⟨p, q, hA0, hV, rfl, hfz, hnd⟩ := hW
  have hA : DataW.TrodAll enc Try.prog W 0 (fun _ => true) true Try.f7.params.toList args.toList ds p := hA0
  rw [Try.params7] at hA hval
  obtain ⟨v0, vs0, d0, ds0, p0, q0, hargs, rfl, rfl, h0, r0⟩ := trodAll_cons hA
  obtain ⟨rfl, rfl, rfl⟩ := trodAll_nil r0
  obtain rfl : args = #[v0] := by cases args; simp_all
  obtain ⟨rfl, rfl⟩ := trodVars_none hV
  obtain ⟨zs0, w0⟩ := arg_ints (hval 0 27 v0 rfl rfl) h0 (fun x hx => hW'.lt x (by simp [hx]))
  clear hA0 hval0
  refine (walk v0 zs0 w0).mono fun e W' ⟨he, hb⟩ => ?_
  subst he
  exact ⟨_, rfl, post_law laidOut (by kernel_rfl) (by kernel_rfl) Try.underlying4 rfl hW' rfl hb⟩

theorem closed : joinedFacts Try.pinned.checked.prog 7 Try.f7 Rows.fnExactBorderOfSpec Rows.fnExactBorderOfRow = true := by
  unfold joinedFacts
  rw [may, lifts, made]
  kernel_rfl
theorem over : Rows.fnExactBorderOfRow.holds Try.pinned (OpenSpec.ofChange Rows.fnExactBorderOfSpec) :=
  OpenClaim.holds_of_wide 7 Try.f7 rfl rfl rfl rfl rfl rfl rfl ⟨rfl, rfl, rfl, rfl, rfl⟩ rfl rfl rfl rfl rfl (by kernel_rfl) Try.func7 closed
    (of_decide_eq_true (by kernel_rfl)) (by unfold Func.isWrapper; first | (rw [if_pos (by decide +kernel)]; kernel_rfl) | (rw [if_neg (by decide +kernel)]; exact ⟨rfl, rfl⟩))
    (fun os started H enc _ => lifted os started H enc)

theorem proved : Rows.FnExactBorderOfSaid := over
#print axioms proved
end Go.Proofs.Ytobhmoohalkijaa.fnExactBorderOf
