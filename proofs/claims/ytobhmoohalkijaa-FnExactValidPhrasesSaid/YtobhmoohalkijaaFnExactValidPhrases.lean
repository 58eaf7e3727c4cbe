/- 'laws.FnExactValidPhrases' returns true at every input: ValidPhrases on both sides is one function. -/
import Derived.Test.YtobhmoohalkijaaPl
import Derived.Test.YtobhmoohalkijaaPs
import Derived.Test.YtobhmoohalkijaaPi
namespace Go.Proofs.Ytobhmoohalkijaa.fnExactValidPhrases
open Go.ChangeShapes Go.WideShapes Go.ChangeAt Go.RowKit
set_option linter.unusedVariables false
set_option linter.unusedSimpArgs false
set_option maxRecDepth 100000

set_option maxHeartbeats 4000000 in
theorem walk (v0 : Value) (LL0 : List (List Int)) {w : World} (w0 : RowsAt w v0 LL0 ∧ LL0.length ≤ 9223372036854775807 ∧ ∀ k, k < LL0.length → (LL0.getD k []).length ≤ 9223372036854775807) :
    Calls Try.prog 3 #[v0] w fun e w' => e = .returned (.bool true) ∧ Below w.heap.size w w' := by
  obtain ⟨hi0, hln0, hlg0⟩ := w0
  obtain ⟨A0, c0, rfl⟩ := rows_form hi0
  have HI0 := Bx.mk hi0
  have HG0 := Bx.mk hlg0
  clear hi0 hlg0
  have B0 : Bx (Below w.heap.size w w) := Bx.mk (Below.refl _ _)
  go_enter Try.func3, Try.ntmps3
  go_wp2_with (fail)
  refine (sz_rows _ LL0 1048576 w (HI0.out.below B0.out) ⟨by decide, by decide⟩ hln0 HG0.out).mono ?_
  rintro e1 q1 ⟨z0, rfl, hz0, hb⟩
  have B1 : Bx (Below w.heap.size w q1) := Bx.mk (B0.out.trans (hb.mono B0.out.size))
  have SZ1 : Bx (w.heap.size ≤ q1.heap.size) := Bx.mk hb.size
  clear hb
  rcases hz0 with rfl | ⟨hy0, hx0, SM0⟩
  · go_wp2_with (fail)
    go_ret
    exact ⟨rfl, B1.out⟩
  have SM0 := Bx.mk SM0
  have hd0 : decide (z0 < 0) = false := decide_eq_false (by omega)
  go_wp2_with (fail)
  have hs : ∀ u0 W, RowsAt W u0 LL0 → Calls Try.prog 14 #[u0] W (ValOut (.bool (phsB LL0)) W) := fun u0 W h0 => vdr (spec_validphrases u0 LL0 W h0 SM0.out.1 SM0.out.2)
  have hi : ∀ u0 W, RowsAt W u0 LL0 → Calls Try.prog 16 #[u0] W (ValOut (.bool (phsB LL0)) W) := fun u0 W h0 => vdr (impl_validphrases u0 LL0 W h0 SM0.out.1 SM0.out.2)
  generalize phsB LL0 = r1 at hs hi
  refine (copy_rows _ LL0 q1 (HI0.out.below B1.out) SM0.out.1 SM0.out.2).mono ?_
  rintro e2 q2 ⟨va0, Va0, rfl, ho, hb⟩
  have B2 : Bx (Below w.heap.size w q2) := Bx.mk (B1.out.trans (hb.mono B1.out.size))
  have SZ2 : Bx (q1.heap.size ≤ q2.heap.size) := Bx.mk hb.size
  have Oa0_2 := Bx.mk ho
  have Ua0 := Bx.mk (fun i hi => own_hi (ho.row i hi))
  clear ho
  clear hb
  go_wp2_with (fail)
  refine (hs _ _ (Oa0_2.out.at)).mono ?_
  rintro e3 q3 ⟨rfl, hb⟩
  have B3 : Bx (Below w.heap.size w q3) := Bx.mk (B2.out.trans (hb.mono B2.out.size))
  have SZ3 : Bx (q2.heap.size ≤ q3.heap.size) := Bx.mk hb.size
  have Oa0_3 := Bx.mk (RowsOwn.below Oa0_2.out hb)
  clear Oa0_2
  clear hb
  go_wp2_with (fail)
  refine (copy_rows _ LL0 q3 (HI0.out.below B3.out) SM0.out.1 SM0.out.2).mono ?_
  rintro e4 q4 ⟨vb0, Vb0, rfl, ho, hb⟩
  have B4 : Bx (Below w.heap.size w q4) := Bx.mk (B3.out.trans (hb.mono B3.out.size))
  have SZ4 : Bx (q3.heap.size ≤ q4.heap.size) := Bx.mk hb.size
  have Oa0_4 := Bx.mk (RowsOwn.below Oa0_3.out hb)
  clear Oa0_3
  have Ob0_4 := Bx.mk ho
  have Ub0 := Bx.mk (fun i hi => own_hi (ho.row i hi))
  clear ho
  clear hb
  go_wp2_with (fail)
  refine (hi _ _ (Ob0_4.out.at)).mono ?_
  rintro e5 q5 ⟨rfl, hb⟩
  have B5 : Bx (Below w.heap.size w q5) := Bx.mk (B4.out.trans (hb.mono B4.out.size))
  have SZ5 : Bx (q4.heap.size ≤ q5.heap.size) := Bx.mk hb.size
  have Oa0_5 := Bx.mk (RowsOwn.below Oa0_4.out hb)
  have Ob0_5 := Bx.mk (RowsOwn.below Ob0_4.out hb)
  clear Oa0_4 Ob0_4
  clear hb
  go_wp2_with (fail)
  refine (copy_rows _ LL0 q5 (HI0.out.below B5.out) SM0.out.1 SM0.out.2).mono ?_
  rintro e6 q6 ⟨vc0, Vc0, rfl, ho, hb⟩
  have B6 : Bx (Below w.heap.size w q6) := Bx.mk (B5.out.trans (hb.mono B5.out.size))
  have SZ6 : Bx (q5.heap.size ≤ q6.heap.size) := Bx.mk hb.size
  have Oa0_6 := Bx.mk (RowsOwn.below Oa0_5.out hb)
  have Ob0_6 := Bx.mk (RowsOwn.below Ob0_5.out hb)
  clear Oa0_5 Ob0_5
  have Oc0_6 := Bx.mk ho
  have Uc0 := Bx.mk (fun i hi => own_hi (ho.row i hi))
  clear ho
  clear hb
  go_wp2_with (fail)
  refine (eq_rows _ _ LL0 LL0 _ (Ob0_6.out.at) (Oc0_6.out.at) (by have := SM0.out.1; omega) (by have := SM0.out.1; omega) (fun k hk => Nat.le_trans (SM0.out.2 k hk) (by decide)) (fun k hk => Nat.le_trans (SM0.out.2 k hk) (by decide))).mono ?_
  rintro e7 q7 ⟨rfl, hd⟩
  have hb := below_dr hd
  clear hd
  have B7 : Bx (Below w.heap.size w q7) := Bx.mk (B6.out.trans (hb.mono B6.out.size))
  have SZ7 : Bx (q6.heap.size ≤ q7.heap.size) := Bx.mk hb.size
  have Oa0_7 := Bx.mk (RowsOwn.below Oa0_6.out hb)
  have Ob0_7 := Bx.mk (RowsOwn.below Ob0_6.out hb)
  have Oc0_7 := Bx.mk (RowsOwn.below Oc0_6.out hb)
  clear Oa0_6 Ob0_6 Oc0_6
  clear hb
  go_wp2_with (fail)
  go_ret
  exact ⟨rfl, B7.out⟩

theorem own : ownKnob Try.prog.godebug = none := by kernel_rfl
theorem laidOut : laidOutB Try.prog = true := by kernel_rfl

set_option maxRecDepth 100000 in
theorem lifted (os : Os) (started : os.Started) (H : Type) (enc : TypeId × Value → H) :
    ReturnsInHanded {} Try.checked os 3 .any (Rows.fnExactValidPhrasesSpec.pre6 enc Try.prog Try.f3 Rows.fnExactValidPhrasesRow.domain false) (Rows.fnExactValidPhrasesSpec.post enc Try.prog Try.f3 false true false false) := by
  refine returnsInHanded_of_change (C := Try.checked) own started (by kernel_rfl) Try.func3
    (ChangeSpec.witness6 (enc := enc) (C := Try.checked) false ⟨#[], #[.slice none 0 0], []⟩ 8 (by kernel_rfl) (by kernel_rfl) (by kernel_rfl) (by kernel_rfl)) ?_
  intro W base args ds gs before hval0 hW hcnd _
  have hval : ∀ (j : Nat) t v, Try.f3.params[j]? = some t → args[j]? = some v → Value.okWide Try.prog W .any base t v := hval0
  have hW' := hW
  obtain ⟨p, q, hA0, hV, rfl, hfz, hnd⟩ := hW
  have hA : DataW.TrodAll enc Try.prog W 0 (fun _ => true) true Try.f3.params.toList args.toList ds p := hA0
  rw [Try.params3] at hA hval
  obtain ⟨v0, vs0, d0, ds0, p0, q0, hargs, rfl, rfl, h0, r0⟩ := trodAll_cons hA
  obtain ⟨rfl, rfl, rfl⟩ := trodAll_nil r0
  obtain rfl : args = #[v0] := by cases args; simp_all
  obtain ⟨rfl, rfl⟩ := trodVars_none hV
  obtain ⟨LL0, w0⟩ := arg_rows (hval 0 22 v0 rfl rfl) h0
  clear hA0 hval0
  refine (walk v0 LL0 w0).mono fun e W' ⟨he, hb⟩ => ?_
  subst he
  exact ⟨_, rfl, post_law laidOut (by kernel_rfl) (by kernel_rfl) Try.underlying4 rfl hW' rfl hb⟩

theorem closed : joinedFacts Try.pinned.checked.prog 3 Try.f3 Rows.fnExactValidPhrasesSpec Rows.fnExactValidPhrasesRow = true := by
  unfold joinedFacts
  rw [may, lifts, made]
  kernel_rfl
theorem over : Rows.fnExactValidPhrasesRow.holds Try.pinned (OpenSpec.ofChange Rows.fnExactValidPhrasesSpec) :=
  OpenClaim.holds_of_wide 3 Try.f3 rfl rfl rfl rfl rfl rfl rfl ⟨rfl, rfl, rfl, rfl, rfl⟩ rfl rfl rfl rfl rfl (by kernel_rfl) Try.func3 closed
    (of_decide_eq_true (by kernel_rfl)) (by unfold Func.isWrapper; first | (rw [if_pos (by decide +kernel)]; kernel_rfl) | (rw [if_neg (by decide +kernel)]; exact ⟨rfl, rfl⟩))
    (fun os started H enc _ => lifted os started H enc)

theorem proved : Rows.FnExactValidPhrasesSaid := over
#print axioms proved
end Go.Proofs.Ytobhmoohalkijaa.fnExactValidPhrases
