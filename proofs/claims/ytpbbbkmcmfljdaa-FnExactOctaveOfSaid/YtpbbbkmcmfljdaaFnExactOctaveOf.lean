/- 'laws.FnExactOctaveOf' returns true at every input: OctaveOf on both sides is one function (octE). -/
import Derived.Test.YtpbbbkmcmfljdaaRatB
import Derived.Test.YtpbbbkmcmfljdaaLawR
import Derived.Test.YtpbbbkmcmfljdaaHold
import Derived.Test.YtpbbbkmcmfljdaaRatN
namespace Go.Proofs.Ytpbbbkmcmfljdaa.fnExactOctaveOf
open Go.ChangeShapes Go.WideShapes Go.ChangeAt Go.RowKit
set_option linter.unusedVariables false

set_option maxHeartbeats 2000000 in
theorem walk (a0 b0 : Int) (w0 : Bx ((-9223372036854775808 ≤ a0 ∧ a0 ≤ 9223372036854775807) ∧ (-9223372036854775808 ≤ b0 ∧ b0 ≤ 9223372036854775807))) (w : World) :
    Calls Try.prog 9 #[rat a0 b0] w fun e w' => e = .returned (.bool true) ∧ Below w.heap.size w w' := by
  have hs := fun W => spec_octaveof a0 b0 W
  have hi := fun W => impl_octaveof a0 b0 W
  have ht0 := fun W => law_toratio a0 b0 W
  generalize octE a0 b0 = t at hs hi
  replace hs := octe_open hs
  replace hi := octe_open hi
  have he := fun W => law_eqratio t.1.1 t.1.2 t.1.1 t.1.2 W
  simp only [rat, beq_self_eq_true, Bool.and_self] at hs hi ht0 he ⊢
  go_enter Try.func9, Try.ntmps9
  go_wp2_with (fail)
  refine (ht0 _).mono ?_
  rintro r w1 ⟨rfl, hb⟩
  have H1 := Bx.mk (((Holds.start w).pair (.int .i64 a0) (.int .i64 b0) _ _).below hb)
  clear hb
  go_wp2_with (fail)
  refine (hs _).mono ?_
  rintro r w2 ⟨rfl, hb⟩
  have H2 := Bx.mk (H1.out.below hb)
  clear hb
  have c0 := H2.out.get (g := w.heap.size) (k := 0) (v := .int .i64 a0) (by simp)
  have c1 := H2.out.get (g := w.heap.size) (k := 1) (v := .int .i64 b0) (by simp)
  have cl := H2.out.lt (g := w.heap.size) (k := 1) (v := .int .i64 b0) (by simp)
  go_wp2_with (fail)
  refine (ht0 _).mono ?_
  rintro r w3 ⟨rfl, hb⟩
  have H3 := Bx.mk ((H2.out.pair (.int .i64 t.1.1) (.int .i64 t.1.2) _ _).below hb)
  clear hb
  clear c0 c1 cl
  go_wp2_with (fail)
  refine (hi _).mono ?_
  rintro r w4 ⟨rfl, hb⟩
  have H4 := Bx.mk (H3.out.below hb)
  clear hb
  have d0 := H4.out.get (g := w2.heap.size) (k := 0) (v := .int .i64 t.1.1) (by simp)
  have d1 := H4.out.get (g := w2.heap.size) (k := 1) (v := .int .i64 t.1.2) (by simp)
  have dl := H4.out.lt (g := w2.heap.size) (k := 1) (v := .int .i64 t.1.2) (by simp)
  go_wp2_with (fail)
  refine (he _).mono ?_
  rintro r w5 ⟨rfl, hb⟩
  have H5 := Bx.mk ((H4.out.alloc _).below hb)
  clear hb
  go_wp2_with (fail)
  go_ret
  exact ⟨rfl, H5.out.2⟩

theorem own : ownKnob Try.prog.godebug = none := by kernel_rfl
theorem laidOut : laidOutB Try.prog = true := by kernel_rfl

set_option maxRecDepth 100000 in
theorem lifted (os : Os) (started : os.Started) (H : Type) (enc : TypeId × Value → H) :
    ReturnsInHanded {} Try.checked os 9 .any (Rows.fnExactOctaveOfSpec.pre6 enc Try.prog Try.f9 Rows.fnExactOctaveOfRow.domain false) (Rows.fnExactOctaveOfSpec.post enc Try.prog Try.f9 false true false false) := by
  refine returnsInHanded_of_change (C := Try.checked) own started (by kernel_rfl) Try.func9
    (ChangeSpec.witness6 (enc := enc) (C := Try.checked) false ⟨#[], #[.agg #[.int .i64 0, .int .i64 0]], []⟩ 8 (by kernel_rfl) (by kernel_rfl) (by kernel_rfl) (by kernel_rfl)) ?_
  intro W base args ds gs before hval0 hW hcnd _
  have hval : ∀ (j : Nat) t v, Try.f9.params[j]? = some t → args[j]? = some v → Value.okWide Try.prog W .any base t v := hval0
  have hW' := hW
  obtain ⟨p, q, hA0, hV, rfl, hfz, hnd⟩ := hW
  have hA : DataW.TrodAll enc Try.prog W 0 (fun _ => true) true Try.f9.params.toList args.toList ds p := hA0
  rw [Try.params9] at hA hval
  obtain ⟨v0, vs0, d0, ds0, p0, q0, hargs, rfl, rfl, h0, r0⟩ := trodAll_cons hA
  obtain ⟨rfl, rfl, rfl⟩ := trodAll_nil r0
  obtain rfl : args = #[v0] := by cases args; simp_all
  obtain ⟨rfl, rfl⟩ := trodVars_none hV
  obtain ⟨n0, m0, rfl, w0⟩ := arg_ratio (hval 0 23 v0 rfl rfl) h0
  clear hA0 hval0
  refine (walk n0 m0 w0 W).mono fun e W' ⟨he, hb⟩ => ?_
  subst he
  exact ⟨_, rfl, post_law laidOut (by kernel_rfl) (by kernel_rfl) Try.underlying4 rfl hW' rfl hb⟩

theorem over : Rows.fnExactOctaveOfRow.holds Try.pinned (OpenSpec.ofChange Rows.fnExactOctaveOfSpec) :=
  OpenClaim.holds_of_wide 9 Try.f9 rfl rfl rfl rfl rfl rfl rfl ⟨rfl, rfl, rfl, rfl, rfl⟩ rfl rfl rfl rfl rfl (by kernel_rfl) Try.func9 (by kernel_rfl)
    (of_decide_eq_true (by kernel_rfl)) (by unfold Func.isWrapper; first | (rw [if_pos (by decide +kernel)]; kernel_rfl) | (rw [if_neg (by decide +kernel)]; exact ⟨rfl, rfl⟩))
    (fun os started H enc _ => lifted os started H enc)

theorem proved : Rows.FnExactOctaveOfSaid := over
#print axioms proved
end Go.Proofs.Ytpbbbkmcmfljdaa.fnExactOctaveOf
