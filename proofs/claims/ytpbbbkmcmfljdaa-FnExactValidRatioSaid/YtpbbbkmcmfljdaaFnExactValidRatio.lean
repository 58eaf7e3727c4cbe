/- 'laws.FnExactValidRatio' returns true at every input: ValidRatio on both sides is one function (okR). -/
import Derived.Test.YtpbbbkmcmfljdaaRatB
import Derived.Test.YtpbbbkmcmfljdaaLawR
import Derived.Test.YtpbbbkmcmfljdaaHold
import Derived.Test.YtpbbbkmcmfljdaaRatN
namespace Go.Proofs.Ytpbbbkmcmfljdaa.fnExactValidRatio
open Go.ChangeShapes Go.WideShapes Go.ChangeAt Go.RowKit
set_option linter.unusedVariables false

set_option maxHeartbeats 2000000 in
theorem walk (a0 b0 : Int) (w0 : Bx ((-9223372036854775808 ≤ a0 ∧ a0 ≤ 9223372036854775807) ∧ (-9223372036854775808 ≤ b0 ∧ b0 ≤ 9223372036854775807))) (w : World) :
    Calls Try.prog 3 #[rat a0 b0] w fun e w' => e = .returned (.bool true) ∧ Below w.heap.size w w' := by
  have hs := fun W => spec_valid a0 b0 W
  have hi := fun W => impl_valid a0 b0 W
  have ht0 := fun W => law_toratio a0 b0 W
  generalize okR a0 b0 = t at hs hi
  simp only [rat] at hs hi ht0 ⊢
  go_enter Try.func3, Try.ntmps3
  go_wp2_with (fail)
  refine (ht0 _).mono ?_
  rintro r w1 ⟨rfl, hb⟩
  have H1 := Bx.mk (((Holds.start w).pair (.int .i64 a0) (.int .i64 b0) _ _).below hb)
  clear hb
  go_wp2_with (fail)
  refine (hs _).mono ?_
  rintro r w2 ⟨rfl, hb⟩
  have H2 := Bx.mk (H1.out.below hb)
  clear hb
  have c0 := H2.out.get (g := w.heap.size) (k := 0) (v := .int .i64 a0) (by simp)
  have c1 := H2.out.get (g := w.heap.size) (k := 1) (v := .int .i64 b0) (by simp)
  have cl := H2.out.lt (g := w.heap.size) (k := 1) (v := .int .i64 b0) (by simp)
  go_wp2_with (fail)
  refine (ht0 _).mono ?_
  rintro r w3 ⟨rfl, hb⟩
  have H3 := Bx.mk (H2.out.below hb)
  clear hb
  clear c0 c1 cl
  go_wp2_with (fail)
  refine (hi _).mono ?_
  rintro r w4 ⟨rfl, hb⟩
  have H4 := Bx.mk (H3.out.below hb)
  clear hb
  go_wp2_with (fail)
  go_ret
  exact ⟨rfl, H4.out.2⟩

theorem own : ownKnob Try.prog.godebug = none := by kernel_rfl
theorem laidOut : laidOutB Try.prog = true := by kernel_rfl

set_option maxRecDepth 100000 in
theorem lifted (os : Os) (started : os.Started) (H : Type) (enc : TypeId × Value → H) :
    ReturnsInHanded {} Try.checked os 3 .any (Rows.fnExactValidRatioSpec.pre6 enc Try.prog Try.f3 Rows.fnExactValidRatioRow.domain false) (Rows.fnExactValidRatioSpec.post enc Try.prog Try.f3 false true false false) := by
  refine returnsInHanded_of_change (C := Try.checked) own started (by kernel_rfl) Try.func3
    (ChangeSpec.witness6 (enc := enc) (C := Try.checked) false ⟨#[], #[.agg #[.int .i64 0, .int .i64 0]], []⟩ 8 (by kernel_rfl) (by kernel_rfl) (by kernel_rfl) (by kernel_rfl)) ?_
  intro W base args ds gs before hval0 hW hcnd _
  have hval : ∀ (j : Nat) t v, Try.f3.params[j]? = some t → args[j]? = some v → Value.okWide Try.prog W .any base t v := hval0
  have hW' := hW
  obtain ⟨p, q, hA0, hV, rfl, hfz, hnd⟩ := hW
  have hA : DataW.TrodAll enc Try.prog W 0 (fun _ => true) true Try.f3.params.toList args.toList ds p := hA0
  rw [Try.params3] at hA hval
  obtain ⟨v0, vs0, d0, ds0, p0, q0, hargs, rfl, rfl, h0, r0⟩ := trodAll_cons hA
  obtain ⟨rfl, rfl, rfl⟩ := trodAll_nil r0
  obtain rfl : args = #[v0] := by cases args; simp_all
  obtain ⟨rfl, rfl⟩ := trodVars_none hV
  obtain ⟨n0, m0, rfl, w0⟩ := arg_ratio (hval 0 23 v0 rfl rfl) h0
  clear hA0 hval0
  refine (walk n0 m0 w0 W).mono fun e W' ⟨he, hb⟩ => ?_
  subst he
  exact ⟨_, rfl, post_law laidOut (by kernel_rfl) (by kernel_rfl) Try.underlying4 rfl hW' rfl hb⟩

theorem over : Rows.fnExactValidRatioRow.holds Try.pinned (OpenSpec.ofChange Rows.fnExactValidRatioSpec) :=
  OpenClaim.holds_of_wide 3 Try.f3 rfl rfl rfl rfl rfl rfl rfl ⟨rfl, rfl, rfl, rfl, rfl⟩ rfl rfl rfl rfl rfl (by kernel_rfl) Try.func3 (by kernel_rfl)
    (of_decide_eq_true (by kernel_rfl)) (by unfold Func.isWrapper; first | (rw [if_pos (by decide +kernel)]; kernel_rfl) | (rw [if_neg (by decide +kernel)]; exact ⟨rfl, rfl⟩))
    (fun os started H enc _ => lifted os started H enc)

theorem proved : Rows.FnExactValidRatioSaid := over
#print axioms proved
end Go.Proofs.Ytpbbbkmcmfljdaa.fnExactValidRatio
