/- 'laws.FnExactCompareRatios' returns true at every two ratios: CompareRatios on both sides is one function (cmpE). -/
import Derived.Test.YtpbbbkmcmfljdaaRatM
import Derived.Test.YtpbbbkmcmfljdaaLawR
import Derived.Test.YtpbbbkmcmfljdaaRatN
namespace Go.Proofs.Ytpbbbkmcmfljdaa.fnExactCompareRatios
open Go.ChangeShapes Go.WideShapes Go.ChangeAt Go.RowKit
set_option linter.unusedVariables false

def CutC (w : World) (n d m e : Value) (W : World) : Prop := W.cell? ⟨w.heap.size, 0, none⟩ = some n ∧ W.cell? ⟨w.heap.size, 1, none⟩ = some d ∧ W.cell? ⟨w.heap.size + 1, 0, none⟩ = some m ∧ W.cell? ⟨w.heap.size + 1, 1, none⟩ = some e ∧ w.heap.size + 2 ≤ W.heap.size ∧ Below w.heap.size w W
set_option maxHeartbeats 4000000 in
theorem walk (a0 b0 : Int) (w0 : Bx ((-9223372036854775808 ≤ a0 ∧ a0 ≤ 9223372036854775807) ∧ (-9223372036854775808 ≤ b0 ∧ b0 ≤ 9223372036854775807))) (a1 b1 : Int) (w1 : Bx ((-9223372036854775808 ≤ a1 ∧ a1 ≤ 9223372036854775807) ∧ (-9223372036854775808 ≤ b1 ∧ b1 ≤ 9223372036854775807))) (w : World) :
    Calls Try.prog 8 #[rat a0 b0, rat a1 b1] w fun e w' => e = .returned (.bool true) ∧ Below w.heap.size w w' := by
  have hs := fun W => spec_compare a0 b0 a1 b1 W
  have hi := fun W => impl_compare a0 b0 a1 b1 W
  have ht0 := fun W => law_toratio a0 b0 W
  have ht1 := fun W => law_toratio a1 b1 W
  generalize cmpE a0 b0 a1 b1 = t at hs hi
  replace hs := two_open hs
  replace hi := two_open hi
  simp only [rat] at hs hi ht0 ht1 ⊢
  go_enter Try.func8, Try.ntmps8
  go_wp2_with (fail)
  go_cut [5, 6] from 9 (fun p c wx => p = .int .i64 t.1 ∧ c = .int .i64 t.2 ∧ CutC w (.int .i64 a0) (.int .i64 b0) (.int .i64 a1) (.int .i64 b1) wx)
  case first =>
    clear hi
    go_region_held3 (fun W => W.cell? ⟨w.heap.size, 0, none⟩ = some (.int .i64 a0) ∧ W.cell? ⟨w.heap.size, 1, none⟩ = some (.int .i64 b0) ∧ W.cell? ⟨w.heap.size + 1, 0, none⟩ = some (.int .i64 a1) ∧ W.cell? ⟨w.heap.size + 1, 1, none⟩ = some (.int .i64 b1) ∧ w.heap.size + 2 ≤ W.heap.size ∧ Below w.heap.size w W)
      (first | (with_reducible exact keep2 (by assumption) hb4) | (with_reducible exact keep2 (by assumption) ((Below.refl _ _).alloc (Nat.le_refl _) _)) | (with_reducible exact keep2 (by assumption) (Below.refl _ _).drew) | (refine ⟨by go_simp, by go_simp, by go_simp, by go_simp, by simp, ?_⟩; go_grown))
      (first | ((go_at_call 12; (with_reducible refine (ht0 _).mono ?_); rintro r w4 ⟨rfl, hb4⟩; obtain ⟨hc0, hf0, hm0⟩ := bcel3 hb4; have hS0 := keep2 (w := w) (by assumption) hb4)) | ((go_at_call 12; (with_reducible refine (ht1 _).mono ?_); rintro r w4 ⟨rfl, hb4⟩; obtain ⟨hc1, hf1, hm1⟩ := bcel3 hb4; have hm10 := (fun x h => hm1 x (Nat.lt_of_lt_of_le (hm0 x h) (by simp))); have hS1 := keep2 (w := w) (by assumption) hb4)) | ((go_at_call 23; (with_reducible refine (hs _).mono ?_); rintro r w4 ⟨rfl, hb4⟩; obtain ⟨hc2, hf2, hm2⟩ := bcel3 hb4; have hm21 := (fun x h => hm2 x (Nat.lt_of_lt_of_le (hm1 x h) (by simp))); have hm210 := (fun x h => hm2 x (Nat.lt_of_lt_of_le (hm10 x h) (by simp))); have hS2 := keep2 (w := w) (by assumption) hb4)))
    all_goals
      go_wp2_with (fail)
      go_meet
      case rel => exact ⟨rfl, rfl, by assumption⟩
  case rest =>
    obtain ⟨rfl, rfl, hcut⟩ := hcut
    have hcut2 : wc.cell? ⟨w.heap.size, 0, none⟩ = some (.int .i64 a0) ∧ wc.cell? ⟨w.heap.size, 1, none⟩ = some (.int .i64 b0) ∧ wc.cell? ⟨w.heap.size + 1, 0, none⟩ = some (.int .i64 a1) ∧ wc.cell? ⟨w.heap.size + 1, 1, none⟩ = some (.int .i64 b1) ∧ w.heap.size + 2 ≤ wc.heap.size ∧ Below w.heap.size w wc := hcut
    clear hcut hs
    go_wp2_with (fail)
    go_cut [7, 8] from 9 (fun p c wx => p = .int .i64 t.1 ∧ c = .int .i64 t.2 ∧ CutC w (.int .i64 a0) (.int .i64 b0) (.int .i64 a1) (.int .i64 b1) wx)
    case first =>
      go_region_held3 (fun W => W.cell? ⟨w.heap.size, 0, none⟩ = some (.int .i64 a0) ∧ W.cell? ⟨w.heap.size, 1, none⟩ = some (.int .i64 b0) ∧ W.cell? ⟨w.heap.size + 1, 0, none⟩ = some (.int .i64 a1) ∧ W.cell? ⟨w.heap.size + 1, 1, none⟩ = some (.int .i64 b1) ∧ w.heap.size + 2 ≤ W.heap.size ∧ Below w.heap.size w W)
        (first | (with_reducible exact keep2 (by assumption) hb4) | (with_reducible exact keep2 (by assumption) ((Below.refl _ _).alloc (Nat.le_refl _) _)) | (with_reducible exact keep2 (by assumption) (Below.refl _ _).drew) | exact hcut2)
        (first | ((go_at_call 12; (with_reducible refine (ht0 _).mono ?_); rintro r w4 ⟨rfl, hb4⟩; obtain ⟨hc0, hf0, hm0⟩ := bcel3 hb4; have hS0 := keep2 (w := w) (by assumption) hb4)) | ((go_at_call 12; (with_reducible refine (ht1 _).mono ?_); rintro r w4 ⟨rfl, hb4⟩; obtain ⟨hc1, hf1, hm1⟩ := bcel3 hb4; have hm10 := (fun x h => hm1 x (Nat.lt_of_lt_of_le (hm0 x h) (by simp))); have hS1 := keep2 (w := w) (by assumption) hb4)) | ((go_at_call 24; (with_reducible refine (hi _).mono ?_); rintro r w4 ⟨rfl, hb4⟩; obtain ⟨hc2, hf2, hm2⟩ := bcel3 hb4; have hm21 := (fun x h => hm2 x (Nat.lt_of_lt_of_le (hm1 x h) (by simp))); have hm210 := (fun x h => hm2 x (Nat.lt_of_lt_of_le (hm10 x h) (by simp))); have hS2 := keep2 (w := w) (by assumption) hb4)))
      all_goals
        go_wp2_with (fail)
        go_meet
        case rel => exact ⟨rfl, rfl, by assumption⟩
    case rest =>
      obtain ⟨rfl, rfl, c0, c1, d0, d1, hz, hb⟩ := hcut
      have HB := Bx.mk hb
      clear hb hi ht0 ht1 c0 c1 d0 d1 hz
      go_wp2_with (fail)
      go_ret
      exact ⟨rfl, HB.out⟩

theorem own : ownKnob Try.prog.godebug = none := by kernel_rfl
theorem laidOut : laidOutB Try.prog = true := by kernel_rfl

set_option maxRecDepth 100000 in
theorem lifted (os : Os) (started : os.Started) (H : Type) (enc : TypeId × Value → H) :
    ReturnsInHanded {} Try.checked os 8 .any (Rows.fnExactCompareRatiosSpec.pre6 enc Try.prog Try.f8 Rows.fnExactCompareRatiosRow.domain false) (Rows.fnExactCompareRatiosSpec.post enc Try.prog Try.f8 false true false false) := by
  refine returnsInHanded_of_change (C := Try.checked) own started (by kernel_rfl) Try.func8
    (ChangeSpec.witness6 (enc := enc) (C := Try.checked) false ⟨#[], #[.agg #[.int .i64 0, .int .i64 0], .agg #[.int .i64 0, .int .i64 0]], []⟩ 8 (by kernel_rfl) (by kernel_rfl) (by kernel_rfl) (by kernel_rfl)) ?_
  intro W base args ds gs before hval0 hW hcnd _
  have hval : ∀ (j : Nat) t v, Try.f8.params[j]? = some t → args[j]? = some v → Value.okWide Try.prog W .any base t v := hval0
  have hW' := hW
  obtain ⟨p, q, hA0, hV, rfl, hfz, hnd⟩ := hW
  have hA : DataW.TrodAll enc Try.prog W 0 (fun _ => true) true Try.f8.params.toList args.toList ds p := hA0
  rw [Try.params8] at hA hval
  obtain ⟨v0, vs0, d0, ds0, p0, q0, hargs, rfl, rfl, h0, r0⟩ := trodAll_cons hA
  obtain ⟨v1, vs1, d1, ds1, p1, q1, rfl, rfl, rfl, h1, r1⟩ := trodAll_cons r0
  obtain ⟨rfl, rfl, rfl⟩ := trodAll_nil r1
  obtain rfl : args = #[v0, v1] := by cases args; simp_all
  obtain ⟨rfl, rfl⟩ := trodVars_none hV
  obtain ⟨n0, m0, rfl, w0⟩ := arg_ratio (hval 0 23 v0 rfl rfl) h0
  obtain ⟨n1, m1, rfl, w1⟩ := arg_ratio (hval 1 23 v1 rfl rfl) h1
  clear hA0 hval0
  refine (walk n0 m0 w0 n1 m1 w1 W).mono fun e W' ⟨he, hb⟩ => ?_
  subst he
  exact ⟨_, rfl, post_law laidOut (by kernel_rfl) (by kernel_rfl) Try.underlying4 rfl hW' rfl hb⟩

theorem over : Rows.fnExactCompareRatiosRow.holds Try.pinned (OpenSpec.ofChange Rows.fnExactCompareRatiosSpec) :=
  OpenClaim.holds_of_wide 8 Try.f8 rfl rfl rfl rfl rfl rfl rfl ⟨rfl, rfl, rfl, rfl, rfl⟩ rfl rfl rfl rfl rfl (by kernel_rfl) Try.func8 (by kernel_rfl)
    (of_decide_eq_true (by kernel_rfl)) (by unfold Func.isWrapper; first | (rw [if_pos (by decide +kernel)]; kernel_rfl) | (rw [if_neg (by decide +kernel)]; exact ⟨rfl, rfl⟩))
    (fun os started H enc _ => lifted os started H enc)

theorem proved : Rows.FnExactCompareRatiosSaid := over
#print axioms proved
end Go.Proofs.Ytpbbbkmcmfljdaa.fnExactCompareRatios
