/- 'laws.FnExactBestRatio' returns true at every input: BestRatio on both sides is one function (bestE). -/
import Derived.Test.YtpbbbkmcmfljdaaDoorRatB
import Derived.Test.YtpbbbkmcmfljdaaDoorLawR
import Derived.Test.YtpbbbkmcmfljdaaDoorHold
import Derived.Test.YtpbbbkmcmfljdaaDoorRatU
namespace Go.Proofs.YtpbbbkmcmfljdaaDoor.fnExactBestRatio
open Go.ChangeShapes Go.WideShapes Go.ChangeAt Go.RowKit
set_option linter.unusedVariables false
set_option linter.unusedSimpArgs false
set_option maxRecDepth 100000

set_option maxHeartbeats 2000000 in
theorem walk (a0 : Int) (w0 : (Lit.int .i64 a0).wf = true) (a1 : Int) (w1 : (Lit.int .i64 a1).wf = true) (w : World) {ps : List MemPlace} (hl : DataW.LaidVars Tryd.prog w Rows.fnExactBestRatioRow.laid ps) :
    Calls Tryd.prog 6 #[.int .i64 a0, .int .i64 a1] w fun e w' => e = .returned (.bool true) ∧ Below w.heap.size w w' := by
  have hs := fun W => spec_best a0 a1 W
  have hT := Bx.mk (steptab_of hl (.head _))
  clear hl
  have hi := fun W h => impl_best a0 a1 W h
  generalize bestE a0 a1 = t at hs hi
  replace hs := octe_open hs
  replace hi := fun W h => octe_open' (hi W h)
  have he := fun W => law_eqratio t.1.1 t.1.2 t.1.1 t.1.2 W
  simp only [rat, beq_self_eq_true, Bool.and_self] at hs hi he ⊢
  clear w0 w1
  go_enter Tryd.func6, Tryd.ntmps6
  go_wp2_with (fail)
  refine (hs _).mono ?_
  rintro r w2 ⟨rfl, hb⟩
  have H2 := Bx.mk ((Holds.start w).below hb)
  clear hb
  go_wp2_with (fail)
  refine (hi _ (hT.out.below ((H2.out.pair _ _ _ _).2.mono (Nat.le_refl _)))).mono ?_
  rintro r w4 ⟨rfl, hb⟩
  have H4 := Bx.mk ((H2.out.pair (.int .i64 t.1.1) (.int .i64 t.1.2) _ _).below hb)
  clear hb
  have d0 := H4.out.get (g := w2.heap.size) (k := 0) (v := .int .i64 t.1.1) (by simp)
  have d1 := H4.out.get (g := w2.heap.size) (k := 1) (v := .int .i64 t.1.2) (by simp)
  have dl := H4.out.lt (g := w2.heap.size) (k := 1) (v := .int .i64 t.1.2) (by simp)
  go_wp2_with (fail)
  refine (he _).mono ?_
  rintro r w5 ⟨rfl, hb⟩
  have H5 := Bx.mk ((H4.out.alloc _).below hb)
  clear hb
  go_wp2_with (fail)
  go_ret
  exact ⟨rfl, H5.out.2⟩

theorem own : ownKnob Tryd.prog.godebug = none := by kernel_rfl
theorem laidOut : laidOutB Tryd.prog = true := by kernel_rfl
theorem listed {W : World} (h : laidMetH Tryd.prog Rows.fnExactBestRatioRow.laid W) : ∃ ps, DataW.LaidVars Tryd.prog W Rows.fnExactBestRatioRow.laid ps := by
  rw [Go.MakeChecks.laidMetH_plain _ _ _ (by kernel_rfl)] at h
  obtain ⟨ps, h, _⟩ := h
  exact ⟨ps, h⟩
set_option maxRecDepth 100000 in
theorem contract (H : Type) (enc : TypeId × Value → H) (W : World) (base : Nat) (args : Array Value) (ds gs : List (DataW H)) (before : List MemPlace)
    (hval : ∀ (j : Nat) t v, Tryd.f6.params[j]? = some t → args[j]? = some v → Value.okWide Tryd.prog W .any base t v)
    (hW : DataW.Whole enc Tryd.prog Tryd.f6.params.toList Rows.fnExactBestRatioSpec.vars false W args.toList ds gs before) (hL : laidMetH Tryd.prog Rows.fnExactBestRatioRow.laid W) (hsh : W.ShapedOpen Tryd.prog) :
    Calls Tryd.prog 6 args W fun e W' => ∃ v, e = .returned v ∧ Rows.fnExactBestRatioSpec.post enc Tryd.prog Tryd.f6 false true false false W args v W' := by
  have hW' := hW
  obtain ⟨p, q, hA0, hV, rfl, hfz, hnd⟩ := hW
  obtain ⟨ps, hl⟩ := listed hL
  have hA : DataW.TrodAll enc Tryd.prog W 0 (fun _ => true) true Tryd.f6.params.toList args.toList ds p := hA0
  rw [Tryd.params6] at hA hval
  obtain ⟨v0, vs0, d0, ds0, p0, q0, hargs, rfl, rfl, h0, r0⟩ := trodAll_cons hA
  obtain ⟨v1, vs1, d1, ds1, p1, q1, rfl, rfl, rfl, h1, r1⟩ := trodAll_cons r0
  obtain ⟨rfl, rfl, rfl⟩ := trodAll_nil r1
  obtain rfl : args = #[v0, v1] := by cases args; simp_all
  obtain ⟨gv0, gr0, hgs0, hV0⟩ : ∃ d r, gs = d :: r ∧ True := by cases gs with | nil => simp [DataW.TrodVars, Rows.fnExactBestRatioSpec] at hV | cons d r => exact ⟨d, r, rfl, trivial⟩
  subst hgs0
  obtain rfl : gr0 = [] := by
    obtain ⟨_, _, _, _, _, _, _, _, _, _, hr, _⟩ := hV
    cases gr0 with
    | nil => rfl
    | cons => simp [DataW.TrodVars] at hr
  obtain ⟨a0, rfl, rfl, rfl, w0⟩ := open_int Tryd.underlying2 (hval 0 2 v0 rfl rfl) h0
  obtain ⟨a1, rfl, rfl, rfl, w1⟩ := open_int Tryd.underlying2 (hval 1 2 v1 rfl rfl) h1
  refine (walk a0 w0 a1 w1 W hl).mono fun e W' ⟨he, hb⟩ => ?_
  subst he
  exact ⟨_, rfl, post_lawv laidOut (by kernel_rfl) (by kernel_rfl) (by kernel_rfl) Tryd.underlying4 hW' rfl hb⟩

noncomputable def low : Nat := (World.holding Tryd.prog default ⟨#[], #[], []⟩).heap.size
/-- a world for the witness: each listed variable holds what is listed -/
noncomputable def laidWorld (os : Os) : World :=
  { World.holding Tryd.prog os ⟨#[], #[], []⟩ with heap := ((World.holding Tryd.prog os ⟨#[], #[], []⟩).heap).modify 0 (layCells (datCells (H := Unit) Rows.laid_loop_example_g01033_impl_centsOfSteps)) }
theorem laid_met (os : Os) : laidMet Tryd.prog Rows.fnExactBestRatioRow.laid ((laidWorld os).forCall (fun _ _ => 0) ⟨#[], #[Value.int .i64 0, Value.int .i64 0], []⟩).memory :=
  laidMet_of_run' 8 (by kernel_rfl) (by kernel_rfl)
theorem reads (os : Os) {H : Type} (enc : TypeId × Value → H) : ∃ places, DataW.whole enc Tryd.prog ((laidWorld os).forCall (fun _ _ => 0) ⟨#[], #[Value.int .i64 0, Value.int .i64 0], []⟩).memory Tryd.f6.params.toList Rows.fnExactBestRatioSpec.vars false #[Value.int .i64 0, Value.int .i64 0].toList 8 = some ([.lit (.int .i64 0), .lit (.int .i64 0)], [Rows.laid_loop_example_g01033_impl_centsOfSteps], places) :=
  places_of (by kernel_rfl)

set_option maxRecDepth 100000 in
theorem lifted (os : Os) (started : os.Started) (H : Type) (enc : TypeId × Value → H) (F : Stop.Interp) :
    ReturnsInHanded {} Tryd.checked os 6 .any ((OpenSpec.ofChange Rows.fnExactBestRatioSpec).preRow enc Tryd.prog Tryd.f6 Rows.fnExactBestRatioRow.domain false Rows.fnExactBestRatioRow.laid) (((OpenSpec.ofChange Rows.fnExactBestRatioSpec).at F).post enc Tryd.prog Tryd.f6 false true false false) := by
  obtain ⟨places, hx⟩ := reads os enc
  refine returnsInHanded_of_row (C := Tryd.checked) (s := OpenSpec.ofChange Rows.fnExactBestRatioSpec) own started (by kernel_rfl) Tryd.func6
    (witness_row_at (enc := enc) (C := Tryd.checked) false (laidWorld os) #[Value.int .i64 0, Value.int .i64 0] rfl (by kernel_rfl) (by kernel_rfl) (by kernel_rfl)
      (OpenSpec.preRow_of_cond 8 hx (by kernel_rfl) (fun k hk => by cases hk) (by kernel_rfl) (by rw [Go.MakeChecks.laidMetH_plain _ _ _ (by kernel_rfl)]; exact laid_met os))) ?_
  intro W base args ds gs before hval hW _ _ _ hL hsh _
  exact contract H enc W base args ds gs before hval hW hL hsh

theorem said : Rows.FnExactBestRatioSaid :=
  OpenClaim.holds_of_cond 6 Tryd.f6 rfl rfl rfl rfl rfl rfl rfl ⟨rfl, rfl, rfl, rfl, rfl⟩ rfl rfl rfl rfl rfl (by kernel_rfl) Tryd.func6 (by kernel_rfl)
    (of_decide_eq_true (by kernel_rfl)) (by unfold Func.isWrapper; first | (rw [if_pos (by decide +kernel)]; kernel_rfl) | (rw [if_neg (by decide +kernel)]; exact ⟨rfl, rfl⟩))
    (fun os started H enc _ F => by rw [OpenClaim.pre_eq_preRow]; exact lifted os started H enc F)

theorem plain (f : FuncId) (fn : Func) (hf : Tryd.pinned.checked.prog.funcNamed "loop.example/g01033/laws.FnExactBestRatio" = some f) (hfn : Tryd.pinned.checked.prog.funcs[f]? = some fn) :
    true = Tryd.pinned.checked.prog.looks [] ∧ ∀ (j : Nat) t, fn.params[j]? = some t → Tryd.pinned.checked.prog.wantsStandIn t = false := by
  obtain rfl : f = 6 := Option.some.inj ((show Tryd.prog.funcNamed "loop.example/g01033/laws.FnExactBestRatio" = some 6 by kernel_rfl).symm.trans hf) |>.symm
  obtain rfl : fn = Tryd.f6 := (Option.some.inj (Tryd.func6.symm.trans hfn)).symm
  refine ⟨by kernel_rfl, fun j t ht => ?_⟩
  rw [Tryd.params6] at ht
  have hm := Array.mem_of_getElem? ht
  have hall : ∀ t ∈ #[2, 2], Tryd.prog.wantsStandIn t = false := by
    intro t ht
    simp at ht
    subst ht; kernel_rfl
  exact hall t hm

theorem card : Rows.FnExactBestRatioCardSaid :=
  Claim7.holds_tied_plain_at .later [] _ _ _ _ said (fun _ h => by cases h) (by kernel_rfl) (fun _ h => by cases h) fnExactBestRatio_row_tie rfl ⟨rfl, rfl⟩ (by kernel_rfl) rfl plain (by kernel_rfl)
theorem proved : Rows.FnExactBestRatioCardSaid := card
#print axioms proved
end Go.Proofs.YtpbbbkmcmfljdaaDoor.fnExactBestRatio
