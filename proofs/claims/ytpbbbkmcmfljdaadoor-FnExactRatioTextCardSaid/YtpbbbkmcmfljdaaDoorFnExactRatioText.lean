/- 'laws.FnExactRatioText' returns true at every ratio: RatioText on both sides is one text (rtextE). -/
import Derived.Test.YtpbbbkmcmfljdaaDoorRatT
import Derived.Test.YtpbbbkmcmfljdaaDoorLawR
import Derived.Test.YtpbbbkmcmfljdaaDoorHold
namespace Go.Proofs.YtpbbbkmcmfljdaaDoor.fnExactRatioText
open Go.ChangeShapes Go.WideShapes Go.ChangeAt Go.RowKit
set_option linter.unusedVariables false
set_option linter.unusedSimpArgs false
set_option maxRecDepth 100000

set_option maxHeartbeats 2000000 in
theorem walk (a0 b0 : Int) (w0 : Bx ((-9223372036854775808 ≤ a0 ∧ a0 ≤ 9223372036854775807) ∧ (-9223372036854775808 ≤ b0 ∧ b0 ≤ 9223372036854775807))) (w : World) {ps : List MemPlace} (hl : DataW.LaidVars Tryd.prog w Rows.fnExactRatioTextRow.laid ps) :
    Calls Tryd.prog 7 #[rat a0 b0] w fun e w' => e = .returned (.bool true) ∧ Below w.heap.size w w' := by
  have e : Rows.laid_internal_strconv_uint64pow10 = Lib.tabData (H := Unit) .u64 Lib.pow10Tab := by kernel_rfl
  have HT : Bx (Lib.TabIs Tryd.prog w "internal/strconv.uint64pow10" .u64 Lib.pow10Tab) := Bx.mk (tab_get hl (by rw [← e]; exact .tail _ (.tail _ (.head _))) (g := 4) (t := 128) (e := 81) (N := 20) (by kernel_rfl) (by kernel_rfl) Tryd.underlying128 Tryd.underlying81 (by kernel_rfl) (by kernel_rfl))
  clear hl e
  have hs := fun W => spec_ratiotext a0 b0 W
  have hi := fun W h => impl_ratiotext a0 b0 W h
  have ht0 := fun W => law_toratio a0 b0 W
  generalize rtextE a0 b0 = t at hs hi
  simp only [rat] at hs hi ht0 ⊢
  go_enter Tryd.func7, Tryd.ntmps7
  go_wp2_with (fail)
  refine (ht0 _).mono ?_
  rintro r w1 ⟨rfl, hb⟩
  have H1 := Bx.mk (((Holds.start w).pair (.int .i64 a0) (.int .i64 b0) _ _).below hb)
  clear hb
  go_wp2_with (fail)
  refine (hs _).mono ?_
  rintro r w2 ⟨rfl, hb⟩
  have H2 := Bx.mk (H1.out.below hb)
  clear hb
  have c0 := H2.out.get (g := w.heap.size) (k := 0) (v := .int .i64 a0) (by simp)
  have c1 := H2.out.get (g := w.heap.size) (k := 1) (v := .int .i64 b0) (by simp)
  have cl := H2.out.lt (g := w.heap.size) (k := 1) (v := .int .i64 b0) (by simp)
  go_wp2_with (fail)
  refine (ht0 _).mono ?_
  rintro r w3 ⟨rfl, hb⟩
  have H3 := Bx.mk (H2.out.below hb)
  clear hb
  clear c0 c1 cl
  go_wp2_with (fail)
  refine (hi _ (Bx.mk (tab_below (H3.out.2.mono (Nat.le_refl _)) HT.out))).mono ?_
  rintro r w4 ⟨rfl, hb⟩
  have H4 := Bx.mk (H3.out.below hb)
  clear hb
  go_wp2_with (fail)
  go_ret
  exact ⟨rfl, H4.out.2⟩

theorem own : ownKnob Tryd.prog.godebug = none := by kernel_rfl
theorem laidOut : laidOutB Tryd.prog = true := by kernel_rfl
theorem listed {W : World} (h : laidMetH Tryd.prog Rows.fnExactRatioTextRow.laid W) : ∃ ps, DataW.LaidVars Tryd.prog W Rows.fnExactRatioTextRow.laid ps := by
  rw [Go.MakeChecks.laidMetH_plain _ _ _ (by kernel_rfl)] at h
  obtain ⟨ps, h, _⟩ := h
  exact ⟨ps, h⟩
set_option maxRecDepth 100000 in
theorem contract (H : Type) (enc : TypeId × Value → H) (W : World) (base : Nat) (args : Array Value) (ds gs : List (DataW H)) (before : List MemPlace)
    (hval : ∀ (j : Nat) t v, Tryd.f7.params[j]? = some t → args[j]? = some v → Value.okWide Tryd.prog W .any base t v)
    (hW : DataW.Whole enc Tryd.prog Tryd.f7.params.toList Rows.fnExactRatioTextSpec.vars false W args.toList ds gs before) (hL : laidMetH Tryd.prog Rows.fnExactRatioTextRow.laid W) (hsh : W.ShapedOpen Tryd.prog) :
    Calls Tryd.prog 7 args W fun e W' => ∃ v, e = .returned v ∧ Rows.fnExactRatioTextSpec.post enc Tryd.prog Tryd.f7 false true false false W args v W' := by
  have hW' := hW
  obtain ⟨p, q, hA0, hV, rfl, hfz, hnd⟩ := hW
  obtain ⟨ps, hl⟩ := listed hL
  have hA : DataW.TrodAll enc Tryd.prog W 0 (fun _ => true) true Tryd.f7.params.toList args.toList ds p := hA0
  rw [Tryd.params7] at hA hval
  obtain ⟨v0, vs0, d0, ds0, p0, q0, hargs, rfl, rfl, h0, r0⟩ := trodAll_cons hA
  obtain ⟨rfl, rfl, rfl⟩ := trodAll_nil r0
  obtain rfl : args = #[v0] := by cases args; simp_all
  obtain ⟨rfl, rfl⟩ := trodVars_none hV
  obtain ⟨n0, m0, rfl, w0⟩ := arg_ratio (hval 0 48 v0 rfl rfl) h0
  refine (walk n0 m0 w0 W hl).mono fun e W' ⟨he, hb⟩ => ?_
  subst he
  exact ⟨_, rfl, post_lawv laidOut (by kernel_rfl) (by kernel_rfl) (by kernel_rfl) Tryd.underlying4 hW' rfl hb⟩

noncomputable def low : Nat := (World.holding Tryd.prog default ⟨#[], #[], []⟩).heap.size
/-- a world for the witness: each listed variable holds what is listed -/
noncomputable def laidWorld (os : Os) : World :=
  { World.holding Tryd.prog os ⟨#[], #[], []⟩ with heap := ((((World.holding Tryd.prog os ⟨#[], #[], []⟩).heap).modify 5 (layCells (datCells (H := Unit) Rows.laid_math_bits_deBruijn32tab))).modify 6 (layCells (datCells (H := Unit) Rows.laid_math_bits_deBruijn64tab))).modify 4 (layCells (datCells (H := Unit) Rows.laid_internal_strconv_uint64pow10)) }
theorem laid_met (os : Os) : laidMet Tryd.prog Rows.fnExactRatioTextRow.laid ((laidWorld os).forCall (fun _ _ => 0) ⟨#[], #[Value.agg #[.int .i64 0, .int .i64 0]], []⟩).memory :=
  laidMet_of_run' 8 (by kernel_rfl) (by kernel_rfl)
theorem reads (os : Os) {H : Type} (enc : TypeId × Value → H) : ∃ places, DataW.whole enc Tryd.prog ((laidWorld os).forCall (fun _ _ => 0) ⟨#[], #[Value.agg #[.int .i64 0, .int .i64 0]], []⟩).memory Tryd.f7.params.toList Rows.fnExactRatioTextSpec.vars false #[Value.agg #[.int .i64 0, .int .i64 0]].toList 8 = some ([.agg [.lit (.int .i64 0), .lit (.int .i64 0)]], [], places) :=
  places_of (by kernel_rfl)

set_option maxRecDepth 100000 in
theorem lifted (os : Os) (started : os.Started) (H : Type) (enc : TypeId × Value → H) (F : Stop.Interp) :
    ReturnsInHanded {} Tryd.checked os 7 .any ((OpenSpec.ofChange Rows.fnExactRatioTextSpec).preRow enc Tryd.prog Tryd.f7 Rows.fnExactRatioTextRow.domain false Rows.fnExactRatioTextRow.laid) (((OpenSpec.ofChange Rows.fnExactRatioTextSpec).at F).post enc Tryd.prog Tryd.f7 false true false false) := by
  obtain ⟨places, hx⟩ := reads os enc
  refine returnsInHanded_of_row (C := Tryd.checked) (s := OpenSpec.ofChange Rows.fnExactRatioTextSpec) own started (by kernel_rfl) Tryd.func7
    (witness_row_at (enc := enc) (C := Tryd.checked) false (laidWorld os) #[Value.agg #[.int .i64 0, .int .i64 0]] rfl (by kernel_rfl) (by kernel_rfl) (by kernel_rfl)
      (OpenSpec.preRow_of_cond 8 hx (by kernel_rfl) (fun k hk => by cases hk) (by kernel_rfl) (by rw [Go.MakeChecks.laidMetH_plain _ _ _ (by kernel_rfl)]; exact laid_met os))) ?_
  intro W base args ds gs before hval hW _ _ _ hL hsh _
  exact contract H enc W base args ds gs before hval hW hL hsh

theorem said : Rows.FnExactRatioTextSaid :=
  OpenClaim.holds_of_cond 7 Tryd.f7 rfl rfl rfl rfl rfl rfl rfl ⟨rfl, rfl, rfl, rfl, rfl⟩ rfl rfl rfl rfl rfl (by kernel_rfl) Tryd.func7 (by kernel_rfl)
    (of_decide_eq_true (by kernel_rfl)) (by unfold Func.isWrapper; first | (rw [if_pos (by decide +kernel)]; kernel_rfl) | (rw [if_neg (by decide +kernel)]; exact ⟨rfl, rfl⟩))
    (fun os started H enc _ F => by rw [OpenClaim.pre_eq_preRow]; exact lifted os started H enc F)

theorem plain (f : FuncId) (fn : Func) (hf : Tryd.pinned.checked.prog.funcNamed "loop.example/g01033/laws.FnExactRatioText" = some f) (hfn : Tryd.pinned.checked.prog.funcs[f]? = some fn) :
    true = Tryd.pinned.checked.prog.looks [] ∧ ∀ (j : Nat) t, fn.params[j]? = some t → Tryd.pinned.checked.prog.wantsStandIn t = false := by
  obtain rfl : f = 7 := Option.some.inj ((show Tryd.prog.funcNamed "loop.example/g01033/laws.FnExactRatioText" = some 7 by kernel_rfl).symm.trans hf) |>.symm
  obtain rfl : fn = Tryd.f7 := (Option.some.inj (Tryd.func7.symm.trans hfn)).symm
  refine ⟨by kernel_rfl, fun j t ht => ?_⟩
  rw [Tryd.params7] at ht
  have hm := Array.mem_of_getElem? ht
  have hall : ∀ t ∈ #[48], Tryd.prog.wantsStandIn t = false := by
    intro t ht
    simp at ht
    subst ht; kernel_rfl
  exact hall t hm

theorem card : Rows.FnExactRatioTextCardSaid :=
  Claim7.holds_tied_plain_at .later [] _ _ _ _ said (fun _ h => by cases h) (by kernel_rfl) (fun _ h => by cases h) fnExactRatioText_row_tie rfl ⟨rfl, rfl⟩ (by kernel_rfl) rfl plain (by kernel_rfl)
theorem proved : Rows.FnExactRatioTextCardSaid := card
#print axioms proved
end Go.Proofs.YtpbbbkmcmfljdaaDoor.fnExactRatioText
