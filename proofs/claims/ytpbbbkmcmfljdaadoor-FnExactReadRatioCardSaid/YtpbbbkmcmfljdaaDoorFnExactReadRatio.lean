/- 'laws.FnExactReadRatio' returns true at every string: ReadRatio on both sides is one reading (readRE). -/
import Derived.Test.YtpbbbkmcmfljdaaDoorRatRead
import Derived.Test.YtpbbbkmcmfljdaaDoorLawR
import Derived.Test.YtpbbbkmcmfljdaaDoorHold
namespace Go.Proofs.YtpbbbkmcmfljdaaDoor.fnExactReadRatio
open Go.ChangeShapes Go.WideShapes Go.ChangeAt Go.RowKit
set_option linter.unusedVariables false
set_option linter.unusedSimpArgs false
set_option maxRecDepth 100000

set_option maxHeartbeats 2000000 in
theorem walk (a0 : ByteArray) (w0 : a0.size ≤ maxLen) (w : World) {ps : List MemPlace} (hl : DataW.LaidVars Tryd.prog w Rows.fnExactReadRatioRow.laid ps) (hsh : w.ShapedOpen Tryd.prog) :
    Calls Tryd.prog 8 #[.string a0] w fun e w' => e = .returned (.bool true) ∧ Below w.heap.size w w' := by
  have w1 := w0
  unfold maxLen at w1
  by_cases h : 1048576 < a0.size
  · clear hl hsh
    go_enter Tryd.func8, Tryd.ntmps8
    go_wp2
    go_ret
    exact ⟨rfl, Below.refl _ _⟩
  · have hs : a0.size ≤ 1048576 := by omega
    have e : Rows.laid_internal_strconv_uint64pow10 = Lib.tabData (H := Unit) .u64 Lib.pow10Tab := by kernel_rfl
    have HV : Bx (Vars w) := Bx.mk ⟨tab_get hl (by rw [← e]; exact .tail _ (.tail _ (.head _))) (g := 4) (t := 128) (e := 81) (N := 20) (by kernel_rfl) (by kernel_rfl) Tryd.underlying128 Tryd.underlying81 (by kernel_rfl) (by kernel_rfl),
      sent_get hl (.tail _ (.tail _ (.tail _ (.tail _ (.head _))))) (g := 2) (t := 86) (by kernel_rfl) (by kernel_rfl) Tryd.underlying86,
      sent_get hl (.tail _ (.tail _ (.tail _ (.head _)))) (g := 3) (t := 86) (by kernel_rfl) (by kernel_rfl) Tryd.underlying86⟩
    obtain ⟨m, hm0⟩ : ∃ m, w.cell? ⟨1, 0, none⟩ = some (.int .i64 m) := Tryd.laysM145.s1_3 w hsh
    have HM : Bx (w.cell? ⟨1, 0, none⟩ = some (.int .i64 m) ∧ 1 < w.heap.size) := Bx.mk (by
      refine ⟨hm0, ?_⟩
      rcases Nat.lt_or_ge 1 w.heap.size with h | h
      · exact h
      · simp [World.cell?, Array.getElem?_eq_none h] at hm0)
    have hsp := fun W => readr_open (spec_readratio a0 W hs)
    have him := fun W h1 h2 => readr_open (impl_readratio a0 W hs h1 m h2)
    have HV2 : Bx (∀ W, Below w.heap.size w W → Bx (Vars W)) := Bx.mk (fun W hb => Bx.mk (HV.out.below hb))
    have HM2 : Bx (∀ W, Below w.heap.size w W → Bx (W.cell? ⟨1, 0, none⟩ = some (.int .i64 m) ∧ 1 < W.heap.size)) := Bx.mk (fun W hb => Bx.mk ⟨(hb.cell (p := ⟨1, 0, none⟩) HM.out.2).trans HM.out.1, Nat.lt_of_lt_of_le HM.out.2 hb.size⟩)
    clear hl e hsh hm0 HV HM w0 w1
    generalize readRE a0.data.toList = t at hsp him
    have he := fun W => law_eqratio t.1 t.2.1 t.1 t.2.1 W
    simp only [rat, beq_self_eq_true, Bool.and_self] at he
    go_enter Tryd.func8, Tryd.ntmps8
    go_wp2_with (fail)
    refine (hsp _).mono ?_
    rintro r w2 ⟨rfl, hb⟩
    have H2 := Bx.mk ((Holds.start w).below hb)
    clear hb
    go_wp2_with (fail)
    refine (him _ (HV2.out _ (H2.out.pair _ _ _ _).2) (HM2.out _ (H2.out.pair _ _ _ _).2)).mono ?_
    rintro r w4 ⟨rfl, hb⟩
    have H4 := Bx.mk ((H2.out.pair (.int .i64 t.1) (.int .i64 t.2.1) _ _).below hb)
    clear hb
    have d0 := H4.out.get (g := w2.heap.size) (k := 0) (v := .int .i64 t.1) (by simp)
    have d1 := H4.out.get (g := w2.heap.size) (k := 1) (v := .int .i64 t.2.1) (by simp)
    have dl := H4.out.lt (g := w2.heap.size) (k := 1) (v := .int .i64 t.2.1) (by simp)
    go_wp2_with (fail)
    refine (he _).mono ?_
    rintro r w5 ⟨rfl, hb⟩
    have H5 := Bx.mk ((H4.out.alloc _).below hb)
    clear hb
    go_wp2_with (fail)
    go_ret
    exact ⟨rfl, H5.out.2⟩

theorem own : ownKnob Tryd.prog.godebug = none := by kernel_rfl
theorem laidOut : laidOutB Tryd.prog = true := by kernel_rfl
theorem listed {W : World} (h : laidMetH Tryd.prog Rows.fnExactReadRatioRow.laid W) : ∃ ps, DataW.LaidVars Tryd.prog W Rows.fnExactReadRatioRow.laid ps := by
  rw [Go.MakeChecks.laidMetH_plain _ _ _ (by kernel_rfl)] at h
  obtain ⟨ps, h, _⟩ := h
  exact ⟨ps, h⟩
set_option maxRecDepth 100000 in
theorem contract (H : Type) (enc : TypeId × Value → H) (W : World) (base : Nat) (args : Array Value) (ds gs : List (DataW H)) (before : List MemPlace)
    (hval : ∀ (j : Nat) t v, Tryd.f8.params[j]? = some t → args[j]? = some v → Value.okWide Tryd.prog W .any base t v)
    (hW : DataW.Whole enc Tryd.prog Tryd.f8.params.toList Rows.fnExactReadRatioSpec.vars false W args.toList ds gs before) (hL : laidMetH Tryd.prog Rows.fnExactReadRatioRow.laid W) (hsh : W.ShapedOpen Tryd.prog) :
    Calls Tryd.prog 8 args W fun e W' => ∃ v, e = .returned v ∧ Rows.fnExactReadRatioSpec.post enc Tryd.prog Tryd.f8 false true false false W args v W' := by
  have hW' := hW
  obtain ⟨p, q, hA0, hV, rfl, hfz, hnd⟩ := hW
  obtain ⟨ps, hl⟩ := listed hL
  have hA : DataW.TrodAll enc Tryd.prog W 0 (fun _ => true) true Tryd.f8.params.toList args.toList ds p := hA0
  rw [Tryd.params8] at hA hval
  obtain ⟨v0, vs0, d0, ds0, p0, q0, hargs, rfl, rfl, h0, r0⟩ := trodAll_cons hA
  obtain ⟨rfl, rfl, rfl⟩ := trodAll_nil r0
  obtain rfl : args = #[v0] := by cases args; simp_all
  obtain ⟨rfl, rfl⟩ := trodVars_none hV
  obtain ⟨a0, rfl, rfl, rfl, w0⟩ := Go.ChangeMaps.open_string Tryd.underlying9 (hval 0 9 v0 rfl rfl) h0
  refine (walk a0 w0 W hl hsh).mono fun e W' ⟨he, hb⟩ => ?_
  subst he
  exact ⟨_, rfl, post_lawv laidOut (by kernel_rfl) (by kernel_rfl) (by kernel_rfl) Tryd.underlying4 hW' rfl hb⟩

noncomputable def low : Nat := (World.holding Tryd.prog default ⟨#[], #[], []⟩).heap.size
/-- a world for the witness: each listed variable holds what is listed -/
noncomputable def laidWorld (os : Os) : World :=
  { World.holding Tryd.prog os ⟨#[], #[], []⟩ with heap := ((((((World.holding Tryd.prog os ⟨#[.cells #[.string ⟨#[118, 97, 108, 117, 101, 32, 111, 117, 116, 32, 111, 102, 32, 114, 97, 110, 103, 101]⟩] 135, .cells #[.string ⟨#[105, 110, 118, 97, 108, 105, 100, 32, 115, 121, 110, 116, 97, 120]⟩] 135], #[], []⟩).heap).modify 5 (layCells (datCells (H := Unit) Rows.laid_math_bits_deBruijn32tab))).modify 6 (layCells (datCells (H := Unit) Rows.laid_math_bits_deBruijn64tab))).modify 4 (layCells (datCells (H := Unit) Rows.laid_internal_strconv_uint64pow10))).modify 3 (layCells [.iface 133 (.pointer (some ⟨low + 0, 0, none⟩))])).modify 2 (layCells [.iface 133 (.pointer (some ⟨low + 1, 0, none⟩))]) }
theorem laid_met (os : Os) : laidMet Tryd.prog Rows.fnExactReadRatioRow.laid ((laidWorld os).forCall (fun _ _ => 0) ⟨#[], #[Value.string ⟨#[]⟩], []⟩).memory :=
  laidMet_of_run' 8 (by kernel_rfl) (by kernel_rfl)
theorem reads (os : Os) {H : Type} (enc : TypeId × Value → H) : ∃ places, DataW.whole enc Tryd.prog ((laidWorld os).forCall (fun _ _ => 0) ⟨#[], #[Value.string ⟨#[]⟩], []⟩).memory Tryd.f8.params.toList Rows.fnExactReadRatioSpec.vars false #[Value.string ⟨#[]⟩].toList 8 = some ([.lit (.string [])], [], places) :=
  places_of (by kernel_rfl)

set_option maxRecDepth 100000 in
theorem lifted (os : Os) (started : os.Started) (H : Type) (enc : TypeId × Value → H) (F : Stop.Interp) :
    ReturnsInHanded {} Tryd.checked os 8 .any ((OpenSpec.ofChange Rows.fnExactReadRatioSpec).preRow enc Tryd.prog Tryd.f8 Rows.fnExactReadRatioRow.domain false Rows.fnExactReadRatioRow.laid) (((OpenSpec.ofChange Rows.fnExactReadRatioSpec).at F).post enc Tryd.prog Tryd.f8 false true false false) := by
  obtain ⟨places, hx⟩ := reads os enc
  refine returnsInHanded_of_row (C := Tryd.checked) (s := OpenSpec.ofChange Rows.fnExactReadRatioSpec) own started (by kernel_rfl) Tryd.func8
    (witness_row_at (enc := enc) (C := Tryd.checked) false (laidWorld os) #[Value.string ⟨#[]⟩] rfl (by kernel_rfl) (by kernel_rfl) (by kernel_rfl)
      (OpenSpec.preRow_of_cond 8 hx (by kernel_rfl) (fun k hk => by cases hk) (by kernel_rfl) (by rw [Go.MakeChecks.laidMetH_plain _ _ _ (by kernel_rfl)]; exact laid_met os))) ?_
  intro W base args ds gs before hval hW _ _ _ hL hsh _
  exact contract H enc W base args ds gs before hval hW hL hsh

theorem said : Rows.FnExactReadRatioSaid :=
  OpenClaim.holds_of_cond 8 Tryd.f8 rfl rfl rfl rfl rfl rfl rfl ⟨rfl, rfl, rfl, rfl, rfl⟩ rfl rfl rfl rfl rfl (by kernel_rfl) Tryd.func8 (by kernel_rfl)
    (of_decide_eq_true (by kernel_rfl)) (by unfold Func.isWrapper; first | (rw [if_pos (by decide +kernel)]; kernel_rfl) | (rw [if_neg (by decide +kernel)]; exact ⟨rfl, rfl⟩))
    (fun os started H enc _ F => by rw [OpenClaim.pre_eq_preRow]; exact lifted os started H enc F)

theorem plain (f : FuncId) (fn : Func) (hf : Tryd.pinned.checked.prog.funcNamed "loop.example/g01033/laws.FnExactReadRatio" = some f) (hfn : Tryd.pinned.checked.prog.funcs[f]? = some fn) :
    true = Tryd.pinned.checked.prog.looks [] ∧ ∀ (j : Nat) t, fn.params[j]? = some t → Tryd.pinned.checked.prog.wantsStandIn t = false := by
  obtain rfl : f = 8 := Option.some.inj ((show Tryd.prog.funcNamed "loop.example/g01033/laws.FnExactReadRatio" = some 8 by kernel_rfl).symm.trans hf) |>.symm
  obtain rfl : fn = Tryd.f8 := (Option.some.inj (Tryd.func8.symm.trans hfn)).symm
  refine ⟨by kernel_rfl, fun j t ht => ?_⟩
  rw [Tryd.params8] at ht
  have hm := Array.mem_of_getElem? ht
  have hall : ∀ t ∈ #[9], Tryd.prog.wantsStandIn t = false := by
    intro t ht
    simp at ht
    subst ht; kernel_rfl
  exact hall t hm

theorem card : Rows.FnExactReadRatioCardSaid :=
  Claim7.holds_tied_plain_at .later [] _ _ _ _ said (fun _ h => by cases h) (by kernel_rfl) (fun _ h => by cases h) fnExactReadRatio_row_tie rfl ⟨rfl, rfl⟩ (by kernel_rfl) rfl plain (by kernel_rfl)
theorem proved : Rows.FnExactReadRatioCardSaid := card
#print axioms proved
end Go.Proofs.YtpbbbkmcmfljdaaDoor.fnExactReadRatio
