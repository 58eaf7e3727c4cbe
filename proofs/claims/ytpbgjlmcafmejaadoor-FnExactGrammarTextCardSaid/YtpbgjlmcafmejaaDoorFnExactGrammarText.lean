/- 'laws.FnExactGrammarText' returns true at every input: GrammarText on both sides is one function. -/
import Derived.Test.YtpbgjlmcafmejaaDoorTg
import Derived.Test.YtpbgjlmcafmejaaDoorTgS
import Derived.Deep.RegionWith
import Derived.Deep.RegionHeld3
namespace Go.Proofs.YtpbgjlmcafmejaaDoor.fnExactGrammarText
open Go.ChangeShapes Go.WideShapes Go.ChangeAt Go.RowKit
set_option linter.unusedVariables false
set_option linter.unusedSimpArgs false
set_option maxRecDepth 100000

set_option maxHeartbeats 8000000 in
theorem walk (R0 : Gr) (v0 : Value) {w : World} (w0 : GrAt w v0 R0 ∧ SmG0 R0) {ps : List MemPlace} (hl : DataW.LaidVars Tryd.prog w Rows.fnExactGrammarTextRow.laid ps) :
    Calls Tryd.prog 3 #[v0] w fun e w' => e = .returned (.bool true) ∧ Below w.heap.size w w' := by
  have e : Rows.laid_internal_strconv_uint64pow10 = Lib.tabData (H := Unit) .u64 Lib.pow10Tab := by kernel_rfl
  have HT : Bx (Lib.TabIs Tryd.prog w "internal/strconv.uint64pow10" .u64 Lib.pow10Tab) := Bx.mk (tab_get hl (by rw [← e]; exact .tail _ (.tail _ (.head _))) (g := 3) (t := 168) (e := 154) (N := 20) (by kernel_rfl) (by kernel_rfl) Tryd.underlying168 Tryd.underlying154 (by kernel_rfl) (by kernel_rfl))
  clear hl e
  obtain ⟨hi0, hm0⟩ := w0
  have HR0 := Bx.mk hi0
  obtain ⟨B0, b0, C0, c0, rfl, _, _⟩ := gr_form hi0
  clear hi0
  have X0 := BoxN.at w (w.heap.size) #[.int .i64 R0.n, .int .i64 R0.s, .slice B0 R0.f.length b0, .slice C0 R0.a.length c0] 25 (by simp)
  have hb : Below w.heap.size w (w.alloc (.cells #[.int .i64 R0.n, .int .i64 R0.s, .slice B0 R0.f.length b0, .slice C0 R0.a.length c0] 25)) := ((Below.refl _ _).alloc (Nat.le_refl _) _)
  generalize hW : w.alloc (.cells #[.int .i64 R0.n, .int .i64 R0.s, .slice B0 R0.f.length b0, .slice C0 R0.a.length c0] 25) = q0 at hb X0
  have B_0 := Bx.mk hb
  have X0_0 := Bx.mk X0
  clear hb X0
  have y0_0 := X0_0.out.c (k := 0) rfl
  have y0_1 := X0_0.out.c (k := 1) rfl
  have y0_2 := X0_0.out.c (k := 2) rfl
  have y0_3 := X0_0.out.c (k := 3) rfl
  have y0_l := X0_0.out.lt
  go_enter Tryd.func3, Tryd.ntmps3
  go_wp2_with (fail)
  try clear hW
  refine (sz_gr _ R0 1048576 (by decide) _ (HR0.out.below B_0.out) hm0).mono ?_
  rintro e1 q1 ⟨z0, rfl, hz0, hb⟩
  have B_1 := Bx.mk (B_0.out.trans (hb.mono B_0.out.size))
  have X0_1 := Bx.mk (X0_0.out.below hb)
  clear B_0 X0_0 y0_0 y0_1 y0_2 y0_3 y0_l hb
  have y0_0 := X0_1.out.c (k := 0) rfl
  have y0_1 := X0_1.out.c (k := 1) rfl
  have y0_2 := X0_1.out.c (k := 2) rfl
  have y0_3 := X0_1.out.c (k := 3) rfl
  have y0_l := X0_1.out.lt
  rcases hz0 with rfl | ⟨hy0, hx0, SM0⟩
  · go_wp2_with (fail)
    go_ret
    exact ⟨rfl, B_1.out⟩
  have SM0 := Bx.mk SM0
  have hd0 : decide (z0 < 0) = false := decide_eq_false (by omega)
  go_wp2_with (fail)
  clear hm0
  have hs := fun v W (h : GrAt W v R0) => spec_gramtext v R0 W h SM0.out
  have hi := fun v W (hb : Below w.heap.size w W) (h : GrAt W v R0) => impl_gramtext v R0 W h SM0.out (Bx.mk (tab_below hb HT.out))
  generalize (⟨(gramT R0).toArray⟩ : ByteArray) = t at hs hi
  refine (gr_copy _ R0 _ (HR0.out.below (B_1.out)) SM0.out).mono ?_
  rintro e2 q2 ⟨vs0, rfl, hr, hb⟩
  have Vs0_2 := Bx.mk hr
  obtain ⟨Bs0, bs0, Cs0, cs0, rfl, _, _⟩ := gr_form hr
  clear hr
  have B_2 := Bx.mk (B_1.out.trans (hb.mono B_1.out.size))
  have X0_2 := Bx.mk (X0_1.out.below hb)
  clear B_1 X0_1 y0_0 y0_1 y0_2 y0_3 y0_l hb
  have y0_0 := X0_2.out.c (k := 0) rfl
  have y0_1 := X0_2.out.c (k := 1) rfl
  have y0_2 := X0_2.out.c (k := 2) rfl
  have y0_3 := X0_2.out.c (k := 3) rfl
  have y0_l := X0_2.out.lt
  go_wp2_with (fail)
  refine (hs _ _ Vs0_2.out).mono ?_
  rintro e3 q3 ⟨rfl, hb⟩
  have B_3 := Bx.mk (B_2.out.trans (hb.mono B_2.out.size))
  have X0_3 := Bx.mk (X0_2.out.below hb)
  have Vs0_3 := Bx.mk (Vs0_2.out.below hb)
  clear B_2 X0_2 Vs0_2 y0_0 y0_1 y0_2 y0_3 y0_l hb
  have y0_0 := X0_3.out.c (k := 0) rfl
  have y0_1 := X0_3.out.c (k := 1) rfl
  have y0_2 := X0_3.out.c (k := 2) rfl
  have y0_3 := X0_3.out.c (k := 3) rfl
  have y0_l := X0_3.out.lt
  go_wp2_with (fail)
  refine (gr_copy _ R0 _ (HR0.out.below (B_3.out)) SM0.out).mono ?_
  rintro e4 q4 ⟨vx0, rfl, hr, hb⟩
  have Vx0_4 := Bx.mk hr
  obtain ⟨Bx0, bx0, Cx0, cx0, rfl, _, _⟩ := gr_form hr
  clear hr
  have B_4 := Bx.mk (B_3.out.trans (hb.mono B_3.out.size))
  have X0_4 := Bx.mk (X0_3.out.below hb)
  have Vs0_4 := Bx.mk (Vs0_3.out.below hb)
  clear B_3 X0_3 Vs0_3 y0_0 y0_1 y0_2 y0_3 y0_l hb
  have y0_0 := X0_4.out.c (k := 0) rfl
  have y0_1 := X0_4.out.c (k := 1) rfl
  have y0_2 := X0_4.out.c (k := 2) rfl
  have y0_3 := X0_4.out.c (k := 3) rfl
  have y0_l := X0_4.out.lt
  go_wp2_with (fail)
  refine (hi _ _ (B_4.out.alloc B_4.out.size _) (Vx0_4.out.below ((Below.refl _ _).alloc (Nat.le_refl _) _))).mono ?_
  rintro e5 q5 ⟨rfl, hb⟩
  have hbp : Below q4.heap.size q4 q5 := ((Below.refl _ _).alloc (Nat.le_refl _) _).trans (hb.mono (by simp))
  have X1_5 := Bx.mk ((BoxN.at q4 q4.heap.size #[.int .i64 R0.n, .int .i64 R0.s, .slice Bx0 R0.f.length bx0, .slice Cx0 R0.a.length cx0] 30 rfl).below hb)
  have B_5 := Bx.mk (B_4.out.trans (hbp.mono B_4.out.size))
  have X0_5 := Bx.mk (X0_4.out.below hbp)
  have Vs0_5 := Bx.mk (Vs0_4.out.below hbp)
  have Vx0_5 := Bx.mk (Vx0_4.out.below hbp)
  clear B_4 X0_4 Vs0_4 Vx0_4 y0_0 y0_1 y0_2 y0_3 y0_l hb hbp
  have y0_0 := X0_5.out.c (k := 0) rfl
  have y0_1 := X0_5.out.c (k := 1) rfl
  have y0_2 := X0_5.out.c (k := 2) rfl
  have y0_3 := X0_5.out.c (k := 3) rfl
  have y0_l := X0_5.out.lt
  have y1_0 := X1_5.out.c (k := 0) rfl
  have y1_1 := X1_5.out.c (k := 1) rfl
  have y1_2 := X1_5.out.c (k := 2) rfl
  have y1_3 := X1_5.out.c (k := 3) rfl
  have y1_l := X1_5.out.lt
  go_wp2_with (fail)
  go_region_with (first
    | (go_at_call 8; (with_reducible refine (gr_copy _ R0 _ (HR0.out.below B_5.out.drew) SM0.out).mono ?_); rintro r wc ⟨ve, rfl, hr, hb4⟩; have HC := Bx.mk hr; obtain ⟨Be, be, Ce, ce, rfl, _, _⟩ := gr_form hr; have BC : Bx (Below q5.heap.size q5 wc) := Bx.mk ((Below.refl _ _).drew.trans hb4); clear hr hb4; have z1_0 := (X1_5.out.below BC.out).c (k := 0) rfl; have z1_1 := (X1_5.out.below BC.out).c (k := 1) rfl; have z1_2 := (X1_5.out.below BC.out).c (k := 2) rfl; have z1_3 := (X1_5.out.below BC.out).c (k := 3) rfl; have z0_0 := (X0_5.out.below BC.out).c (k := 0) rfl; have z0_1 := (X0_5.out.below BC.out).c (k := 1) rfl; have z0_2 := (X0_5.out.below BC.out).c (k := 2) rfl; have z0_3 := (X0_5.out.below BC.out).c (k := 3) rfl; have z1_l := (X1_5.out.below BC.out).lt; have z0_l := (X0_5.out.below BC.out).lt)
    | (go_at_call 10; (with_reducible refine (eq_gr _ _ R0 _ (Vx0_5.out.below BC.out) HC.out SM0.out).mono ?_); rintro r wd ⟨rfl, hb5⟩; have BE : Bx (Below q5.heap.size q5 wd) := Bx.mk (BC.out.trans (hb5.mono BC.out.size)); have BD := Bx.mk (B_5.out.trans ((BC.out.trans (hb5.mono BC.out.size)).mono B_5.out.size)); clear hb5))
  all_goals
    go_wp2_with (fail)
    go_ret
    exact ⟨rfl, BD.out⟩

theorem own : ownKnob Tryd.prog.godebug = none := by kernel_rfl
theorem laidOut : laidOutB Tryd.prog = true := by kernel_rfl
theorem listed {W : World} (h : laidMetH Tryd.prog Rows.fnExactGrammarTextRow.laid W) : ∃ ps, DataW.LaidVars Tryd.prog W Rows.fnExactGrammarTextRow.laid ps := by
  rw [Go.MakeChecks.laidMetH_plain _ _ _ (by kernel_rfl)] at h
  obtain ⟨ps, h, _⟩ := h
  exact ⟨ps, h⟩
set_option maxRecDepth 100000 in
theorem contract (H : Type) (enc : TypeId × Value → H) (W : World) (base : Nat) (args : Array Value) (ds gs : List (DataW H)) (before : List MemPlace)
    (hval : ∀ (j : Nat) t v, Tryd.f3.params[j]? = some t → args[j]? = some v → Value.okWide Tryd.prog W .any base t v)
    (hW : DataW.Whole enc Tryd.prog Tryd.f3.params.toList Rows.fnExactGrammarTextSpec.vars false W args.toList ds gs before) (hL : laidMetH Tryd.prog Rows.fnExactGrammarTextRow.laid W) (hsh : W.ShapedOpen Tryd.prog) :
    Calls Tryd.prog 3 args W fun e W' => ∃ v, e = .returned v ∧ Rows.fnExactGrammarTextSpec.post enc Tryd.prog Tryd.f3 false true false false W args v W' := by
  have hW' := hW
  obtain ⟨p, q, hA0, hV, rfl, hfz, hnd⟩ := hW
  obtain ⟨ps, hl⟩ := listed hL
  have hA : DataW.TrodAll enc Tryd.prog W 0 (fun _ => true) true Tryd.f3.params.toList args.toList ds p := hA0
  rw [Tryd.params3] at hA hval
  obtain ⟨v0, vs0, d0, ds0, p0, q0, hargs, rfl, rfl, h0, r0⟩ := trodAll_cons hA
  obtain ⟨rfl, rfl, rfl⟩ := trodAll_nil r0
  obtain rfl : args = #[v0] := by cases args; simp_all
  obtain ⟨rfl, rfl⟩ := trodVars_none hV
  obtain ⟨R0, w0⟩ := arg_gr (hval 0 25 v0 rfl rfl) h0
  replace w0 := (show GrAt W v0 R0 ∧ SmG0 R0 from w0)
  refine (walk R0 v0 w0  hl).mono fun e W' ⟨he, hb⟩ => ?_
  subst he
  exact ⟨_, rfl, post_lawv laidOut (by kernel_rfl) (by kernel_rfl) (by kernel_rfl) Tryd.underlying4 hW' rfl hb⟩

noncomputable def low : Nat := (World.holding Tryd.prog default ⟨#[], #[], []⟩).heap.size
/-- a world for the witness: each listed variable holds what is listed -/
noncomputable def laidWorld (os : Os) : World :=
  { World.holding Tryd.prog os ⟨#[], #[], []⟩ with heap := ((((World.holding Tryd.prog os ⟨#[], #[], []⟩).heap).modify 8 (layCells (datCells (H := Unit) Rows.laid_math_bits_deBruijn32tab))).modify 9 (layCells (datCells (H := Unit) Rows.laid_math_bits_deBruijn64tab))).modify 3 (layCells (datCells (H := Unit) Rows.laid_internal_strconv_uint64pow10)) }
theorem laid_met (os : Os) : laidMet Tryd.prog Rows.fnExactGrammarTextRow.laid ((laidWorld os).forCall (fun _ _ => 0) ⟨#[], #[Value.agg #[.int .i64 0, .int .i64 0, .slice none 0 0, .slice none 0 0]], []⟩).memory :=
  laidMet_of_run' 8 (by kernel_rfl) (by kernel_rfl)
theorem reads (os : Os) {H : Type} (enc : TypeId × Value → H) : ∃ places, DataW.whole enc Tryd.prog ((laidWorld os).forCall (fun _ _ => 0) ⟨#[], #[Value.agg #[.int .i64 0, .int .i64 0, .slice none 0 0, .slice none 0 0]], []⟩).memory Tryd.f3.params.toList Rows.fnExactGrammarTextSpec.vars false #[Value.agg #[.int .i64 0, .int .i64 0, .slice none 0 0, .slice none 0 0]].toList 8 = some ([.agg [.lit (.int .i64 0), .lit (.int .i64 0), .nil, .nil]], [], places) :=
  places_of (by kernel_rfl)

set_option maxRecDepth 100000 in
theorem lifted (os : Os) (started : os.Started) (H : Type) (enc : TypeId × Value → H) (F : Stop.Interp) :
    ReturnsInHanded {} Tryd.checked os 3 .any ((OpenSpec.ofChange Rows.fnExactGrammarTextSpec).preRow enc Tryd.prog Tryd.f3 Rows.fnExactGrammarTextRow.domain false Rows.fnExactGrammarTextRow.laid) (((OpenSpec.ofChange Rows.fnExactGrammarTextSpec).at F).post enc Tryd.prog Tryd.f3 false true false false) := by
  obtain ⟨places, hx⟩ := reads os enc
  refine returnsInHanded_of_row (C := Tryd.checked) (s := OpenSpec.ofChange Rows.fnExactGrammarTextSpec) own started (by kernel_rfl) Tryd.func3
    (witness_row_at (enc := enc) (C := Tryd.checked) false (laidWorld os) #[Value.agg #[.int .i64 0, .int .i64 0, .slice none 0 0, .slice none 0 0]] rfl (by kernel_rfl) (by kernel_rfl) (by kernel_rfl)
      (OpenSpec.preRow_of_cond 8 hx (by kernel_rfl) (fun k hk => by cases hk) (by kernel_rfl) (by rw [Go.MakeChecks.laidMetH_plain _ _ _ (by kernel_rfl)]; exact laid_met os))) ?_
  intro W base args ds gs before hval hW _ _ _ hL hsh _
  exact contract H enc W base args ds gs before hval hW hL hsh

theorem said : Rows.FnExactGrammarTextSaid :=
  OpenClaim.holds_of_cond 3 Tryd.f3 rfl rfl rfl rfl rfl rfl rfl ⟨rfl, rfl, rfl, rfl, rfl⟩ rfl rfl rfl rfl rfl (by kernel_rfl) Tryd.func3 (by kernel_rfl)
    (of_decide_eq_true (by kernel_rfl)) (by unfold Func.isWrapper; first | (rw [if_pos (by decide +kernel)]; kernel_rfl) | (rw [if_neg (by decide +kernel)]; exact ⟨rfl, rfl⟩))
    (fun os started H enc _ F => by rw [OpenClaim.pre_eq_preRow]; exact lifted os started H enc F)

theorem plain (f : FuncId) (fn : Func) (hf : Tryd.pinned.checked.prog.funcNamed "loop.example/g01033/laws.FnExactGrammarText" = some f) (hfn : Tryd.pinned.checked.prog.funcs[f]? = some fn) :
    true = Tryd.pinned.checked.prog.looks [] ∧ ∀ (j : Nat) t, fn.params[j]? = some t → Tryd.pinned.checked.prog.wantsStandIn t = false := by
  obtain rfl : f = 3 := Option.some.inj ((show Tryd.prog.funcNamed "loop.example/g01033/laws.FnExactGrammarText" = some 3 by kernel_rfl).symm.trans hf) |>.symm
  obtain rfl : fn = Tryd.f3 := (Option.some.inj (Tryd.func3.symm.trans hfn)).symm
  refine ⟨by kernel_rfl, fun j t ht => ?_⟩
  rw [Tryd.params3] at ht
  have hm := Array.mem_of_getElem? ht
  have hall : ∀ t ∈ #[25], Tryd.prog.wantsStandIn t = false := by
    intro t ht
    simp at ht
    subst ht; kernel_rfl
  exact hall t hm

theorem card : Rows.FnExactGrammarTextCardSaid :=
  Claim7.holds_tied_plain_at .later [] _ _ _ _ said (fun _ h => by cases h) (by kernel_rfl) (fun _ h => by cases h) fnExactGrammarText_row_tie rfl ⟨rfl, rfl⟩ (by kernel_rfl) rfl plain (by kernel_rfl)
theorem proved : Rows.FnExactGrammarTextCardSaid := card
#print axioms proved
end Go.Proofs.YtpbgjlmcafmejaaDoor.fnExactGrammarText
