/- 'laws.FnExactItemText' returns true at every input: ItemText on both sides is one function. -/
import Derived.Test.YtmbillcdlcgjiaaDoorHt
import Derived.Test.YtmbillcdlcgjiaaDoorLaw
namespace Go.Proofs.YtmbillcdlcgjiaaDoor.fnExactItemText
open Go.ChangeShapes Go.WideShapes Go.ChangeAt Go.RowKit
set_option linter.unusedVariables false
set_option linter.unusedSimpArgs false
set_option maxRecDepth 100000

set_option maxHeartbeats 4000000 in
theorem walk (x0 : It) (w0 : WfI x0) (w : World) {ps : List MemPlace} (hl : DataW.LaidVars Tryd.prog w Rows.fnExactItemTextRow.laid ps) :
    Calls Tryd.prog 3 #[itV x0] w fun e w' => e = .returned (.bool true) ∧ Below w.heap.size w w' := by
  have e : Rows.laid_internal_strconv_uint64pow10 = Lib.tabData (H := Unit) .u64 Lib.pow10Tab := by kernel_rfl
  have HTAB : Bx (Lib.TabIs Tryd.prog w "internal/strconv.uint64pow10" .u64 Lib.pow10Tab) := Bx.mk (tab_get hl (by rw [← e]; exact .tail _ (.tail _ (.head _))) (g := 1) (t := 99) (e := 78) (N := 20) (by kernel_rfl) (by kernel_rfl) Tryd.underlying99 Tryd.underlying78 (by kernel_rfl) (by kernel_rfl))
  clear hl e
  have B0 : Bx (Below w.heap.size w w) := Bx.mk (Below.refl _ _)
  have hx := c6_alloc w x0 23
  have hb : Below w.heap.size w (w.alloc (.cells #[.string x0.nm, .int .i64 x0.f, .int .i64 x0.u, .int .i64 x0.s, .int .i64 x0.m, .int .i64 x0.p] 23)) := (Below.refl _ _).alloc (Nat.le_refl _) _
  have hlx : w.heap.size < (w.alloc (.cells #[.string x0.nm, .int .i64 x0.f, .int .i64 x0.u, .int .i64 x0.s, .int .i64 x0.m, .int .i64 x0.p] 23)).heap.size := by simp
  generalize hW : w.alloc (.cells #[.string x0.nm, .int .i64 x0.f, .int .i64 x0.u, .int .i64 x0.s, .int .i64 x0.m, .int .i64 x0.p] 23) = q1 at hx hb hlx
  unfold itV
  go_enter Tryd.func3, Tryd.ntmps3
  have B1 := Bx.mk hb
  have SZ1 := Bx.mk hb.size
  have XC_1 := Bx.mk hx
  have XL_1 := Bx.mk hlx
  clear hb hx hlx B0
  have y0 := XC_1.out.c0
  have y1 := XC_1.out.c1
  have y2 := XC_1.out.c2
  have y3 := XC_1.out.c3
  have y4 := XC_1.out.c4
  have y5 := XC_1.out.c5
  have yl := XL_1.out
  go_wp2_with (fail)
  try clear hW
  have HZ := fun W => sz_item x0 1048576 W (by decide) w0.n
  have HT := fun W => law_toitem x0 W
  unfold itV at HZ HT
  refine (HZ _).mono ?_
  rintro e2 q2 ⟨rfl, hb⟩
  by_cases hs0 : 1048576 < (x0.nm.size : Int)
  · rw [show szI x0.nm.size 1048576 = -1 from if_pos hs0]
    have BZ := Bx.mk (B1.out.trans (hb.mono B1.out.size))
    clear hb B1 HZ
    go_wp2_with (fail)
    go_ret
    exact ⟨rfl, BZ.out⟩
  rw [show szI x0.nm.size 1048576 = 1048576 - x0.nm.size from if_neg hs0]
  obtain ⟨z0, ez0, hz0⟩ : ∃ z : Int, z = 1048576 - (x0.nm.size : Int) ∧ (0 ≤ z ∧ z ≤ 1048576) := ⟨_, rfl, by omega⟩
  rw [← ez0]
  have hd0 : decide (z0 < 0) = false := decide_eq_false (by omega)
  clear ez0 hs0
  have XC_2 := Bx.mk (XC_1.out.below XL_1.out hb)
  have XL_2 := Bx.mk (Nat.lt_of_lt_of_le XL_1.out hb.size)
  clear XC_1 XL_1 y0 y1 y2 y3 y4 y5 yl
  have y0 := XC_2.out.c0
  have y1 := XC_2.out.c1
  have y2 := XC_2.out.c2
  have y3 := XC_2.out.c3
  have y4 := XC_2.out.c4
  have y5 := XC_2.out.c5
  have yl := XL_2.out
  have B2 : Bx (Below w.heap.size w q2) := Bx.mk (B1.out.trans (hb.mono B1.out.size))
  have SZ2 : Bx (q1.heap.size ≤ q2.heap.size) := Bx.mk hb.size
  clear hb
  go_wp2_with (fail)
  have hs : ∀ W, Calls Tryd.prog 6 #[itV x0] W (fun e w' => e = .returned (.string (textI x0)) ∧ Below W.heap.size W w') := fun W => spec_itemtext x0 W w0.n
  have hi : ∀ W, Below w.heap.size w W → Calls Tryd.prog 8 #[itV x0] W (fun e w' => e = .returned (.string (textI x0)) ∧ Below W.heap.size W w') := fun W hb => impl_itemtext x0 W w0.n (Bx.mk (tab_below hb HTAB.out))
  generalize textI x0 = r1 at hs hi
  unfold itV at hs hi
  refine (HT _).mono ?_
  rintro e3 q3 ⟨rfl, hb⟩
  have XC_3 := Bx.mk (XC_2.out.below XL_2.out hb)
  have XL_3 := Bx.mk (Nat.lt_of_lt_of_le XL_2.out hb.size)
  clear XC_2 XL_2 y0 y1 y2 y3 y4 y5 yl
  have y0 := XC_3.out.c0
  have y1 := XC_3.out.c1
  have y2 := XC_3.out.c2
  have y3 := XC_3.out.c3
  have y4 := XC_3.out.c4
  have y5 := XC_3.out.c5
  have yl := XL_3.out
  have B3 : Bx (Below w.heap.size w q3) := Bx.mk (B2.out.trans (hb.mono B2.out.size))
  have SZ3 : Bx (q2.heap.size ≤ q3.heap.size) := Bx.mk hb.size
  clear hb
  go_wp2_with (fail)
  refine (hs _).mono ?_
  rintro e4 q4 ⟨rfl, hb⟩
  have XC_4 := Bx.mk (XC_3.out.below XL_3.out hb)
  have XL_4 := Bx.mk (Nat.lt_of_lt_of_le XL_3.out hb.size)
  clear XC_3 XL_3 y0 y1 y2 y3 y4 y5 yl
  have y0 := XC_4.out.c0
  have y1 := XC_4.out.c1
  have y2 := XC_4.out.c2
  have y3 := XC_4.out.c3
  have y4 := XC_4.out.c4
  have y5 := XC_4.out.c5
  have yl := XL_4.out
  have B4 : Bx (Below w.heap.size w q4) := Bx.mk (B3.out.trans (hb.mono B3.out.size))
  have SZ4 : Bx (q3.heap.size ≤ q4.heap.size) := Bx.mk hb.size
  clear hb
  go_wp2_with (fail)
  refine (HT _).mono ?_
  rintro e5 q5 ⟨rfl, hb⟩
  have XC_5 := Bx.mk (XC_4.out.below XL_4.out hb)
  have XL_5 := Bx.mk (Nat.lt_of_lt_of_le XL_4.out hb.size)
  clear XC_4 XL_4 y0 y1 y2 y3 y4 y5 yl
  have y0 := XC_5.out.c0
  have y1 := XC_5.out.c1
  have y2 := XC_5.out.c2
  have y3 := XC_5.out.c3
  have y4 := XC_5.out.c4
  have y5 := XC_5.out.c5
  have yl := XL_5.out
  have B5 : Bx (Below w.heap.size w q5) := Bx.mk (B4.out.trans (hb.mono B4.out.size))
  have SZ5 : Bx (q4.heap.size ≤ q5.heap.size) := Bx.mk hb.size
  clear hb
  go_wp2_with (fail)
  refine (hi _ B5.out).mono ?_
  rintro e6 q6 ⟨rfl, hb⟩
  have XC_6 := Bx.mk (XC_5.out.below XL_5.out hb)
  have XL_6 := Bx.mk (Nat.lt_of_lt_of_le XL_5.out hb.size)
  clear XC_5 XL_5 y0 y1 y2 y3 y4 y5 yl
  have y0 := XC_6.out.c0
  have y1 := XC_6.out.c1
  have y2 := XC_6.out.c2
  have y3 := XC_6.out.c3
  have y4 := XC_6.out.c4
  have y5 := XC_6.out.c5
  have yl := XL_6.out
  have B6 : Bx (Below w.heap.size w q6) := Bx.mk (B5.out.trans (hb.mono B5.out.size))
  have SZ6 : Bx (q5.heap.size ≤ q6.heap.size) := Bx.mk hb.size
  clear hb
  go_wp2_with (fail)
  go_ret
  exact ⟨rfl, B6.out⟩

theorem own : ownKnob Tryd.prog.godebug = none := by kernel_rfl
theorem laidOut : laidOutB Tryd.prog = true := by kernel_rfl
theorem listed {W : World} (h : laidMetH Tryd.prog Rows.fnExactItemTextRow.laid W) : ∃ ps, DataW.LaidVars Tryd.prog W Rows.fnExactItemTextRow.laid ps := by
  rw [Go.MakeChecks.laidMetH_plain _ _ _ (by kernel_rfl)] at h
  obtain ⟨ps, h, _⟩ := h
  exact ⟨ps, h⟩
set_option maxRecDepth 100000 in
theorem contract (H : Type) (enc : TypeId × Value → H) (W : World) (base : Nat) (args : Array Value) (ds gs : List (DataW H)) (before : List MemPlace)
    (hval : ∀ (j : Nat) t v, Tryd.f3.params[j]? = some t → args[j]? = some v → Value.okWide Tryd.prog W .any base t v)
    (hW : DataW.Whole enc Tryd.prog Tryd.f3.params.toList Rows.fnExactItemTextSpec.vars false W args.toList ds gs before) (hL : laidMetH Tryd.prog Rows.fnExactItemTextRow.laid W) (hsh : W.ShapedOpen Tryd.prog) :
    Calls Tryd.prog 3 args W fun e W' => ∃ v, e = .returned v ∧ Rows.fnExactItemTextSpec.post enc Tryd.prog Tryd.f3 false true false false W args v W' := by
  have hW' := hW
  obtain ⟨p, q, hA0, hV, rfl, hfz, hnd⟩ := hW
  obtain ⟨ps, hl⟩ := listed hL
  have hA : DataW.TrodAll enc Tryd.prog W 0 (fun _ => true) true Tryd.f3.params.toList args.toList ds p := hA0
  rw [Tryd.params3] at hA hval
  obtain ⟨v0, vs0, d0, ds0, p0, q0, hargs, rfl, rfl, h0, r0⟩ := trodAll_cons hA
  obtain ⟨rfl, rfl, rfl⟩ := trodAll_nil r0
  obtain rfl : args = #[v0] := by cases args; simp_all
  obtain ⟨rfl, rfl⟩ := trodVars_none hV
  obtain ⟨x0, rfl, w0⟩ := arg_item (hval 0 23 v0 rfl rfl) h0
  refine (walk x0 w0 W hl).mono fun e W' ⟨he, hb⟩ => ?_
  subst he
  exact ⟨_, rfl, post_lawv laidOut (by kernel_rfl) (by kernel_rfl) (by kernel_rfl) Tryd.underlying4 hW' rfl hb⟩

noncomputable def low : Nat := (World.holding Tryd.prog default ⟨#[], #[], []⟩).heap.size
/-- a world for the witness: each listed variable holds what is listed -/
noncomputable def laidWorld (os : Os) : World :=
  { World.holding Tryd.prog os ⟨#[], #[], []⟩ with heap := ((((World.holding Tryd.prog os ⟨#[], #[], []⟩).heap).modify 6 (layCells (datCells (H := Unit) Rows.laid_math_bits_deBruijn32tab))).modify 7 (layCells (datCells (H := Unit) Rows.laid_math_bits_deBruijn64tab))).modify 1 (layCells (datCells (H := Unit) Rows.laid_internal_strconv_uint64pow10)) }
theorem laid_met (os : Os) : laidMet Tryd.prog Rows.fnExactItemTextRow.laid ((laidWorld os).forCall (fun _ _ => 0) ⟨#[], #[Value.agg #[.string ⟨#[]⟩, .int .i64 0, .int .i64 0, .int .i64 0, .int .i64 0, .int .i64 0]], []⟩).memory :=
  laidMet_of_run' 8 (by kernel_rfl) (by kernel_rfl)
theorem reads (os : Os) {H : Type} (enc : TypeId × Value → H) : ∃ places, DataW.whole enc Tryd.prog ((laidWorld os).forCall (fun _ _ => 0) ⟨#[], #[Value.agg #[.string ⟨#[]⟩, .int .i64 0, .int .i64 0, .int .i64 0, .int .i64 0, .int .i64 0]], []⟩).memory Tryd.f3.params.toList Rows.fnExactItemTextSpec.vars false #[Value.agg #[.string ⟨#[]⟩, .int .i64 0, .int .i64 0, .int .i64 0, .int .i64 0, .int .i64 0]].toList 8 = some ([.agg [.lit (.string []), .lit (.int .i64 0), .lit (.int .i64 0), .lit (.int .i64 0), .lit (.int .i64 0), .lit (.int .i64 0)]], [], places) :=
  places_of (by kernel_rfl)

set_option maxRecDepth 100000 in
theorem lifted (os : Os) (started : os.Started) (H : Type) (enc : TypeId × Value → H) (F : Stop.Interp) :
    ReturnsInHanded {} Tryd.checked os 3 .any ((OpenSpec.ofChange Rows.fnExactItemTextSpec).preRow enc Tryd.prog Tryd.f3 Rows.fnExactItemTextRow.domain false Rows.fnExactItemTextRow.laid) (((OpenSpec.ofChange Rows.fnExactItemTextSpec).at F).post enc Tryd.prog Tryd.f3 false true false false) := by
  obtain ⟨places, hx⟩ := reads os enc
  refine returnsInHanded_of_row (C := Tryd.checked) (s := OpenSpec.ofChange Rows.fnExactItemTextSpec) own started (by kernel_rfl) Tryd.func3
    (witness_row_at (enc := enc) (C := Tryd.checked) false (laidWorld os) #[Value.agg #[.string ⟨#[]⟩, .int .i64 0, .int .i64 0, .int .i64 0, .int .i64 0, .int .i64 0]] rfl (by kernel_rfl) (by kernel_rfl) (by kernel_rfl)
      (OpenSpec.preRow_of_cond 8 hx (by kernel_rfl) (fun k hk => by cases hk) (by kernel_rfl) (by rw [Go.MakeChecks.laidMetH_plain _ _ _ (by kernel_rfl)]; exact laid_met os))) ?_
  intro W base args ds gs before hval hW _ _ _ hL hsh _
  exact contract H enc W base args ds gs before hval hW hL hsh

theorem said : Rows.FnExactItemTextSaid :=
  OpenClaim.holds_of_cond 3 Tryd.f3 rfl rfl rfl rfl rfl rfl rfl ⟨rfl, rfl, rfl, rfl, rfl⟩ rfl rfl rfl rfl rfl (by kernel_rfl) Tryd.func3 (by kernel_rfl)
    (of_decide_eq_true (by kernel_rfl)) (by unfold Func.isWrapper; first | (rw [if_pos (by decide +kernel)]; kernel_rfl) | (rw [if_neg (by decide +kernel)]; exact ⟨rfl, rfl⟩))
    (fun os started H enc _ F => by rw [OpenClaim.pre_eq_preRow]; exact lifted os started H enc F)

theorem plain (f : FuncId) (fn : Func) (hf : Tryd.pinned.checked.prog.funcNamed "loop.example/g01033/laws.FnExactItemText" = some f) (hfn : Tryd.pinned.checked.prog.funcs[f]? = some fn) :
    true = Tryd.pinned.checked.prog.looks [] ∧ ∀ (j : Nat) t, fn.params[j]? = some t → Tryd.pinned.checked.prog.wantsStandIn t = false := by
  obtain rfl : f = 3 := Option.some.inj ((show Tryd.prog.funcNamed "loop.example/g01033/laws.FnExactItemText" = some 3 by kernel_rfl).symm.trans hf) |>.symm
  obtain rfl : fn = Tryd.f3 := (Option.some.inj (Tryd.func3.symm.trans hfn)).symm
  refine ⟨by kernel_rfl, fun j t ht => ?_⟩
  rw [Tryd.params3] at ht
  have hm := Array.mem_of_getElem? ht
  have hall : ∀ t ∈ #[23], Tryd.prog.wantsStandIn t = false := by
    intro t ht
    simp at ht
    subst ht; kernel_rfl
  exact hall t hm

theorem card : Rows.FnExactItemTextCardSaid :=
  Claim7.holds_tied_plain_at .later [] _ _ _ _ said (fun _ h => by cases h) (by kernel_rfl) (fun _ h => by cases h) fnExactItemText_row_tie rfl ⟨rfl, rfl⟩ (by kernel_rfl) rfl plain (by kernel_rfl)
theorem proved : Rows.FnExactItemTextCardSaid := card
#print axioms proved
end Go.Proofs.YtmbillcdlcgjiaaDoor.fnExactItemText
