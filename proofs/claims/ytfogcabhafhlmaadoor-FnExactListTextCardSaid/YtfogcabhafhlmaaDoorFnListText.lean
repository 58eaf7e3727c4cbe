/- 'laws.FnExactListText' returns true at every list: ListText on both sides is one text of lists (textL). -/
import Derived.Test.YtfogcabhafhlmaaDoorListText
namespace Go.Proofs.YtfogcabhafhlmaaDoor.fnExactListText
open Go.ChangeShapes Go.WideShapes Go.ChangeAt Go.RowKit
set_option linter.unusedVariables false

theorem len_of {w : World} {v : Value} {zs : List Int} (h : IntsAt w v zs) : ∃ A c, v = .slice A zs.length c := by
  rcases h with ⟨rfl, A, c, h⟩ | ⟨b, o, c, h, _⟩
  · exact ⟨A, c, h⟩
  · exact ⟨_, c, h⟩

set_option maxHeartbeats 1000000 in
set_option maxRecDepth 100000 in
theorem walk (v : Value) (zs : List Int) {w : World} (h : IntsAt w v zs ∧ zs.length ≤ 9223372036854775807) {ps : List MemPlace} (hl : DataW.LaidVars Tryd.prog w Rows.fnExactListTextRow.laid ps) :
    Calls Tryd.prog 8 #[v] w fun e w' => e = .returned (.bool true) ∧ Below w.heap.size w w' := by
  obtain ⟨hi, hmax⟩ := h
  obtain ⟨A, c, rfl⟩ := len_of hi
  by_cases hb : 1048576 < zs.length
  · clear hl hi
    go_enter Tryd.func8, Tryd.ntmps8
    go_wp2
    go_ret
    exact ⟨rfl, Below.refl _ _⟩
  · have e : Rows.laid_internal_strconv_uint64pow10 = Lib.tabData (H := Unit) .u64 Lib.pow10Tab := by kernel_rfl
    have HT : Bx (Lib.TabIs Tryd.prog w "internal/strconv.uint64pow10" .u64 Lib.pow10Tab) := Bx.mk (tab_get hl (by rw [← e]; exact .tail _ (.tail _ (.head _))) (g := 4) (t := 107) (e := 49) (N := 20) (by kernel_rfl) (by kernel_rfl) Tryd.underlying107 Tryd.underlying49 (by kernel_rfl) (by kernel_rfl))
    have HI := Bx.mk hi
    clear hl e hi
    have hz : zs.length ≤ 1048576 := by omega
    go_enter Tryd.func8, Tryd.ntmps8
    go_wp2_with (fail)
    refine (copy_ints _ zs w HI.out (by omega)).mono ?_
    rintro e w1 ⟨v1, rfl, ho1, hb1⟩
    have A1 := Bx.mk (IntsAt.own ho1)
    have B1 := Bx.mk hb1
    clear ho1 hb1
    go_wp2_with (fail)
    refine (spec_listtext v1 zs w1 A1.out (by omega)).mono ?_
    rintro e w2 ⟨rfl, hb2⟩
    have B2 : Bx (Below w.heap.size w w2) := Bx.mk (B1.out.trans (hb2.mono B1.out.size))
    clear hb2 A1 B1
    go_wp2_with (fail)
    refine (copy_ints _ zs w2 (HI.out.below B2.out) (by omega)).mono ?_
    rintro e w3 ⟨v3, rfl, ho3, hb3⟩
    have A3 := Bx.mk (IntsAt.own ho3)
    have B3 : Bx (Below w.heap.size w w3) := Bx.mk (B2.out.trans (hb3.mono B2.out.size))
    clear ho3 hb3
    go_wp2_with (fail)
    refine (impl_listtext v3 zs w3 A3.out (by omega) (Bx.mk (tab_below B3.out HT.out))).mono ?_
    rintro e w4 ⟨rfl, hb4⟩
    have A4 := Bx.mk (A3.out.below hb4)
    have B4 : Bx (Below w.heap.size w w4) := Bx.mk (B3.out.trans (hb4.mono B3.out.size))
    clear hb4
    go_wp2_with (fail)
    refine (copy_ints _ zs w4 (HI.out.below B4.out) (by omega)).mono ?_
    rintro e w5 ⟨v5, rfl, ho5, hb5⟩
    have A5 := Bx.mk (IntsAt.own ho5)
    have A6 := Bx.mk (A4.out.below hb5)
    have B5 : Bx (Below w.heap.size w w5) := Bx.mk (B4.out.trans (hb5.mono B4.out.size))
    clear ho5 hb5
    go_wp2_with (fail)
    refine (eq_ints v3 v5 zs zs w5 A6.out A5.out (by omega) (by omega)).mono ?_
    rintro e w6 ⟨rfl, nq, rfl⟩
    go_wp2_with (fail)
    go_ret
    exact ⟨rfl, below_draws B5.out nq⟩

theorem own : ownKnob Tryd.prog.godebug = none := by kernel_rfl
theorem laidOut : laidOutB Tryd.prog = true := by kernel_rfl
theorem listed {W : World} (h : laidMetH Tryd.prog Rows.fnExactListTextRow.laid W) : ∃ ps, DataW.LaidVars Tryd.prog W Rows.fnExactListTextRow.laid ps := by
  rw [Go.MakeChecks.laidMetH_plain _ _ _ (by kernel_rfl)] at h
  obtain ⟨ps, h, _⟩ := h
  exact ⟨ps, h⟩
set_option maxRecDepth 100000 in
theorem contract (H : Type) (enc : TypeId × Value → H) (W : World) (base : Nat) (args : Array Value) (ds gs : List (DataW H)) (before : List MemPlace)
    (hval : ∀ (j : Nat) t v, Tryd.f8.params[j]? = some t → args[j]? = some v → Value.okWide Tryd.prog W .any base t v)
    (hW : DataW.Whole enc Tryd.prog Tryd.f8.params.toList Rows.fnExactListTextSpec.vars false W args.toList ds gs before) (hL : laidMetH Tryd.prog Rows.fnExactListTextRow.laid W) (hsh : W.ShapedOpen Tryd.prog) :
    Calls Tryd.prog 8 args W fun e W' => ∃ v, e = .returned v ∧ Rows.fnExactListTextSpec.post enc Tryd.prog Tryd.f8 false true false false W args v W' := by
  have hW' := hW
  obtain ⟨p, q, hA0, hV, rfl, hfz, hnd⟩ := hW
  obtain ⟨ps, hl⟩ := listed hL
  have hA : DataW.TrodAll enc Tryd.prog W 0 (fun _ => true) true Tryd.f8.params.toList args.toList ds p := hA0
  rw [Tryd.params8] at hA hval
  obtain ⟨v0, vs0, d0, ds0, p0, q0, hargs, rfl, rfl, h0, r0⟩ := trodAll_cons hA
  obtain ⟨rfl, rfl, rfl⟩ := trodAll_nil r0
  obtain rfl : args = #[v0] := by cases args; simp_all
  obtain ⟨rfl, rfl⟩ := trodVars_none hV
  obtain ⟨zs0, w0⟩ := arg_ints (hval 0 30 v0 rfl rfl) h0 (fun x hx => hW'.lt x (by simp [hx]))
  refine (walk v0 zs0 w0  hl).mono fun e W' ⟨he, hb⟩ => ?_
  subst he
  exact ⟨_, rfl, post_lawv laidOut (by kernel_rfl) (by kernel_rfl) (by kernel_rfl) Tryd.underlying4 hW' rfl hb⟩

noncomputable def low : Nat := (World.holding Tryd.prog default ⟨#[], #[], []⟩).heap.size
/-- a world for the witness: each listed variable holds what is listed -/
noncomputable def laidWorld (os : Os) : World :=
  { World.holding Tryd.prog os ⟨#[], #[], []⟩ with heap := ((((World.holding Tryd.prog os ⟨#[], #[], []⟩).heap).modify 7 (layCells (datCells (H := Unit) Rows.laid_math_bits_deBruijn32tab))).modify 8 (layCells (datCells (H := Unit) Rows.laid_math_bits_deBruijn64tab))).modify 4 (layCells (datCells (H := Unit) Rows.laid_internal_strconv_uint64pow10)) }
theorem laid_met (os : Os) : laidMet Tryd.prog Rows.fnExactListTextRow.laid ((laidWorld os).forCall (fun _ _ => 0) ⟨#[], #[Value.slice none 0 0], []⟩).memory :=
  laidMet_of_run' 8 (by kernel_rfl) (by kernel_rfl)
theorem reads (os : Os) {H : Type} (enc : TypeId × Value → H) : ∃ places, DataW.whole enc Tryd.prog ((laidWorld os).forCall (fun _ _ => 0) ⟨#[], #[Value.slice none 0 0], []⟩).memory Tryd.f8.params.toList Rows.fnExactListTextSpec.vars false #[Value.slice none 0 0].toList 8 = some ([.nil], [], places) :=
  places_of (by kernel_rfl)

set_option maxRecDepth 100000 in
theorem lifted (os : Os) (started : os.Started) (H : Type) (enc : TypeId × Value → H) (F : Stop.Interp) :
    ReturnsInHanded {} Tryd.checked os 8 .any ((OpenSpec.ofChange Rows.fnExactListTextSpec).preRow enc Tryd.prog Tryd.f8 Rows.fnExactListTextRow.domain false Rows.fnExactListTextRow.laid) (((OpenSpec.ofChange Rows.fnExactListTextSpec).at F).post enc Tryd.prog Tryd.f8 false true false false) := by
  obtain ⟨places, hx⟩ := reads os enc
  refine returnsInHanded_of_row (C := Tryd.checked) (s := OpenSpec.ofChange Rows.fnExactListTextSpec) own started (by kernel_rfl) Tryd.func8
    (witness_row_at (enc := enc) (C := Tryd.checked) false (laidWorld os) #[Value.slice none 0 0] rfl (by kernel_rfl) (by kernel_rfl) (by kernel_rfl)
      (OpenSpec.preRow_of_cond 8 hx (by kernel_rfl) (fun k hk => by cases hk) (by kernel_rfl) (by rw [Go.MakeChecks.laidMetH_plain _ _ _ (by kernel_rfl)]; exact laid_met os))) ?_
  intro W base args ds gs before hval hW _ _ _ hL hsh _
  exact contract H enc W base args ds gs before hval hW hL hsh

theorem said : Rows.FnExactListTextSaid :=
  OpenClaim.holds_of_cond 8 Tryd.f8 rfl rfl rfl rfl rfl rfl rfl ⟨rfl, rfl, rfl, rfl, rfl⟩ rfl rfl rfl rfl rfl (by kernel_rfl) Tryd.func8 (by kernel_rfl)
    (of_decide_eq_true (by kernel_rfl)) (by unfold Func.isWrapper; first | (rw [if_pos (by decide +kernel)]; kernel_rfl) | (rw [if_neg (by decide +kernel)]; exact ⟨rfl, rfl⟩))
    (fun os started H enc _ F => by rw [OpenClaim.pre_eq_preRow]; exact lifted os started H enc F)

theorem plain (f : FuncId) (fn : Func) (hf : Tryd.pinned.checked.prog.funcNamed "loop.example/g01033/laws.FnExactListText" = some f) (hfn : Tryd.pinned.checked.prog.funcs[f]? = some fn) :
    true = Tryd.pinned.checked.prog.looks [] ∧ ∀ (j : Nat) t, fn.params[j]? = some t → Tryd.pinned.checked.prog.wantsStandIn t = false := by
  obtain rfl : f = 8 := Option.some.inj ((show Tryd.prog.funcNamed "loop.example/g01033/laws.FnExactListText" = some 8 by kernel_rfl).symm.trans hf) |>.symm
  obtain rfl : fn = Tryd.f8 := (Option.some.inj (Tryd.func8.symm.trans hfn)).symm
  refine ⟨by kernel_rfl, fun j t ht => ?_⟩
  rw [Tryd.params8] at ht
  have hm := Array.mem_of_getElem? ht
  have hall : ∀ t ∈ #[30], Tryd.prog.wantsStandIn t = false := by
    intro t ht
    simp at ht
    subst ht; kernel_rfl
  exact hall t hm

theorem card : Rows.FnExactListTextCardSaid :=
  Claim7.holds_tied_plain_at .later [] _ _ _ _ said (fun _ h => by cases h) (by kernel_rfl) (fun _ h => by cases h) fnExactListText_row_tie rfl ⟨rfl, rfl⟩ (by kernel_rfl) rfl plain (by kernel_rfl)
theorem proved : Rows.FnExactListTextCardSaid := card
#print axioms proved
end Go.Proofs.YtfogcabhafhlmaaDoor.fnExactListText
