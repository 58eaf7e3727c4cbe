/- 'laws.FnExactMelodyText' returns true at every input: MelodyText on both sides is one function. -/
import Derived.Test.YtendfnimhmnioaaDoorNm2
import Derived.Test.YtendfnimhmnioaaDoorNm4
namespace Go.Proofs.YtendfnimhmnioaaDoor.fnExactMelodyText
open Go.ChangeShapes Go.WideShapes Go.ChangeAt Go.RowKit
set_option linter.unusedVariables false
set_option linter.unusedSimpArgs false
set_option maxRecDepth 100000

set_option maxHeartbeats 4000000 in
theorem walk (v0 : Value) (l0 : List (Int × Int)) {w : World} (w0 : PrsAt w v0 l0 ∧ l0.length ≤ 9223372036854775807 ∧ WfN l0) {ps : List MemPlace} (hl : DataW.LaidVars Tryd.prog w Rows.fnExactMelodyTextRow.laid ps) :
    Calls Tryd.prog 9 #[v0] w fun e w' => e = .returned (.bool true) ∧ Below w.heap.size w w' := by
  have e : Rows.laid_internal_strconv_uint64pow10 = Lib.tabData (H := Unit) .u64 Lib.pow10Tab := by kernel_rfl
  have HTAB : Bx (Lib.TabIs Tryd.prog w "internal/strconv.uint64pow10" .u64 Lib.pow10Tab) := Bx.mk (tab_get hl (by rw [← e]; exact .tail _ (.tail _ (.head _))) (g := 3) (t := 149) (e := 135) (N := 20) (by kernel_rfl) (by kernel_rfl) Tryd.underlying149 Tryd.underlying135 (by kernel_rfl) (by kernel_rfl))
  clear e
  clear hl
  obtain ⟨hi0, hmax0, hwf0⟩ := w0
  obtain ⟨A0, c0, rfl⟩ := prs_len hi0
  have HW0 := Bx.mk hwf0
  clear hwf0
  have HI0 := Bx.mk hi0
  clear hi0
  have B0 : Bx (Below w.heap.size w w) := Bx.mk (Below.refl _ _)
  go_enter Tryd.func9, Tryd.ntmps9
  go_wp2_with (fail)
  refine (sz_prs _ l0 1048576 _ (HI0.out.below B0.out) (by decide) hmax0).mono ?_
  rintro e1 q1 ⟨rfl, hd⟩
  have hb := below_eq hd
  clear hd
  by_cases hs0 : 1048576 < (l0.length : Int)
  · rw [show szN l0.length 1048576 = -1 from if_pos hs0]
    have BZ := Bx.mk (B0.out.trans (hb.mono B0.out.size))
    clear hb B0
    go_wp2_with (fail)
    go_ret
    exact ⟨rfl, BZ.out⟩
  rw [show szN l0.length 1048576 = 1048576 - l0.length from if_neg hs0]
  have hn0 : l0.length ≤ 1048576 := by omega
  obtain ⟨z0, ez0, hz0⟩ : ∃ z : Int, z = 1048576 - (l0.length : Int) ∧ (0 ≤ z ∧ z ≤ 1048576) := ⟨_, rfl, by omega⟩
  rw [← ez0]
  have hd0 : decide (z0 < 0) = false := decide_eq_false (by omega)
  clear ez0 hs0
  have B1 : Bx (Below w.heap.size w q1) := Bx.mk (B0.out.trans (hb.mono B0.out.size))
  have SZ1 : Bx (w.heap.size ≤ q1.heap.size) := Bx.mk hb.size
  clear hb
  go_wp2_with (fail)
  have hs : ∀ u0 W, PrsAt W u0 l0 → Calls Tryd.prog 28 #[u0] W (fun e w' => e = .returned (.string (textM l0)) ∧ Below W.heap.size W w') := fun u0 W h0 => spec_melodytext u0 l0 W h0 hn0
  have hi : ∀ u0 W, PrsAt W u0 l0 → Lib.TabIs Tryd.prog W "internal/strconv.uint64pow10" .u64 Lib.pow10Tab → Calls Tryd.prog 29 #[u0] W (fun e w' => e = .returned (.string (textM l0)) ∧ Below W.heap.size W w') := fun u0 W h0 hx => impl_melodytext u0 l0 W h0 hn0 (Bx.mk hx)
  generalize textM l0 = r1 at hs hi
  refine (copy_prs _ l0 q1 (HI0.out.below B1.out) (by omega)).mono ?_
  rintro e2 q2 ⟨va0, rfl, ho, hb⟩
  have B2 : Bx (Below w.heap.size w q2) := Bx.mk (B1.out.trans (hb.mono B1.out.size))
  have SZ2 : Bx (q1.heap.size ≤ q2.heap.size) := Bx.mk hb.size
  have Oa0_2 := Bx.mk ho
  have Ua0 := Bx.mk (own_hi ho)
  clear ho
  clear hb
  go_wp2_with (fail)
  refine (hs _ _ (prs_own Oa0_2.out)).mono ?_
  rintro e3 q3 ⟨rfl, hb⟩
  have B3 : Bx (Below w.heap.size w q3) := Bx.mk (B2.out.trans (hb.mono B2.out.size))
  have SZ3 : Bx (q2.heap.size ≤ q3.heap.size) := Bx.mk hb.size
  have Oa0_3 := Bx.mk (own_below Oa0_2.out hb)
  clear Oa0_2
  clear hb
  go_wp2_with (fail)
  refine (copy_prs _ l0 q3 (HI0.out.below B3.out) (by omega)).mono ?_
  rintro e4 q4 ⟨vb0, rfl, ho, hb⟩
  have B4 : Bx (Below w.heap.size w q4) := Bx.mk (B3.out.trans (hb.mono B3.out.size))
  have SZ4 : Bx (q3.heap.size ≤ q4.heap.size) := Bx.mk hb.size
  have Oa0_4 := Bx.mk (own_below Oa0_3.out hb)
  clear Oa0_3
  have Ob0_4 := Bx.mk ho
  have Ub0 := Bx.mk (own_hi ho)
  clear ho
  clear hb
  go_wp2_with (fail)
  refine (hi _ _ (prs_own Ob0_4.out) (tab_below B4.out HTAB.out)).mono ?_
  rintro e5 q5 ⟨rfl, hb⟩
  have B5 : Bx (Below w.heap.size w q5) := Bx.mk (B4.out.trans (hb.mono B4.out.size))
  have SZ5 : Bx (q4.heap.size ≤ q5.heap.size) := Bx.mk hb.size
  have Oa0_5 := Bx.mk (own_below Oa0_4.out hb)
  have Ob0_5 := Bx.mk (own_below Ob0_4.out hb)
  clear Oa0_4 Ob0_4
  clear hb
  go_wp2_with (fail)
  refine (copy_prs _ l0 q5 (HI0.out.below B5.out) (by omega)).mono ?_
  rintro e6 q6 ⟨vc0, rfl, ho, hb⟩
  have B6 : Bx (Below w.heap.size w q6) := Bx.mk (B5.out.trans (hb.mono B5.out.size))
  have SZ6 : Bx (q5.heap.size ≤ q6.heap.size) := Bx.mk hb.size
  have Oa0_6 := Bx.mk (own_below Oa0_5.out hb)
  have Ob0_6 := Bx.mk (own_below Ob0_5.out hb)
  clear Oa0_5 Ob0_5
  have Oc0_6 := Bx.mk ho
  have Uc0 := Bx.mk (own_hi ho)
  clear ho
  clear hb
  go_wp2_with (fail)
  refine (eq_prs_same _ _ l0 _ (prs_own Ob0_6.out) (prs_own Oc0_6.out) (by omega)).mono ?_
  rintro e7 q7 ⟨rfl, hb⟩
  have B7 : Bx (Below w.heap.size w q7) := Bx.mk (B6.out.trans (hb.mono B6.out.size))
  have SZ7 : Bx (q6.heap.size ≤ q7.heap.size) := Bx.mk hb.size
  have Oa0_7 := Bx.mk (own_below Oa0_6.out hb)
  have Ob0_7 := Bx.mk (own_below Ob0_6.out hb)
  have Oc0_7 := Bx.mk (own_below Oc0_6.out hb)
  clear Oa0_6 Ob0_6 Oc0_6
  clear hb
  go_wp2_with (fail)
  go_ret
  exact ⟨rfl, B7.out⟩

theorem own : ownKnob Tryd.prog.godebug = none := by kernel_rfl
theorem laidOut : laidOutB Tryd.prog = true := by kernel_rfl
theorem listed {W : World} (h : laidMetH Tryd.prog Rows.fnExactMelodyTextRow.laid W) : ∃ ps, DataW.LaidVars Tryd.prog W Rows.fnExactMelodyTextRow.laid ps := by
  rw [Go.MakeChecks.laidMetH_plain _ _ _ (by kernel_rfl)] at h
  obtain ⟨ps, h, _⟩ := h
  exact ⟨ps, h⟩
set_option maxRecDepth 100000 in
theorem contract (H : Type) (enc : TypeId × Value → H) (W : World) (base : Nat) (args : Array Value) (ds gs : List (DataW H)) (before : List MemPlace)
    (hval : ∀ (j : Nat) t v, Tryd.f9.params[j]? = some t → args[j]? = some v → Value.okWide Tryd.prog W .any base t v)
    (hW : DataW.Whole enc Tryd.prog Tryd.f9.params.toList Rows.fnExactMelodyTextSpec.vars false W args.toList ds gs before) (hL : laidMetH Tryd.prog Rows.fnExactMelodyTextRow.laid W) (hsh : W.ShapedOpen Tryd.prog) :
    Calls Tryd.prog 9 args W fun e W' => ∃ v, e = .returned v ∧ Rows.fnExactMelodyTextSpec.post enc Tryd.prog Tryd.f9 false true false false W args v W' := by
  have hW' := hW
  obtain ⟨p, q, hA0, hV, rfl, hfz, hnd⟩ := hW
  obtain ⟨ps, hl⟩ := listed hL
  have hA : DataW.TrodAll enc Tryd.prog W 0 (fun _ => true) true Tryd.f9.params.toList args.toList ds p := hA0
  rw [Tryd.params9] at hA hval
  obtain ⟨v0, vs0, d0, ds0, p0, q0, hargs, rfl, rfl, h0, r0⟩ := trodAll_cons hA
  obtain ⟨rfl, rfl, rfl⟩ := trodAll_nil r0
  obtain rfl : args = #[v0] := by cases args; simp_all
  obtain ⟨rfl, rfl⟩ := trodVars_none hV
  obtain ⟨l0, w0⟩ := arg_nts (hval 0 22 v0 rfl rfl) h0
  refine (walk v0 l0 w0  hl).mono fun e W' ⟨he, hb⟩ => ?_
  subst he
  exact ⟨_, rfl, post_lawv laidOut (by kernel_rfl) (by kernel_rfl) (by kernel_rfl) Tryd.underlying4 hW' rfl hb⟩

noncomputable def low : Nat := (World.holding Tryd.prog default ⟨#[], #[], []⟩).heap.size
/-- a world for the witness: each listed variable holds what is listed -/
noncomputable def laidWorld (os : Os) : World :=
  { World.holding Tryd.prog os ⟨#[], #[], []⟩ with heap := ((((World.holding Tryd.prog os ⟨#[], #[], []⟩).heap).modify 8 (layCells (datCells (H := Unit) Rows.laid_math_bits_deBruijn32tab))).modify 9 (layCells (datCells (H := Unit) Rows.laid_math_bits_deBruijn64tab))).modify 3 (layCells (datCells (H := Unit) Rows.laid_internal_strconv_uint64pow10)) }
theorem laid_met (os : Os) : laidMet Tryd.prog Rows.fnExactMelodyTextRow.laid ((laidWorld os).forCall (fun _ _ => 0) ⟨#[], #[Value.slice none 0 0], []⟩).memory :=
  laidMet_of_run' 8 (by kernel_rfl) (by kernel_rfl)
theorem reads (os : Os) {H : Type} (enc : TypeId × Value → H) : ∃ places, DataW.whole enc Tryd.prog ((laidWorld os).forCall (fun _ _ => 0) ⟨#[], #[Value.slice none 0 0], []⟩).memory Tryd.f9.params.toList Rows.fnExactMelodyTextSpec.vars false #[Value.slice none 0 0].toList 8 = some ([.nil], [], places) :=
  places_of (by kernel_rfl)

set_option maxRecDepth 100000 in
theorem lifted (os : Os) (started : os.Started) (H : Type) (enc : TypeId × Value → H) (F : Stop.Interp) :
    ReturnsInHanded {} Tryd.checked os 9 .any ((OpenSpec.ofChange Rows.fnExactMelodyTextSpec).preRow enc Tryd.prog Tryd.f9 Rows.fnExactMelodyTextRow.domain false Rows.fnExactMelodyTextRow.laid) (((OpenSpec.ofChange Rows.fnExactMelodyTextSpec).at F).post enc Tryd.prog Tryd.f9 false true false false) := by
  obtain ⟨places, hx⟩ := reads os enc
  refine returnsInHanded_of_row (C := Tryd.checked) (s := OpenSpec.ofChange Rows.fnExactMelodyTextSpec) own started (by kernel_rfl) Tryd.func9
    (witness_row_at (enc := enc) (C := Tryd.checked) false (laidWorld os) #[Value.slice none 0 0] rfl (by kernel_rfl) (by kernel_rfl) (by kernel_rfl)
      (OpenSpec.preRow_of_cond 8 hx (by kernel_rfl) (fun k hk => by cases hk) (by kernel_rfl) (by rw [Go.MakeChecks.laidMetH_plain _ _ _ (by kernel_rfl)]; exact laid_met os))) ?_
  intro W base args ds gs before hval hW _ _ _ hL hsh _
  exact contract H enc W base args ds gs before hval hW hL hsh

theorem said : Rows.FnExactMelodyTextSaid :=
  OpenClaim.holds_of_cond 9 Tryd.f9 rfl rfl rfl rfl rfl rfl rfl ⟨rfl, rfl, rfl, rfl, rfl⟩ rfl rfl rfl rfl rfl (by kernel_rfl) Tryd.func9 (by kernel_rfl)
    (of_decide_eq_true (by kernel_rfl)) (by unfold Func.isWrapper; first | (rw [if_pos (by decide +kernel)]; kernel_rfl) | (rw [if_neg (by decide +kernel)]; exact ⟨rfl, rfl⟩))
    (fun os started H enc _ F => by rw [OpenClaim.pre_eq_preRow]; exact lifted os started H enc F)

theorem plain (f : FuncId) (fn : Func) (hf : Tryd.pinned.checked.prog.funcNamed "loop.example/g01033/laws.FnExactMelodyText" = some f) (hfn : Tryd.pinned.checked.prog.funcs[f]? = some fn) :
    true = Tryd.pinned.checked.prog.looks [] ∧ ∀ (j : Nat) t, fn.params[j]? = some t → Tryd.pinned.checked.prog.wantsStandIn t = false := by
  obtain rfl : f = 9 := Option.some.inj ((show Tryd.prog.funcNamed "loop.example/g01033/laws.FnExactMelodyText" = some 9 by kernel_rfl).symm.trans hf) |>.symm
  obtain rfl : fn = Tryd.f9 := (Option.some.inj (Tryd.func9.symm.trans hfn)).symm
  refine ⟨by kernel_rfl, fun j t ht => ?_⟩
  rw [Tryd.params9] at ht
  have hm := Array.mem_of_getElem? ht
  have hall : ∀ t ∈ #[22], Tryd.prog.wantsStandIn t = false := by
    intro t ht
    simp at ht
    subst ht; kernel_rfl
  exact hall t hm

theorem card : Rows.FnExactMelodyTextCardSaid :=
  Claim7.holds_tied_plain_at .later [] _ _ _ _ said (fun _ h => by cases h) (by kernel_rfl) (fun _ h => by cases h) fnExactMelodyText_row_tie rfl ⟨rfl, rfl⟩ (by kernel_rfl) rfl plain (by kernel_rfl)
theorem proved : Rows.FnExactMelodyTextCardSaid := card
#print axioms proved
end Go.Proofs.YtendfnimhmnioaaDoor.fnExactMelodyText
