/- 'laws.FnExactPhrasesText' returns true at every input: PhrasesText on both sides is one function. -/
import Derived.Test.YtpkdpchlfabhlaaDoorPl
import Derived.Test.YtpkdpchlfabhlaaDoorPx
namespace Go.Proofs.YtpkdpchlfabhlaaDoor.fnExactPhrasesText
open Go.ChangeShapes Go.WideShapes Go.ChangeAt Go.RowKit
set_option linter.unusedVariables false
set_option linter.unusedSimpArgs false
set_option maxRecDepth 100000

set_option maxHeartbeats 4000000 in
theorem walk (v0 : Value) (LL0 : List (List Int)) {w : World} (w0 : RowsAt w v0 LL0 ∧ LL0.length ≤ 9223372036854775807 ∧ ∀ k, k < LL0.length → (LL0.getD k []).length ≤ 9223372036854775807) {ps : List MemPlace} (hl : DataW.LaidVars Tryd.prog w Rows.fnExactPhrasesTextRow.laid ps) :
    Calls Tryd.prog 3 #[v0] w fun e w' => e = .returned (.bool true) ∧ Below w.heap.size w w' := by
  have e : Rows.laid_internal_strconv_uint64pow10 = Lib.tabData (H := Unit) .u64 Lib.pow10Tab := by kernel_rfl
  have HT : Bx (Lib.TabIs Tryd.prog w "internal/strconv.uint64pow10" .u64 Lib.pow10Tab) := Bx.mk (tab_get hl (by rw [← e]; exact .tail _ (.tail _ (.head _))) (g := 1) (t := 65) (e := 58) (N := 20) (by kernel_rfl) (by kernel_rfl) Tryd.underlying65 Tryd.underlying58 (by kernel_rfl) (by kernel_rfl))
  clear hl e
  obtain ⟨hi0, hln0, hlg0⟩ := w0
  obtain ⟨A0, c0, rfl⟩ := rows_form hi0
  have HI0 := Bx.mk hi0
  have HG0 := Bx.mk hlg0
  clear hi0 hlg0
  have B0 : Bx (Below w.heap.size w w) := Bx.mk (Below.refl _ _)
  go_enter Tryd.func3, Tryd.ntmps3
  go_wp2_with (fail)
  refine (sz_rows _ LL0 1048576 w (HI0.out.below B0.out) ⟨by decide, by decide⟩ hln0 HG0.out).mono ?_
  rintro e1 q1 ⟨z0, rfl, hz0, hb⟩
  have B1 : Bx (Below w.heap.size w q1) := Bx.mk (B0.out.trans (hb.mono B0.out.size))
  have SZ1 : Bx (w.heap.size ≤ q1.heap.size) := Bx.mk hb.size
  clear hb
  rcases hz0 with rfl | ⟨hy0, hx0, SM0⟩
  · go_wp2_with (fail)
    go_ret
    exact ⟨rfl, B1.out⟩
  have SM0 := Bx.mk SM0
  have hd0 : decide (z0 < 0) = false := decide_eq_false (by omega)
  go_wp2_with (fail)
  have hs : ∀ u0 W, RowsAt W u0 LL0 → Calls Tryd.prog 5 #[u0] W (ValOut (.string ⟨(phsS LL0).toArray⟩) W) := fun u0 W h0 => vout (spec_phrasestext u0 LL0 W h0 SM0.out.1 SM0.out.2)
  have hi : ∀ u0 W, Below w.heap.size w W → RowsAt W u0 LL0 → Calls Tryd.prog 7 #[u0] W (ValOut (.string ⟨(phsS LL0).toArray⟩) W) := fun u0 W hb h0 => vout (impl_phrasestext u0 LL0 W h0 SM0.out.1 SM0.out.2 (Bx.mk (tab_below hb HT.out)))
  generalize (⟨(phsS LL0).toArray⟩ : ByteArray) = r1 at hs hi
  refine (copy_rows _ LL0 q1 (HI0.out.below B1.out) SM0.out.1 SM0.out.2).mono ?_
  rintro e2 q2 ⟨va0, Va0, rfl, ho, hb⟩
  have B2 : Bx (Below w.heap.size w q2) := Bx.mk (B1.out.trans (hb.mono B1.out.size))
  have SZ2 : Bx (q1.heap.size ≤ q2.heap.size) := Bx.mk hb.size
  have Oa0_2 := Bx.mk ho
  have Ua0 := Bx.mk (fun i hi => own_hi (ho.row i hi))
  clear ho
  clear hb
  go_wp2_with (fail)
  refine (hs _ _ (Oa0_2.out.at)).mono ?_
  rintro e3 q3 ⟨rfl, hb⟩
  have B3 : Bx (Below w.heap.size w q3) := Bx.mk (B2.out.trans (hb.mono B2.out.size))
  have SZ3 : Bx (q2.heap.size ≤ q3.heap.size) := Bx.mk hb.size
  have Oa0_3 := Bx.mk (RowsOwn.below Oa0_2.out hb)
  clear Oa0_2
  clear hb
  go_wp2_with (fail)
  refine (copy_rows _ LL0 q3 (HI0.out.below B3.out) SM0.out.1 SM0.out.2).mono ?_
  rintro e4 q4 ⟨vb0, Vb0, rfl, ho, hb⟩
  have B4 : Bx (Below w.heap.size w q4) := Bx.mk (B3.out.trans (hb.mono B3.out.size))
  have SZ4 : Bx (q3.heap.size ≤ q4.heap.size) := Bx.mk hb.size
  have Oa0_4 := Bx.mk (RowsOwn.below Oa0_3.out hb)
  clear Oa0_3
  have Ob0_4 := Bx.mk ho
  have Ub0 := Bx.mk (fun i hi => own_hi (ho.row i hi))
  clear ho
  clear hb
  go_wp2_with (fail)
  refine (hi _ _ B4.out (Ob0_4.out.at)).mono ?_
  rintro e5 q5 ⟨rfl, hb⟩
  have B5 : Bx (Below w.heap.size w q5) := Bx.mk (B4.out.trans (hb.mono B4.out.size))
  have SZ5 : Bx (q4.heap.size ≤ q5.heap.size) := Bx.mk hb.size
  have Oa0_5 := Bx.mk (RowsOwn.below Oa0_4.out hb)
  have Ob0_5 := Bx.mk (RowsOwn.below Ob0_4.out hb)
  clear Oa0_4 Ob0_4
  clear hb
  go_wp2_with (fail)
  refine (copy_rows _ LL0 q5 (HI0.out.below B5.out) SM0.out.1 SM0.out.2).mono ?_
  rintro e6 q6 ⟨vc0, Vc0, rfl, ho, hb⟩
  have B6 : Bx (Below w.heap.size w q6) := Bx.mk (B5.out.trans (hb.mono B5.out.size))
  have SZ6 : Bx (q5.heap.size ≤ q6.heap.size) := Bx.mk hb.size
  have Oa0_6 := Bx.mk (RowsOwn.below Oa0_5.out hb)
  have Ob0_6 := Bx.mk (RowsOwn.below Ob0_5.out hb)
  clear Oa0_5 Ob0_5
  have Oc0_6 := Bx.mk ho
  have Uc0 := Bx.mk (fun i hi => own_hi (ho.row i hi))
  clear ho
  clear hb
  go_wp2_with (fail)
  refine (eq_rows _ _ LL0 LL0 _ (Ob0_6.out.at) (Oc0_6.out.at) (by have := SM0.out.1; omega) (by have := SM0.out.1; omega) (fun k hk => Nat.le_trans (SM0.out.2 k hk) (by decide)) (fun k hk => Nat.le_trans (SM0.out.2 k hk) (by decide))).mono ?_
  rintro e7 q7 ⟨rfl, hd⟩
  have hb := below_dr hd
  clear hd
  have B7 : Bx (Below w.heap.size w q7) := Bx.mk (B6.out.trans (hb.mono B6.out.size))
  have SZ7 : Bx (q6.heap.size ≤ q7.heap.size) := Bx.mk hb.size
  have Oa0_7 := Bx.mk (RowsOwn.below Oa0_6.out hb)
  have Ob0_7 := Bx.mk (RowsOwn.below Ob0_6.out hb)
  have Oc0_7 := Bx.mk (RowsOwn.below Oc0_6.out hb)
  clear Oa0_6 Ob0_6 Oc0_6
  clear hb
  go_wp2_with (fail)
  go_ret
  exact ⟨rfl, B7.out⟩

theorem own : ownKnob Tryd.prog.godebug = none := by kernel_rfl
theorem laidOut : laidOutB Tryd.prog = true := by kernel_rfl
theorem listed {W : World} (h : laidMetH Tryd.prog Rows.fnExactPhrasesTextRow.laid W) : ∃ ps, DataW.LaidVars Tryd.prog W Rows.fnExactPhrasesTextRow.laid ps := by
  rw [Go.MakeChecks.laidMetH_plain _ _ _ (by kernel_rfl)] at h
  obtain ⟨ps, h, _⟩ := h
  exact ⟨ps, h⟩
set_option maxRecDepth 100000 in
theorem contract (H : Type) (enc : TypeId × Value → H) (W : World) (base : Nat) (args : Array Value) (ds gs : List (DataW H)) (before : List MemPlace)
    (hval : ∀ (j : Nat) t v, Tryd.f3.params[j]? = some t → args[j]? = some v → Value.okWide Tryd.prog W .any base t v)
    (hW : DataW.Whole enc Tryd.prog Tryd.f3.params.toList Rows.fnExactPhrasesTextSpec.vars false W args.toList ds gs before) (hL : laidMetH Tryd.prog Rows.fnExactPhrasesTextRow.laid W) (hsh : W.ShapedOpen Tryd.prog) :
    Calls Tryd.prog 3 args W fun e W' => ∃ v, e = .returned v ∧ Rows.fnExactPhrasesTextSpec.post enc Tryd.prog Tryd.f3 false true false false W args v W' := by
  have hW' := hW
  obtain ⟨p, q, hA0, hV, rfl, hfz, hnd⟩ := hW
  obtain ⟨ps, hl⟩ := listed hL
  have hA : DataW.TrodAll enc Tryd.prog W 0 (fun _ => true) true Tryd.f3.params.toList args.toList ds p := hA0
  rw [Tryd.params3] at hA hval
  obtain ⟨v0, vs0, d0, ds0, p0, q0, hargs, rfl, rfl, h0, r0⟩ := trodAll_cons hA
  obtain ⟨rfl, rfl, rfl⟩ := trodAll_nil r0
  obtain rfl : args = #[v0] := by cases args; simp_all
  obtain ⟨rfl, rfl⟩ := trodVars_none hV
  obtain ⟨LL0, w0⟩ := arg_rows (hval 0 22 v0 rfl rfl) h0
  refine (walk v0 LL0 w0  hl).mono fun e W' ⟨he, hb⟩ => ?_
  subst he
  exact ⟨_, rfl, post_lawv laidOut (by kernel_rfl) (by kernel_rfl) (by kernel_rfl) Tryd.underlying4 hW' rfl hb⟩

noncomputable def low : Nat := (World.holding Tryd.prog default ⟨#[], #[], []⟩).heap.size
/-- a world for the witness: each listed variable holds what is listed -/
noncomputable def laidWorld (os : Os) : World :=
  { World.holding Tryd.prog os ⟨#[], #[], []⟩ with heap := ((((World.holding Tryd.prog os ⟨#[], #[], []⟩).heap).modify 2 (layCells (datCells (H := Unit) Rows.laid_math_bits_deBruijn32tab))).modify 3 (layCells (datCells (H := Unit) Rows.laid_math_bits_deBruijn64tab))).modify 1 (layCells (datCells (H := Unit) Rows.laid_internal_strconv_uint64pow10)) }
theorem laid_met (os : Os) : laidMet Tryd.prog Rows.fnExactPhrasesTextRow.laid ((laidWorld os).forCall (fun _ _ => 0) ⟨#[], #[Value.slice none 0 0], []⟩).memory :=
  laidMet_of_run' 8 (by kernel_rfl) (by kernel_rfl)
theorem reads (os : Os) {H : Type} (enc : TypeId × Value → H) : ∃ places, DataW.whole enc Tryd.prog ((laidWorld os).forCall (fun _ _ => 0) ⟨#[], #[Value.slice none 0 0], []⟩).memory Tryd.f3.params.toList Rows.fnExactPhrasesTextSpec.vars false #[Value.slice none 0 0].toList 8 = some ([.nil], [], places) :=
  places_of (by kernel_rfl)

set_option maxRecDepth 100000 in
theorem lifted (os : Os) (started : os.Started) (H : Type) (enc : TypeId × Value → H) (F : Stop.Interp) :
    ReturnsInHanded {} Tryd.checked os 3 .any ((OpenSpec.ofChange Rows.fnExactPhrasesTextSpec).preRow enc Tryd.prog Tryd.f3 Rows.fnExactPhrasesTextRow.domain false Rows.fnExactPhrasesTextRow.laid) (((OpenSpec.ofChange Rows.fnExactPhrasesTextSpec).at F).post enc Tryd.prog Tryd.f3 false true false false) := by
  obtain ⟨places, hx⟩ := reads os enc
  refine returnsInHanded_of_row (C := Tryd.checked) (s := OpenSpec.ofChange Rows.fnExactPhrasesTextSpec) own started (by kernel_rfl) Tryd.func3
    (witness_row_at (enc := enc) (C := Tryd.checked) false (laidWorld os) #[Value.slice none 0 0] rfl (by kernel_rfl) (by kernel_rfl) (by kernel_rfl)
      (OpenSpec.preRow_of_cond 8 hx (by kernel_rfl) (fun k hk => by cases hk) (by kernel_rfl) (by rw [Go.MakeChecks.laidMetH_plain _ _ _ (by kernel_rfl)]; exact laid_met os))) ?_
  intro W base args ds gs before hval hW _ _ _ hL hsh _
  exact contract H enc W base args ds gs before hval hW hL hsh

theorem said : Rows.FnExactPhrasesTextSaid :=
  OpenClaim.holds_of_cond 3 Tryd.f3 rfl rfl rfl rfl rfl rfl rfl ⟨rfl, rfl, rfl, rfl, rfl⟩ rfl rfl rfl rfl rfl (by kernel_rfl) Tryd.func3 (by kernel_rfl)
    (of_decide_eq_true (by kernel_rfl)) (by unfold Func.isWrapper; first | (rw [if_pos (by decide +kernel)]; kernel_rfl) | (rw [if_neg (by decide +kernel)]; exact ⟨rfl, rfl⟩))
    (fun os started H enc _ F => by rw [OpenClaim.pre_eq_preRow]; exact lifted os started H enc F)

theorem plain (f : FuncId) (fn : Func) (hf : Tryd.pinned.checked.prog.funcNamed "loop.example/g01033/laws.FnExactPhrasesText" = some f) (hfn : Tryd.pinned.checked.prog.funcs[f]? = some fn) :
    false = Tryd.pinned.checked.prog.looks [] ∧ ∀ (j : Nat) t, fn.params[j]? = some t → Tryd.pinned.checked.prog.wantsStandIn t = false := by
  obtain rfl : f = 3 := Option.some.inj ((show Tryd.prog.funcNamed "loop.example/g01033/laws.FnExactPhrasesText" = some 3 by kernel_rfl).symm.trans hf) |>.symm
  obtain rfl : fn = Tryd.f3 := (Option.some.inj (Tryd.func3.symm.trans hfn)).symm
  refine ⟨by kernel_rfl, fun j t ht => ?_⟩
  rw [Tryd.params3] at ht
  have hm := Array.mem_of_getElem? ht
  have hall : ∀ t ∈ #[22], Tryd.prog.wantsStandIn t = false := by
    intro t ht
    simp at ht
    subst ht; kernel_rfl
  exact hall t hm

theorem card : Rows.FnExactPhrasesTextCardSaid :=
  Claim7.holds_tied_plain_at .later [] _ _ _ _ said (fun _ h => by cases h) (by kernel_rfl) (fun _ h => by cases h) fnExactPhrasesText_row_tie rfl ⟨rfl, rfl⟩ (by kernel_rfl) rfl plain (by kernel_rfl)
theorem proved : Rows.FnExactPhrasesTextCardSaid := card
#print axioms proved
end Go.Proofs.YtpkdpchlfabhlaaDoor.fnExactPhrasesText
