/- 'laws.FnExactNearestTone' returns true at every input: NearestTone on both sides is one function. -/
import Derived.Test.YtbnhcacjlkmfeaaDoorTuLaw
import Derived.Test.YtbnhcacjlkmfeaaDoorTu11
import Derived.Test.YtbnhcacjlkmfeaaDoorTi12
namespace Go.Proofs.YtbnhcacjlkmfeaaDoor.fnExactNearestTone
open Go.ChangeShapes Go.WideShapes Go.ChangeAt Go.RowKit
set_option linter.unusedVariables false
set_option linter.unusedSimpArgs false
set_option maxRecDepth 100000

set_option maxHeartbeats 8000000 in
theorem walk (s0 : ByteArray) (u0 : Value) (l0 : List (Int × Int)) {w : World} (w0 : PrsAt w u0 l0 ∧ s0.size ≤ maxLen ∧ l0.length ≤ 9223372036854775807) (a1 : Int) (w1 : (Lit.int .i64 a1).wf = true) {ps : List MemPlace} (hl : DataW.LaidVars Tryd.prog w Rows.fnExactNearestToneRow.laid ps) :
    Calls Tryd.prog 4 #[tun s0 u0, .int .i64 a1] w fun e w' => e = .returned (.bool true) ∧ Below w.heap.size w w' := by
  have hT := Bx.mk (steptab_of hl (.head _))
  clear hl
  obtain ⟨hi0, hs0, hm0⟩ := w0
  obtain ⟨A0, c0, rfl⟩ := prs_len hi0
  have HI0 := Bx.mk hi0
  clear hi0
  have H0 := Bx.mk (Holds.start w)
  simp only [tun]
  rcases szT_ways s0 l0 1048576 with hz0 | ⟨hz0, hzb0⟩
  · have hsz0 := fun W h => sz_tun s0 (.slice A0 l0.length c0) l0 1048576 W h (by omega) hs0 hm0
    rw [hz0] at hsz0
    simp only [tun] at hsz0
    go_enter Tryd.func4, Tryd.ntmps4
    go_wp2_with (fail)
    refine (hsz0 _ (HI0.out.below ((H0.out.pair (.string s0) (.slice A0 l0.length c0) _ _)).2)).mono ?_
    rintro e1 q1 ⟨rfl, hb⟩
    have H1 := Bx.mk ((H0.out.pair (.string s0) (.slice A0 l0.length c0) _ _).below hb)
    have SZ1 : Bx (w.heap.size + 1 ≤ q1.heap.size) := Bx.mk (by have := hb.size; simp only [World.size_alloc] at this; omega)
    clear H0
    have b0_x := H1.out.get (g := w.heap.size) (k := 0) (v := .string s0) (by simp)
    have b0_y := H1.out.get (g := w.heap.size) (k := 1) (v := .slice A0 l0.length c0) (by simp)
    have b0_l := H1.out.lt (g := w.heap.size) (k := 1) (v := .slice A0 l0.length c0) (by simp)
    clear hb
    go_wp2_with (fail)
    go_ret
    exact ⟨rfl, (H1.out).2⟩
  · have hsz0 := fun W h => sz_tun s0 (.slice A0 l0.length c0) l0 1048576 W h (by omega) hs0 hm0
    rw [hz0] at hsz0
    simp only [tun] at hsz0
    obtain ⟨z0, hzz0⟩ : ∃ z : Int, z = 1048576 - (s0.size : Int) - (l0.length : Int) := ⟨_, rfl⟩
    rw [← hzz0] at hsz0
    have hd0 : decide (z0 < 0) = false := decide_eq_false (by omega)
    have hn0 : l0.length ≤ 1048576 := by omega
    have hr0 : 0 ≤ z0 ∧ z0 ≤ 1048576 := by omega
    clear hzz0 hz0
    have hcp0 := fun W h => copy_tun s0 (.slice A0 l0.length c0) l0 W h (by omega)
    simp only [tun] at hcp0
    have heq0 := fun va vb W ha hb => eq_tun_same s0 va vb l0 W ha hb (by omega)
    simp only [tun] at heq0
    have hs := fun W (u0' : Value) (h0' : PrsAt W u0' l0) => spec_nearest s0 u0' l0 a1 W h0' hs0 (by omega)
    have hi := fun W (u0' : Value) (h0' : PrsAt W u0' l0) (hT' : StepTab W) => impl_nearest s0 u0' l0 a1 W h0' hs0 (by omega) hT'
    simp only [ThreeOut, tun] at hs hi
    generalize neE s0.data.toList l0 a1 = t at hs hi
    obtain ⟨r0, r1, r2⟩ := t
    try dsimp only at hs hi
    go_enter Tryd.func4, Tryd.ntmps4
    go_wp2_with (fail)
    refine (hsz0 _ (HI0.out.below ((H0.out.pair (.string s0) (.slice A0 l0.length c0) _ _)).2)).mono ?_
    rintro e1 q1 ⟨rfl, hb⟩
    have H1 := Bx.mk ((H0.out.pair (.string s0) (.slice A0 l0.length c0) _ _).below hb)
    have SZ1 : Bx (w.heap.size + 1 ≤ q1.heap.size) := Bx.mk (by have := hb.size; simp only [World.size_alloc] at this; omega)
    clear H0
    have b0_x := H1.out.get (g := w.heap.size) (k := 0) (v := .string s0) (by simp)
    have b0_y := H1.out.get (g := w.heap.size) (k := 1) (v := .slice A0 l0.length c0) (by simp)
    have b0_l := H1.out.lt (g := w.heap.size) (k := 1) (v := .slice A0 l0.length c0) (by simp)
    clear hb
    go_wp2_with (fail)
    refine (hcp0 _ (HI0.out.below (H1.out).2)).mono ?_
    rintro e2 q2 ⟨va0, rfl, ho, hb⟩
    obtain ⟨Aa0, ca0, rfl⟩ := own_len ho
    have H2 := Bx.mk (H1.out.below hb)
    have SZ2 : Bx (q1.heap.size ≤ q2.heap.size) := Bx.mk hb.size
    have Oa0_2 := Bx.mk ho
    have Ua0 := Bx.mk (own_hi ho)
    clear H1 b0_x b0_y b0_l
    have b0_x := H2.out.get (g := w.heap.size) (k := 0) (v := .string s0) (by simp)
    have b0_y := H2.out.get (g := w.heap.size) (k := 1) (v := .slice A0 l0.length c0) (by simp)
    have b0_l := H2.out.lt (g := w.heap.size) (k := 1) (v := .slice A0 l0.length c0) (by simp)
    clear hb ho
    go_wp2_with (fail)
    refine (hs _ _ (PrsAt.own Oa0_2.out)).mono ?_
    rintro e3 q3 ⟨rfl, hb⟩
    have H3 := Bx.mk (H2.out.below hb)
    have SZ3 : Bx (q2.heap.size ≤ q3.heap.size) := Bx.mk hb.size
    have Oa0_3 := Bx.mk (own_below Oa0_2.out hb)
    clear H2 Oa0_2 b0_x b0_y b0_l
    have b0_x := H3.out.get (g := w.heap.size) (k := 0) (v := .string s0) (by simp)
    have b0_y := H3.out.get (g := w.heap.size) (k := 1) (v := .slice A0 l0.length c0) (by simp)
    have b0_l := H3.out.lt (g := w.heap.size) (k := 1) (v := .slice A0 l0.length c0) (by simp)
    clear hb
    go_wp2_with (fail)
    refine (hcp0 _ (HI0.out.below (H3.out).2)).mono ?_
    rintro e4 q4 ⟨vb0, rfl, ho, hb⟩
    obtain ⟨Ab0, cb0, rfl⟩ := own_len ho
    have H4 := Bx.mk (H3.out.below hb)
    have SZ4 : Bx (q3.heap.size ≤ q4.heap.size) := Bx.mk hb.size
    have Oa0_4 := Bx.mk (own_below Oa0_3.out hb)
    have Ob0_4 := Bx.mk ho
    have Ub0 := Bx.mk (own_hi ho)
    clear H3 Oa0_3 b0_x b0_y b0_l
    have b0_x := H4.out.get (g := w.heap.size) (k := 0) (v := .string s0) (by simp)
    have b0_y := H4.out.get (g := w.heap.size) (k := 1) (v := .slice A0 l0.length c0) (by simp)
    have b0_l := H4.out.lt (g := w.heap.size) (k := 1) (v := .slice A0 l0.length c0) (by simp)
    clear hb ho
    go_wp2_with (fail)
    refine (hi _ _ (PrsAt.own (World.ownsRow.alloc Ob0_4.out _)) (hT.out.below ((H4.out.pair (.string s0) (.slice Ab0 l0.length cb0) _ _)).2)).mono ?_
    rintro e5 q5 ⟨rfl, hb⟩
    have H5 := Bx.mk ((H4.out.pair (.string s0) (.slice Ab0 l0.length cb0) _ _).below hb)
    have SZ5 : Bx (q4.heap.size + 1 ≤ q5.heap.size) := Bx.mk (by have := hb.size; simp only [World.size_alloc] at this; omega)
    have Oa0_5 := Bx.mk (own_below (World.ownsRow.alloc Oa0_4.out _) hb)
    have Ob0_5 := Bx.mk (own_below (World.ownsRow.alloc Ob0_4.out _) hb)
    clear H4 Oa0_4 Ob0_4 b0_x b0_y b0_l
    have b0_x := H5.out.get (g := w.heap.size) (k := 0) (v := .string s0) (by simp)
    have b0_y := H5.out.get (g := w.heap.size) (k := 1) (v := .slice A0 l0.length c0) (by simp)
    have b0_l := H5.out.lt (g := w.heap.size) (k := 1) (v := .slice A0 l0.length c0) (by simp)
    have b1_x := H5.out.get (g := q4.heap.size) (k := 0) (v := .string s0) (by simp)
    have b1_y := H5.out.get (g := q4.heap.size) (k := 1) (v := .slice Ab0 l0.length cb0) (by simp)
    have b1_l := H5.out.lt (g := q4.heap.size) (k := 1) (v := .slice Ab0 l0.length cb0) (by simp)
    clear hb
    go_wp2_with (fail)
    have HS0 : Bx (q5.cell? ⟨q4.heap.size, 0, none⟩ = some (.string s0) ∧ q5.cell? ⟨q4.heap.size, 1, none⟩ = some (.slice Ab0 l0.length cb0) ∧ q5.cell? ⟨w.heap.size, 0, none⟩ = some (.string s0) ∧ q5.cell? ⟨w.heap.size, 1, none⟩ = some (.slice A0 l0.length c0) ∧ q4.heap.size < q5.heap.size ∧ w.heap.size < q5.heap.size ∧ Below q5.heap.size q5 q5) := Bx.mk ⟨b1_x, b1_y, b0_x, b0_y, b1_l, b0_l, Below.refl _ _⟩
    have HBr := Bx.mk (PrsAt.own Ob0_5.out)
    clear b0_x b0_y b0_l b1_x b1_y b1_l
    go_region_held3 (fun W => W.cell? ⟨q4.heap.size, 0, none⟩ = some (.string s0) ∧ W.cell? ⟨q4.heap.size, 1, none⟩ = some (.slice Ab0 l0.length cb0) ∧ W.cell? ⟨w.heap.size, 0, none⟩ = some (.string s0) ∧ W.cell? ⟨w.heap.size, 1, none⟩ = some (.slice A0 l0.length c0) ∧ q4.heap.size < W.heap.size ∧ w.heap.size < W.heap.size ∧ Below q5.heap.size q5 W)
      (first | (with_reducible exact keepE (by assumption) hb4) | (with_reducible exact keepE (by assumption) (Below.refl _ _)) | (with_reducible exact keepE (by assumption) (Below.refl _ _).drew) | exact keepE HS0.out (Below.refl _ _).drew)
      (first | (go_at_call 11; (with_reducible refine (hcp0 _ (HI0.out.below (bel_up H5.out (by assumption)))).mono ?_); rintro r w4 ⟨vc, rfl, ho, hb4⟩; obtain ⟨Acx, ccx, rfl⟩ := own_len ho; have HC := Bx.mk (PrsAt.own ho); clear ho; have hS0 := keepE (w := q5) (by assumption) hb4) | (go_at_call 13; (with_reducible refine (heq0 _ _ _ (HBr.out.below (bel_of (q := q5) (by assumption))) (by first | (with_reducible exact HC.out) | (with_reducible exact HC.out.below (Below.refl _ _).drew) | exact HC.out)).mono ?_); rintro r w5 ⟨rfl, hb4⟩; have hS0 := keepE (w := q5) (by assumption) hb4))
    all_goals
      obtain ⟨q6, hq, hb⟩ : ∃ q, q = _ ∧ Below q5.heap.size q5 q := ⟨_, rfl, (by assumption : _ ∧ _ ∧ _ ∧ _ ∧ _ ∧ _ ∧ _).2.2.2.2.2.2⟩
      rw [← hq]
      clear hq HBr HS0
      have H6 := Bx.mk (H5.out.below hb)
      have SZ6 : Bx (q5.heap.size ≤ q6.heap.size) := Bx.mk hb.size
      have Oa0_6 := Bx.mk (own_below Oa0_5.out hb)
      have Ob0_6 := Bx.mk (own_below Ob0_5.out hb)
      clear H5 Oa0_5 Ob0_5
      have b0_x := H6.out.get (g := w.heap.size) (k := 0) (v := .string s0) (by simp)
      have b0_y := H6.out.get (g := w.heap.size) (k := 1) (v := .slice A0 l0.length c0) (by simp)
      have b0_l := H6.out.lt (g := w.heap.size) (k := 1) (v := .slice A0 l0.length c0) (by simp)
      have b1_x := H6.out.get (g := q4.heap.size) (k := 0) (v := .string s0) (by simp)
      have b1_y := H6.out.get (g := q4.heap.size) (k := 1) (v := .slice Ab0 l0.length cb0) (by simp)
      have b1_l := H6.out.lt (g := q4.heap.size) (k := 1) (v := .slice Ab0 l0.length cb0) (by simp)
      clear hb
      go_wp2_with (fail)
      go_ret
      exact ⟨rfl, (H6.out).2⟩

theorem own : ownKnob Tryd.prog.godebug = none := by kernel_rfl
theorem laidOut : laidOutB Tryd.prog = true := by kernel_rfl
theorem listed {W : World} (h : laidMetH Tryd.prog Rows.fnExactNearestToneRow.laid W) : ∃ ps, DataW.LaidVars Tryd.prog W Rows.fnExactNearestToneRow.laid ps := by
  rw [Go.MakeChecks.laidMetH_plain _ _ _ (by kernel_rfl)] at h
  obtain ⟨ps, h, _⟩ := h
  exact ⟨ps, h⟩
set_option maxRecDepth 100000 in
theorem contract (H : Type) (enc : TypeId × Value → H) (W : World) (base : Nat) (args : Array Value) (ds gs : List (DataW H)) (before : List MemPlace)
    (hval : ∀ (j : Nat) t v, Tryd.f4.params[j]? = some t → args[j]? = some v → Value.okWide Tryd.prog W .any base t v)
    (hW : DataW.Whole enc Tryd.prog Tryd.f4.params.toList Rows.fnExactNearestToneSpec.vars false W args.toList ds gs before) (hL : laidMetH Tryd.prog Rows.fnExactNearestToneRow.laid W) (hsh : W.ShapedOpen Tryd.prog) :
    Calls Tryd.prog 4 args W fun e W' => ∃ v, e = .returned v ∧ Rows.fnExactNearestToneSpec.post enc Tryd.prog Tryd.f4 false true false false W args v W' := by
  have hW' := hW
  obtain ⟨p, q, hA0, hV, rfl, hfz, hnd⟩ := hW
  obtain ⟨ps, hl⟩ := listed hL
  have hA : DataW.TrodAll enc Tryd.prog W 0 (fun _ => true) true Tryd.f4.params.toList args.toList ds p := hA0
  rw [Tryd.params4] at hA hval
  obtain ⟨v0, vs0, d0, ds0, p0, q0, hargs, rfl, rfl, h0, r0⟩ := trodAll_cons hA
  obtain ⟨v1, vs1, d1, ds1, p1, q1, rfl, rfl, rfl, h1, r1⟩ := trodAll_cons r0
  obtain ⟨rfl, rfl, rfl⟩ := trodAll_nil r1
  obtain rfl : args = #[v0, v1] := by cases args; simp_all
  obtain ⟨gv0, gr0, hgs0, hV0⟩ : ∃ d r, gs = d :: r ∧ True := by cases gs with | nil => simp [DataW.TrodVars, Rows.fnExactNearestToneSpec] at hV | cons d r => exact ⟨d, r, rfl, trivial⟩
  subst hgs0
  obtain rfl : gr0 = [] := by
    obtain ⟨_, _, _, _, _, _, _, _, _, _, hr, _⟩ := hV
    cases gr0 with
    | nil => rfl
    | cons => simp [DataW.TrodVars] at hr
  obtain ⟨s0, u0, l0, rfl, w0⟩ := arg_tun (hval 0 24 v0 rfl rfl) h0 (fun x hx => hW'.lt x (by simp [hx]))
  obtain ⟨a1, rfl, rfl, rfl, w1⟩ := open_int Tryd.underlying2 (hval 1 2 v1 rfl rfl) h1
  refine (walk s0 u0 l0 w0 a1 w1  hl).mono fun e W' ⟨he, hb⟩ => ?_
  subst he
  exact ⟨_, rfl, post_lawv laidOut (by kernel_rfl) (by kernel_rfl) (by kernel_rfl) Tryd.underlying4 hW' rfl hb⟩

noncomputable def low : Nat := (World.holding Tryd.prog default ⟨#[], #[], []⟩).heap.size
/-- a world for the witness: each listed variable holds what is listed -/
noncomputable def laidWorld (os : Os) : World :=
  { World.holding Tryd.prog os ⟨#[], #[], []⟩ with heap := ((World.holding Tryd.prog os ⟨#[], #[], []⟩).heap).modify 0 (layCells (datCells (H := Unit) Rows.laid_loop_example_g01033_impl_centsOfSteps)) }
theorem laid_met (os : Os) : laidMet Tryd.prog Rows.fnExactNearestToneRow.laid ((laidWorld os).forCall (fun _ _ => 0) ⟨#[], #[Value.agg #[.string ⟨#[]⟩, .slice none 0 0], Value.int .i64 0], []⟩).memory :=
  laidMet_of_run' 8 (by kernel_rfl) (by kernel_rfl)
theorem reads (os : Os) {H : Type} (enc : TypeId × Value → H) : ∃ places, DataW.whole enc Tryd.prog ((laidWorld os).forCall (fun _ _ => 0) ⟨#[], #[Value.agg #[.string ⟨#[]⟩, .slice none 0 0], Value.int .i64 0], []⟩).memory Tryd.f4.params.toList Rows.fnExactNearestToneSpec.vars false #[Value.agg #[.string ⟨#[]⟩, .slice none 0 0], Value.int .i64 0].toList 8 = some ([.agg [.lit (.string []), .nil], .lit (.int .i64 0)], [Rows.laid_loop_example_g01033_impl_centsOfSteps], places) :=
  places_of (by kernel_rfl)

set_option maxRecDepth 100000 in
theorem lifted (os : Os) (started : os.Started) (H : Type) (enc : TypeId × Value → H) (F : Stop.Interp) :
    ReturnsInHanded {} Tryd.checked os 4 .any ((OpenSpec.ofChange Rows.fnExactNearestToneSpec).preRow enc Tryd.prog Tryd.f4 Rows.fnExactNearestToneRow.domain false Rows.fnExactNearestToneRow.laid) (((OpenSpec.ofChange Rows.fnExactNearestToneSpec).at F).post enc Tryd.prog Tryd.f4 false true false false) := by
  obtain ⟨places, hx⟩ := reads os enc
  refine returnsInHanded_of_row (C := Tryd.checked) (s := OpenSpec.ofChange Rows.fnExactNearestToneSpec) own started (by kernel_rfl) Tryd.func4
    (witness_row_at (enc := enc) (C := Tryd.checked) false (laidWorld os) #[Value.agg #[.string ⟨#[]⟩, .slice none 0 0], Value.int .i64 0] rfl (by kernel_rfl) (by kernel_rfl) (by kernel_rfl)
      (OpenSpec.preRow_of_cond 8 hx (by kernel_rfl) (fun k hk => by cases hk) (by kernel_rfl) (by rw [Go.MakeChecks.laidMetH_plain _ _ _ (by kernel_rfl)]; exact laid_met os))) ?_
  intro W base args ds gs before hval hW _ _ _ hL hsh _
  exact contract H enc W base args ds gs before hval hW hL hsh

theorem said : Rows.FnExactNearestToneSaid :=
  OpenClaim.holds_of_cond 4 Tryd.f4 rfl rfl rfl rfl rfl rfl rfl ⟨rfl, rfl, rfl, rfl, rfl⟩ rfl rfl rfl rfl rfl (by kernel_rfl) Tryd.func4 (by kernel_rfl)
    (of_decide_eq_true (by kernel_rfl)) (by unfold Func.isWrapper; first | (rw [if_pos (by decide +kernel)]; kernel_rfl) | (rw [if_neg (by decide +kernel)]; exact ⟨rfl, rfl⟩))
    (fun os started H enc _ F => by rw [OpenClaim.pre_eq_preRow]; exact lifted os started H enc F)

theorem plain (f : FuncId) (fn : Func) (hf : Tryd.pinned.checked.prog.funcNamed "loop.example/g01033/laws.FnExactNearestTone" = some f) (hfn : Tryd.pinned.checked.prog.funcs[f]? = some fn) :
    true = Tryd.pinned.checked.prog.looks [] ∧ ∀ (j : Nat) t, fn.params[j]? = some t → Tryd.pinned.checked.prog.wantsStandIn t = false := by
  obtain rfl : f = 4 := Option.some.inj ((show Tryd.prog.funcNamed "loop.example/g01033/laws.FnExactNearestTone" = some 4 by kernel_rfl).symm.trans hf) |>.symm
  obtain rfl : fn = Tryd.f4 := (Option.some.inj (Tryd.func4.symm.trans hfn)).symm
  refine ⟨by kernel_rfl, fun j t ht => ?_⟩
  rw [Tryd.params4] at ht
  have hm := Array.mem_of_getElem? ht
  have hall : ∀ t ∈ #[24, 2], Tryd.prog.wantsStandIn t = false := by
    intro t ht
    simp at ht
    rcases ht with rfl | rfl <;> kernel_rfl
  exact hall t hm

theorem card : Rows.FnExactNearestToneCardSaid :=
  Claim7.holds_tied_plain_at .later [] _ _ _ _ said (fun _ h => by cases h) (by kernel_rfl) (fun _ h => by cases h) fnExactNearestTone_row_tie rfl ⟨rfl, rfl⟩ (by kernel_rfl) rfl plain (by kernel_rfl)
theorem proved : Rows.FnExactNearestToneCardSaid := card
#print axioms proved
end Go.Proofs.YtbnhcacjlkmfeaaDoor.fnExactNearestTone
