/- 'laws.FnExactReadItem' returns true at every input: ReadItem on both sides is one function (readI). -/
import Derived.Test.YtmbillcdlcgjiaaDoorHu2
import Derived.Test.YtmbillcdlcgjiaaDoorLaw
namespace Go.Proofs.YtmbillcdlcgjiaaDoor.fnExactReadItem
open Go.ChangeShapes Go.WideShapes Go.ChangeAt Go.RowKit
set_option linter.unusedVariables false
set_option linter.unusedSimpArgs false
set_option maxRecDepth 100000

set_option maxHeartbeats 8000000 in
set_option maxRecDepth 100000 in
theorem walk (a0 : ByteArray) (w0 : a0.size ≤ maxLen) (w : World) {ps : List MemPlace} (hl : DataW.LaidVars Tryd.prog w Rows.fnExactReadItemRow.laid ps) (hsh : w.ShapedOpen Tryd.prog) :
    Calls Tryd.prog 4 #[.string a0] w fun e w' => e = .returned (.bool true) ∧ Below w.heap.size w w' := by
  have w1 := w0
  unfold maxLen at w1
  by_cases h : 1048576 < a0.size
  · clear hl hsh
    go_enter Tryd.func4, Tryd.ntmps4
    go_wp2_with (fail)
    go_ret
    exact ⟨rfl, Below.refl _ _⟩
  have hs0 : a0.size ≤ 1048576 := by omega
  have e : Rows.laid_internal_strconv_uint64pow10 = Lib.tabData (H := Unit) .u64 Lib.pow10Tab := by kernel_rfl
  have HV : Bx (Vars w) := Bx.mk ⟨tab_get hl (by rw [← e]; exact .tail _ (.tail _ (.head _))) (g := 1) (t := 99) (e := 78) (N := 20) (by kernel_rfl) (by kernel_rfl) Tryd.underlying99 Tryd.underlying78 (by kernel_rfl) (by kernel_rfl),
    sent_get hl (.tail _ (.tail _ (.tail _ (.tail _ (.tail _ (.head _)))))) (g := 2) (t := 61) (by kernel_rfl) (by kernel_rfl) Tryd.underlying61,
    sent_get hl (.tail _ (.tail _ (.tail _ (.tail _ (.head _))))) (g := 3) (t := 61) (by kernel_rfl) (by kernel_rfl) Tryd.underlying61⟩
  have HM : Bx (∃ m, w.cell? ⟨0, 0, none⟩ = some (.int .i64 m) ∧ 0 < w.heap.size) := Bx.mk (by
    obtain ⟨m, hm0⟩ := Tryd.laysM145.s1_3 w hsh
    have hm : w.cell? ⟨0, 0, none⟩ = some (.int .i64 m) := hm0
    refine ⟨m, hm, ?_⟩
    rcases Nat.lt_or_ge 0 w.heap.size with h | h
    · exact h
    · simp [World.cell?, Array.getElem?_eq_none h] at hm)
  have hs := fun W => spec_readitem a0 W hs0
  have hi := fun W (hb : Below w.heap.size w W) => impl_readitem a0 W hs0 (Bx.mk (HV.out.below hb)) (Bx.mk (by obtain ⟨m, h1, h2⟩ := HM.out; exact ⟨m, (hb.cell (p := ⟨0, 0, none⟩) h2).trans h1, Nat.lt_of_lt_of_le h2 hb.size⟩))
  unfold rdV at hs hi
  generalize (readI a0.data.toList).getD it0 = x at hs hi
  generalize (readI a0.data.toList).isSome = cc at hs hi
  have heq := fun W => law_eqitem x W
  unfold itV at hs hi heq
  clear hl e hsh h w1
  go_enter Tryd.func4, Tryd.ntmps4
  go_wp2_with (fail)
  refine (hs _).mono ?_
  rintro r q1 ⟨rfl, hb⟩
  have B1 := Bx.mk (hb.alloc hb.size (.cells #[.string x.nm, .int .i64 x.f, .int .i64 x.u, .int .i64 x.s, .int .i64 x.m, .int .i64 x.p] 26))
  have X1 := Bx.mk (BoxN.at q1 q1.heap.size #[.string x.nm, .int .i64 x.f, .int .i64 x.u, .int .i64 x.s, .int .i64 x.m, .int .i64 x.p] 26 rfl)
  obtain ⟨g1, hg1⟩ : ∃ g, g = q1.heap.size := ⟨_, rfl⟩
  obtain ⟨q2, hq2⟩ : ∃ q, q = q1.alloc (.cells #[.string x.nm, .int .i64 x.f, .int .i64 x.u, .int .i64 x.s, .int .i64 x.m, .int .i64 x.p] 26) := ⟨_, rfl⟩
  rw [← hq2] at B1 X1
  rw [← hg1] at X1
  clear hb
  go_wp2_with (fail)
  rw [← hq2, ← hg1]
  clear hq2 hg1
  refine (hi _ B1.out).mono ?_
  rintro r q3 ⟨rfl, hb⟩
  have B3 := Bx.mk ((B1.out.trans (hb.mono B1.out.size)).alloc (B1.out.trans (hb.mono B1.out.size)).size (.cells #[.string x.nm, .int .i64 x.f, .int .i64 x.u, .int .i64 x.s, .int .i64 x.m, .int .i64 x.p] 26))
  have X3 := Bx.mk ((X1.out.below hb).alloc (.cells #[.string x.nm, .int .i64 x.f, .int .i64 x.u, .int .i64 x.s, .int .i64 x.m, .int .i64 x.p] 26))
  have Y3 := Bx.mk (BoxN.at q3 q3.heap.size #[.string x.nm, .int .i64 x.f, .int .i64 x.u, .int .i64 x.s, .int .i64 x.m, .int .i64 x.p] 26 rfl)
  have x0 := X3.out.c (k := 0) rfl
  have x1 := X3.out.c (k := 1) rfl
  have x2 := X3.out.c (k := 2) rfl
  have x3 := X3.out.c (k := 3) rfl
  have x4 := X3.out.c (k := 4) rfl
  have x5 := X3.out.c (k := 5) rfl
  have xl := X3.out.lt
  clear hb
  go_wp2_with (fail)
  refine (heq _).mono ?_
  rintro r q4 ⟨rfl, hb⟩
  have B4 := Bx.mk (B3.out.trans (hb.mono B3.out.size))
  clear hb x0 x1 x2 x3 x4 x5 xl
  go_wp2_with (fail)
  go_ret
  exact ⟨rfl, B4.out⟩

theorem own : ownKnob Tryd.prog.godebug = none := by kernel_rfl
theorem laidOut : laidOutB Tryd.prog = true := by kernel_rfl
theorem listed {W : World} (h : laidMetH Tryd.prog Rows.fnExactReadItemRow.laid W) : ∃ ps, DataW.LaidVars Tryd.prog W Rows.fnExactReadItemRow.laid ps := by
  rw [Go.MakeChecks.laidMetH_plain _ _ _ (by kernel_rfl)] at h
  obtain ⟨ps, h, _⟩ := h
  exact ⟨ps, h⟩
set_option maxRecDepth 100000 in
theorem contract (H : Type) (enc : TypeId × Value → H) (W : World) (base : Nat) (args : Array Value) (ds gs : List (DataW H)) (before : List MemPlace)
    (hval : ∀ (j : Nat) t v, Tryd.f4.params[j]? = some t → args[j]? = some v → Value.okWide Tryd.prog W .any base t v)
    (hW : DataW.Whole enc Tryd.prog Tryd.f4.params.toList Rows.fnExactReadItemSpec.vars false W args.toList ds gs before) (hL : laidMetH Tryd.prog Rows.fnExactReadItemRow.laid W) (hsh : W.ShapedOpen Tryd.prog) :
    Calls Tryd.prog 4 args W fun e W' => ∃ v, e = .returned v ∧ Rows.fnExactReadItemSpec.post enc Tryd.prog Tryd.f4 false true false false W args v W' := by
  have hW' := hW
  obtain ⟨p, q, hA0, hV, rfl, hfz, hnd⟩ := hW
  obtain ⟨ps, hl⟩ := listed hL
  have hA : DataW.TrodAll enc Tryd.prog W 0 (fun _ => true) true Tryd.f4.params.toList args.toList ds p := hA0
  rw [Tryd.params4] at hA hval
  obtain ⟨v0, vs0, d0, ds0, p0, q0, hargs, rfl, rfl, h0, r0⟩ := trodAll_cons hA
  obtain ⟨rfl, rfl, rfl⟩ := trodAll_nil r0
  obtain rfl : args = #[v0] := by cases args; simp_all
  obtain ⟨rfl, rfl⟩ := trodVars_none hV
  obtain ⟨a0, rfl, rfl, rfl, w0⟩ := Go.ChangeMaps.open_string Tryd.underlying9 (hval 0 9 v0 rfl rfl) h0
  refine (walk a0 w0 W hl hsh).mono fun e W' ⟨he, hb⟩ => ?_
  subst he
  exact ⟨_, rfl, post_lawv laidOut (by kernel_rfl) (by kernel_rfl) (by kernel_rfl) Tryd.underlying4 hW' rfl hb⟩

noncomputable def low : Nat := (World.holding Tryd.prog default ⟨#[], #[], []⟩).heap.size
/-- a world for the witness: each listed variable holds what is listed -/
noncomputable def laidWorld (os : Os) : World :=
  { World.holding Tryd.prog os ⟨#[], #[], []⟩ with heap := ((((((((World.holding Tryd.prog os ⟨#[.cells #[.string ⟨#[118, 97, 108, 117, 101, 32, 111, 117, 116, 32, 111, 102, 32, 114, 97, 110, 103, 101]⟩] 115, .cells #[.string ⟨#[105, 110, 118, 97, 108, 105, 100, 32, 115, 121, 110, 116, 97, 120]⟩] 115], #[], []⟩).heap).modify 6 (layCells (datCells (H := Unit) Rows.laid_math_bits_deBruijn32tab))).modify 7 (layCells (datCells (H := Unit) Rows.laid_math_bits_deBruijn64tab))).modify 1 (layCells (datCells (H := Unit) Rows.laid_internal_strconv_uint64pow10))).modify 5 (layCells (datCells (H := Unit) Rows.laid_unicode_utf8_acceptRanges))).modify 4 (layCells (datCells (H := Unit) Rows.laid_unicode_utf8_first))).modify 3 (layCells [.iface 113 (.pointer (some ⟨low + 0, 0, none⟩))])).modify 2 (layCells [.iface 113 (.pointer (some ⟨low + 1, 0, none⟩))]) }
theorem laid_met (os : Os) : laidMet Tryd.prog Rows.fnExactReadItemRow.laid ((laidWorld os).forCall (fun _ _ => 0) ⟨#[], #[Value.string ⟨#[]⟩], []⟩).memory :=
  laidMet_of_run' 8 (by kernel_rfl) (by kernel_rfl)
theorem reads (os : Os) {H : Type} (enc : TypeId × Value → H) : ∃ places, DataW.whole enc Tryd.prog ((laidWorld os).forCall (fun _ _ => 0) ⟨#[], #[Value.string ⟨#[]⟩], []⟩).memory Tryd.f4.params.toList Rows.fnExactReadItemSpec.vars false #[Value.string ⟨#[]⟩].toList 8 = some ([.lit (.string [])], [], places) :=
  places_of (by kernel_rfl)

set_option maxRecDepth 100000 in
theorem lifted (os : Os) (started : os.Started) (H : Type) (enc : TypeId × Value → H) (F : Stop.Interp) :
    ReturnsInHanded {} Tryd.checked os 4 .any ((OpenSpec.ofChange Rows.fnExactReadItemSpec).preRow enc Tryd.prog Tryd.f4 Rows.fnExactReadItemRow.domain false Rows.fnExactReadItemRow.laid) (((OpenSpec.ofChange Rows.fnExactReadItemSpec).at F).post enc Tryd.prog Tryd.f4 false true false false) := by
  obtain ⟨places, hx⟩ := reads os enc
  refine returnsInHanded_of_row (C := Tryd.checked) (s := OpenSpec.ofChange Rows.fnExactReadItemSpec) own started (by kernel_rfl) Tryd.func4
    (witness_row_at (enc := enc) (C := Tryd.checked) false (laidWorld os) #[Value.string ⟨#[]⟩] rfl (by kernel_rfl) (by kernel_rfl) (by kernel_rfl)
      (OpenSpec.preRow_of_cond 8 hx (by kernel_rfl) (fun k hk => by cases hk) (by kernel_rfl) (by rw [Go.MakeChecks.laidMetH_plain _ _ _ (by kernel_rfl)]; exact laid_met os))) ?_
  intro W base args ds gs before hval hW _ _ _ hL hsh _
  exact contract H enc W base args ds gs before hval hW hL hsh

theorem said : Rows.FnExactReadItemSaid :=
  OpenClaim.holds_of_cond 4 Tryd.f4 rfl rfl rfl rfl rfl rfl rfl ⟨rfl, rfl, rfl, rfl, rfl⟩ rfl rfl rfl rfl rfl (by kernel_rfl) Tryd.func4 (by kernel_rfl)
    (of_decide_eq_true (by kernel_rfl)) (by unfold Func.isWrapper; first | (rw [if_pos (by decide +kernel)]; kernel_rfl) | (rw [if_neg (by decide +kernel)]; exact ⟨rfl, rfl⟩))
    (fun os started H enc _ F => by rw [OpenClaim.pre_eq_preRow]; exact lifted os started H enc F)

theorem plain (f : FuncId) (fn : Func) (hf : Tryd.pinned.checked.prog.funcNamed "loop.example/g01033/laws.FnExactReadItem" = some f) (hfn : Tryd.pinned.checked.prog.funcs[f]? = some fn) :
    true = Tryd.pinned.checked.prog.looks [] ∧ ∀ (j : Nat) t, fn.params[j]? = some t → Tryd.pinned.checked.prog.wantsStandIn t = false := by
  obtain rfl : f = 4 := Option.some.inj ((show Tryd.prog.funcNamed "loop.example/g01033/laws.FnExactReadItem" = some 4 by kernel_rfl).symm.trans hf) |>.symm
  obtain rfl : fn = Tryd.f4 := (Option.some.inj (Tryd.func4.symm.trans hfn)).symm
  refine ⟨by kernel_rfl, fun j t ht => ?_⟩
  rw [Tryd.params4] at ht
  have hm := Array.mem_of_getElem? ht
  have hall : ∀ t ∈ #[9], Tryd.prog.wantsStandIn t = false := by
    intro t ht
    simp at ht
    subst ht; kernel_rfl
  exact hall t hm

theorem card : Rows.FnExactReadItemCardSaid :=
  Claim7.holds_tied_plain_at .later [] _ _ _ _ said (fun _ h => by cases h) (by kernel_rfl) (fun _ h => by cases h) fnExactReadItem_row_tie rfl ⟨rfl, rfl⟩ (by kernel_rfl) rfl plain (by kernel_rfl)
theorem proved : Rows.FnExactReadItemCardSaid := card
#print axioms proved
end Go.Proofs.YtmbillcdlcgjiaaDoor.fnExactReadItem
