/- 'laws.FnExactReadPhrases' returns true at every input: ReadPhrases on both sides is one function. -/
import Derived.Test.YtgkdonnkiljplaaDoorPy2
namespace Go.Proofs.YtgkdonnkiljplaaDoor.fnExactReadPhrases
open Go.ChangeShapes Go.WideShapes Go.ChangeAt Go.RowKit
set_option linter.unusedVariables false
set_option linter.unusedSimpArgs false
set_option maxRecDepth 100000

set_option maxHeartbeats 4000000 in
set_option maxRecDepth 100000 in
theorem walk (a0 : ByteArray) (w0 : a0.size ≤ maxLen) (w : World) {ps : List MemPlace} (hl : DataW.LaidVars Tryd.prog w Rows.fnExactReadPhrasesRow.laid ps) (hsh : w.ShapedOpen Tryd.prog) :
    Calls Tryd.prog 3 #[.string a0] w fun e w' => e = .returned (.bool true) ∧ Below w.heap.size w w' := by
  have w1 := w0
  unfold maxLen at w1
  by_cases h : 1048576 < a0.size
  · clear hl hsh
    go_enter Tryd.func3, Tryd.ntmps3
    go_wp2_with (fail)
    go_ret
    exact ⟨rfl, Below.refl _ _⟩
  · have hs : a0.size ≤ 1048576 := by omega
    have e : Rows.laid_internal_strconv_uint64pow10 = Lib.tabData (H := Unit) .u64 Lib.pow10Tab := by kernel_rfl
    have HV : Bx (Vars w) := Bx.mk ⟨tab_get hl (by rw [← e]; exact .tail _ (.tail _ (.head _))) (g := 5) (t := 96) (e := 66) (N := 20) (by kernel_rfl) (by kernel_rfl) Tryd.underlying96 Tryd.underlying66 (by kernel_rfl) (by kernel_rfl),
      sent_get hl (.tail _ (.tail _ (.tail _ (.tail _ (.tail _ (.head _)))))) (g := 3) (t := 54) (by kernel_rfl) (by kernel_rfl) Tryd.underlying54,
      sent_get hl (.tail _ (.tail _ (.tail _ (.tail _ (.head _))))) (g := 4) (t := 54) (by kernel_rfl) (by kernel_rfl) Tryd.underlying54⟩
    have HM : Bx ((∃ m, w.cell? ⟨0, 0, none⟩ = some (.int .i64 m)) ∧ 0 < w.heap.size) := Bx.mk (by
      obtain ⟨m, hm0⟩ := Tryd.laysM146.s1_3 w hsh
      have hm : w.cell? ⟨0, 0, none⟩ = some (.int .i64 m) := hm0
      refine ⟨⟨m, hm⟩, ?_⟩
      rcases Nat.lt_or_ge 0 w.heap.size with h | h
      · exact h
      · simp [World.cell?, Array.getElem?_eq_none h] at hm)
    have HLN := readPh_len a0.data.toList
    have hspec := fun W => spec_readphrases a0 W hs
    have himpl := fun W (hb : Below w.heap.size w W) => impl_readphrases a0 W hs (Bx.mk (HV.out.below hb)) (Bx.mk (maxlen_below HM.out.1 HM.out.2 hb)) (Nat.lt_of_lt_of_le HM.out.2 hb.size)
    clear hl e hsh
    generalize readPh a0.data.toList = o at HLN hspec himpl
    generalize hz : o.getD [] = L at HLN
    obtain ⟨l1, l2⟩ := HLN
    have HZ := Bx.mk hz
    have HL2 : Bx (∀ k, k < L.length → (L.getD k []).length ≤ 64) := Bx.mk (fun k hk => Nat.le_trans (l2 k hk) (by decide))
    have hheld := fun v W (h : RowsAt W v (markLL L 1)) => held_rows v L 1 W h (by omega) HL2.out ⟨by decide, by decide⟩
    have heq := fun va vb W (ha : RowsAt W va L) (hb : RowsAt W vb L) => eq_rows va vb L L W ha hb (by omega) (by omega) (fun k hk => Nat.le_trans (HL2.out k hk) (by decide)) (fun k hk => Nat.le_trans (HL2.out k hk) (by decide))
    simp only [decide_true] at heq
    have hof : Bx (0 ≤ (offN L L.length : Int)) := Bx.mk (by omega)
    have d1 : decide (1 + (offN L L.length : Int) < 0) = false := decide_eq_false (by omega)
    clear hz l2
    go_enter Tryd.func3, Tryd.ntmps3
    go_wp2_with (fail)
    refine (hspec _).mono ?_
    rintro e w1 ho
    obtain ⟨v0, V0, rfl, ho0, hb1⟩ := ro_parts ho
    rw [HZ.out] at ho0
    obtain ⟨A0, c0, rfl⟩ := own_len ho0.out
    have A0' := Bx.mk ho0.at
    have A00 := A0'
    have B1 := Bx.mk hb1
    clear ho ho0 hb1 hspec
    go_wp2_with (fail)
    refine (himpl _ B1.out).mono ?_
    rintro e w2 ho
    obtain ⟨v1, V1, rfl, ho1, hb2⟩ := ro_parts ho
    rw [HZ.out] at ho1
    obtain ⟨A1, c1, rfl⟩ := own_len ho1.out
    have O1 := Bx.mk ho1
    have U1 := Bx.mk (fun i (hi : i < L.length) => own_hi (ho1.row i hi))
    have B2 := Bx.mk hb2
    have A02 := Bx.mk (A0'.out.below hb2)
    clear ho ho1 hb2 A0'
    go_wp2_with (fail)
    refine (heq _ _ _ O1.out.at A02.out).mono ?_
    rintro e w3 ⟨rfl, hd⟩
    have hb3 := below_dr hd
    have O3 := Bx.mk (RowsOwn.below O1.out hb3)
    have B3 := Bx.mk (B2.out.trans (hb3.mono B2.out.size))
    have S3 := Bx.mk hb3.size
    have A03 := Bx.mk (A02.out.below hb3)
    clear hd hb3 O1 A02
    go_wp2_with (fail)
    refine (mark_rowsX _ L V1 w1.heap.size w2.heap.size 1 w3 O3.out U1.out (by omega) HL2.out ⟨by decide, by decide⟩).mono ?_
    rintro e w4 ⟨rfl, ho4, ht⟩
    have O4 := Bx.mk ho4.at
    have B4 := Bx.mk (ht.keeps B3.out (Nat.le_refl _) B3.out.size)
    have BW4 := Bx.mk (B1.out.trans (B4.out.mono B1.out.size))
    clear ho4 ht O3
    go_wp2_with (fail)
    refine (hheld _ _ O4.out).mono ?_
    rintro e w4' ⟨rfl, rfl⟩
    go_wp2_with (fail)
    refine (himpl _ BW4.out).mono ?_
    rintro e w5 ho
    obtain ⟨v2, V2, rfl, ho5, hb5⟩ := ro_parts ho
    rw [HZ.out] at ho5
    obtain ⟨A2, c2, rfl⟩ := own_len ho5.out
    have O5 := Bx.mk ho5.at
    have B5 := Bx.mk (BW4.out.trans (hb5.mono BW4.out.size))
    have A05 := Bx.mk ((A00.out.below B4.out).below hb5)
    have O45 := Bx.mk (O4.out.below hb5)
    clear ho ho5 hb5 himpl O4 A03
    go_wp2_with (fail)
    refine (heq _ _ _ O5.out A05.out).mono ?_
    rintro e w6 ⟨rfl, hd⟩
    have hb6 := below_dr hd
    have B6 := Bx.mk (B5.out.trans (hb6.mono B5.out.size))
    have O46 := Bx.mk (O45.out.below hb6)
    clear hd hb6
    go_wp2_with (fail)
    refine (hheld _ _ O46.out).mono ?_
    rintro e w7 ⟨rfl, rfl⟩
    go_wp2_with (fail)
    go_ret
    exact ⟨rfl, B6.out⟩

theorem own : ownKnob Tryd.prog.godebug = none := by kernel_rfl
theorem laidOut : laidOutB Tryd.prog = true := by kernel_rfl
theorem listed {W : World} (h : laidMetH Tryd.prog Rows.fnExactReadPhrasesRow.laid W) : ∃ ps, DataW.LaidVars Tryd.prog W Rows.fnExactReadPhrasesRow.laid ps := by
  rw [Go.MakeChecks.laidMetH_plain _ _ _ (by kernel_rfl)] at h
  obtain ⟨ps, h, _⟩ := h
  exact ⟨ps, h⟩
set_option maxRecDepth 100000 in
theorem contract (H : Type) (enc : TypeId × Value → H) (W : World) (base : Nat) (args : Array Value) (ds gs : List (DataW H)) (before : List MemPlace)
    (hval : ∀ (j : Nat) t v, Tryd.f3.params[j]? = some t → args[j]? = some v → Value.okWide Tryd.prog W .any base t v)
    (hW : DataW.Whole enc Tryd.prog Tryd.f3.params.toList Rows.fnExactReadPhrasesSpec.vars false W args.toList ds gs before) (hL : laidMetH Tryd.prog Rows.fnExactReadPhrasesRow.laid W) (hsh : W.ShapedOpen Tryd.prog) :
    Calls Tryd.prog 3 args W fun e W' => ∃ v, e = .returned v ∧ Rows.fnExactReadPhrasesSpec.post enc Tryd.prog Tryd.f3 false true false false W args v W' := by
  have hW' := hW
  obtain ⟨p, q, hA0, hV, rfl, hfz, hnd⟩ := hW
  obtain ⟨ps, hl⟩ := listed hL
  have hA : DataW.TrodAll enc Tryd.prog W 0 (fun _ => true) true Tryd.f3.params.toList args.toList ds p := hA0
  rw [Tryd.params3] at hA hval
  obtain ⟨v0, vs0, d0, ds0, p0, q0, hargs, rfl, rfl, h0, r0⟩ := trodAll_cons hA
  obtain ⟨rfl, rfl, rfl⟩ := trodAll_nil r0
  obtain rfl : args = #[v0] := by cases args; simp_all
  obtain ⟨rfl, rfl⟩ := trodVars_none hV
  obtain ⟨a0, rfl, rfl, rfl, w0⟩ := Go.ChangeMaps.open_string Tryd.underlying9 (hval 0 9 v0 rfl rfl) h0
  refine (walk a0 w0 W hl hsh).mono fun e W' ⟨he, hb⟩ => ?_
  subst he
  exact ⟨_, rfl, post_lawv laidOut (by kernel_rfl) (by kernel_rfl) (by kernel_rfl) Tryd.underlying4 hW' rfl hb⟩

noncomputable def low : Nat := (World.holding Tryd.prog default ⟨#[], #[], []⟩).heap.size
/-- a world for the witness: each listed variable holds what is listed -/
noncomputable def laidWorld (os : Os) : World :=
  { World.holding Tryd.prog os ⟨#[], #[], []⟩ with heap := ((((((((World.holding Tryd.prog os ⟨#[.cells #[.string ⟨#[118, 97, 108, 117, 101, 32, 111, 117, 116, 32, 111, 102, 32, 114, 97, 110, 103, 101]⟩] 94, .cells #[.string ⟨#[105, 110, 118, 97, 108, 105, 100, 32, 115, 121, 110, 116, 97, 120]⟩] 94], #[], []⟩).heap).modify 6 (layCells (datCells (H := Unit) Rows.laid_math_bits_deBruijn32tab))).modify 7 (layCells (datCells (H := Unit) Rows.laid_math_bits_deBruijn64tab))).modify 5 (layCells (datCells (H := Unit) Rows.laid_internal_strconv_uint64pow10))).modify 2 (layCells (datCells (H := Unit) Rows.laid_unicode_utf8_acceptRanges))).modify 1 (layCells (datCells (H := Unit) Rows.laid_unicode_utf8_first))).modify 4 (layCells [.iface 92 (.pointer (some ⟨low + 0, 0, none⟩))])).modify 3 (layCells [.iface 92 (.pointer (some ⟨low + 1, 0, none⟩))]) }
theorem laid_met (os : Os) : laidMet Tryd.prog Rows.fnExactReadPhrasesRow.laid ((laidWorld os).forCall (fun _ _ => 0) ⟨#[], #[Value.string ⟨#[]⟩], []⟩).memory :=
  laidMet_of_run' 8 (by kernel_rfl) (by kernel_rfl)
theorem reads (os : Os) {H : Type} (enc : TypeId × Value → H) : ∃ places, DataW.whole enc Tryd.prog ((laidWorld os).forCall (fun _ _ => 0) ⟨#[], #[Value.string ⟨#[]⟩], []⟩).memory Tryd.f3.params.toList Rows.fnExactReadPhrasesSpec.vars false #[Value.string ⟨#[]⟩].toList 8 = some ([.lit (.string [])], [], places) :=
  places_of (by kernel_rfl)

set_option maxRecDepth 100000 in
theorem lifted (os : Os) (started : os.Started) (H : Type) (enc : TypeId × Value → H) (F : Stop.Interp) :
    ReturnsInHanded {} Tryd.checked os 3 .any ((OpenSpec.ofChange Rows.fnExactReadPhrasesSpec).preRow enc Tryd.prog Tryd.f3 Rows.fnExactReadPhrasesRow.domain false Rows.fnExactReadPhrasesRow.laid) (((OpenSpec.ofChange Rows.fnExactReadPhrasesSpec).at F).post enc Tryd.prog Tryd.f3 false true false false) := by
  obtain ⟨places, hx⟩ := reads os enc
  refine returnsInHanded_of_row (C := Tryd.checked) (s := OpenSpec.ofChange Rows.fnExactReadPhrasesSpec) own started (by kernel_rfl) Tryd.func3
    (witness_row_at (enc := enc) (C := Tryd.checked) false (laidWorld os) #[Value.string ⟨#[]⟩] rfl (by kernel_rfl) (by kernel_rfl) (by kernel_rfl)
      (OpenSpec.preRow_of_cond 8 hx (by kernel_rfl) (fun k hk => by cases hk) (by kernel_rfl) (by rw [Go.MakeChecks.laidMetH_plain _ _ _ (by kernel_rfl)]; exact laid_met os))) ?_
  intro W base args ds gs before hval hW _ _ _ hL hsh _
  exact contract H enc W base args ds gs before hval hW hL hsh

theorem said : Rows.FnExactReadPhrasesSaid :=
  OpenClaim.holds_of_cond 3 Tryd.f3 rfl rfl rfl rfl rfl rfl rfl ⟨rfl, rfl, rfl, rfl, rfl⟩ rfl rfl rfl rfl rfl (by kernel_rfl) Tryd.func3 (by kernel_rfl)
    (of_decide_eq_true (by kernel_rfl)) (by unfold Func.isWrapper; first | (rw [if_pos (by decide +kernel)]; kernel_rfl) | (rw [if_neg (by decide +kernel)]; exact ⟨rfl, rfl⟩))
    (fun os started H enc _ F => by rw [OpenClaim.pre_eq_preRow]; exact lifted os started H enc F)

theorem plain (f : FuncId) (fn : Func) (hf : Tryd.pinned.checked.prog.funcNamed "loop.example/g01033/laws.FnExactReadPhrases" = some f) (hfn : Tryd.pinned.checked.prog.funcs[f]? = some fn) :
    true = Tryd.pinned.checked.prog.looks [] ∧ ∀ (j : Nat) t, fn.params[j]? = some t → Tryd.pinned.checked.prog.wantsStandIn t = false := by
  obtain rfl : f = 3 := Option.some.inj ((show Tryd.prog.funcNamed "loop.example/g01033/laws.FnExactReadPhrases" = some 3 by kernel_rfl).symm.trans hf) |>.symm
  obtain rfl : fn = Tryd.f3 := (Option.some.inj (Tryd.func3.symm.trans hfn)).symm
  refine ⟨by kernel_rfl, fun j t ht => ?_⟩
  rw [Tryd.params3] at ht
  have hm := Array.mem_of_getElem? ht
  have hall : ∀ t ∈ #[9], Tryd.prog.wantsStandIn t = false := by
    intro t ht
    simp at ht
    subst ht; kernel_rfl
  exact hall t hm

theorem card : Rows.FnExactReadPhrasesCardSaid :=
  Claim7.holds_tied_plain_at .later [] _ _ _ _ said (fun _ h => by cases h) (by kernel_rfl) (fun _ h => by cases h) fnExactReadPhrases_row_tie rfl ⟨rfl, rfl⟩ (by kernel_rfl) rfl plain (by kernel_rfl)
theorem proved : Rows.FnExactReadPhrasesCardSaid := card
#print axioms proved
end Go.Proofs.YtgkdonnkiljplaaDoor.fnExactReadPhrases
