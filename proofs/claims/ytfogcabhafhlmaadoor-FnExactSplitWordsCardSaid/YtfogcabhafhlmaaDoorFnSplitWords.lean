/- 'laws.FnExactSplitWords' returns true at every string: SplitWords on both sides gives the parts between blanks (wordsL). -/
import Derived.Test.YtfogcabhafhlmaaDoorWords
namespace Go.Proofs.YtfogcabhafhlmaaDoor.fnExactSplitWords
open Go.ChangeShapes Go.WideShapes Go.ChangeAt Go.RowKit
set_option linter.unusedVariables false

theorem out_parts {qs : List (List UInt8)} {w : World} {e : Ending} {w' : World} (h : WordsOut qs w e w') : ∃ v, e = .returned v ∧ w'.ownsRow w.heap.size 9 1 v qs.length (strs qs) ∧ Below w.heap.size w w' := h
theorem own_draws {w : World} {base : Nat} {e : TypeId} {size n : Nat} {v : Value} {xs : List Value} (h : w.ownsRow base e size v n xs) (k : Nat) : (w.drewN k).ownsRow base e size v n xs := h

set_option maxHeartbeats 2000000 in
set_option maxRecDepth 100000 in
theorem walk (a0 : ByteArray) (w0 : a0.size ≤ maxLen) (w : World) {ps : List MemPlace} (hl : DataW.LaidVars Tryd.prog w Rows.fnExactSplitWordsRow.laid ps) (hsh : w.ShapedOpen Tryd.prog) :
    Calls Tryd.prog 7 #[.string a0] w fun e w' => e = .returned (.bool true) ∧ Below w.heap.size w w' := by
  have w1 := w0
  unfold maxLen at w1
  by_cases h : 1048576 < a0.size
  · clear hl hsh
    go_enter Tryd.func7, Tryd.ntmps7
    go_wp2
    go_ret
    exact ⟨rfl, Below.refl _ _⟩
  · have hs : a0.size ≤ 1048576 := by omega
    have HM : Bx ((∃ m, w.cell? ⟨1, 0, none⟩ = some (.int .i64 m)) ∧ 1 < w.heap.size) := Bx.mk (by
      obtain ⟨m, hm0⟩ := Tryd.laysM146.s1_3 w hsh
      have hm : w.cell? ⟨1, 0, none⟩ = some (.int .i64 m) := hm0
      refine ⟨⟨m, hm⟩, ?_⟩
      rcases Nat.lt_or_ge 1 w.heap.size with h | h
      · exact h
      · simp [World.cell?, Array.getElem?_eq_none h] at hm)
    have hzl : (wordsL a0.data.toList).length ≤ 1048577 := by
      have h1 := wordsP_len (cutL 32 a0.data.toList)
      have h2 := cut_len 32 a0.data.toList
      unfold wordsL
      simp at h2
      omega
    have hspec := fun W => spec_words a0 W hs
    have himpl := fun W hm => impl_words a0 W hs hm
    clear hl hsh
    generalize wordsL a0.data.toList = zs at hzl hspec himpl
    go_enter Tryd.func7, Tryd.ntmps7
    go_wp2_with (fail)
    refine (hspec _).mono ?_
    rintro e w1 ho
    obtain ⟨v0, rfl, ho0, hb1⟩ := out_parts ho
    have A0 := Bx.mk ho0
    have B1 := Bx.mk hb1
    clear ho ho0 hb1 hspec
    go_wp2_with (fail)
    refine (himpl _ (Bx.mk (maxlen_below HM.out.1 HM.out.2 B1.out))).mono ?_
    rintro e w2 ho
    obtain ⟨v1, rfl, ho1, hb2⟩ := out_parts ho
    have A1 := Bx.mk ho1
    have B2 := Bx.mk hb2
    clear ho ho1 hb2
    go_wp2_with (fail)
    refine (eq_strs v1 v0 zs zs w2 (StrsAt.own A1.out) ((StrsAt.own A0.out).below B2.out) (by omega) (by omega)).mono ?_
    rintro e w2d ⟨rfl, nq, rfl⟩
    go_wp2_with (fail)
    refine (mark_strs v1 zs w1.heap.size 1 (w2.drewN nq) (own_draws A1.out nq) (by omega) (by omega)).mono ?_
    rintro e w3 ⟨rfl, ho3, hg3⟩
    have A3 := Bx.mk ho3
    have B3 : Bx (Below w1.heap.size w1 w3) := Bx.mk ((below_draws B2.out nq).trans (hg3 (by show w1.heap.size ≤ w2.heap.size; exact B2.out.size)))
    clear ho3 hg3
    go_wp2_with (fail)
    refine (held_strs v1 zs.length 1 w3 (StrsAt.own (by rw [marksT_len]; exact A3.out)) (by omega) (by omega)).mono ?_
    rintro e w3' ⟨rfl, hb3⟩
    have B3b := Bx.mk hb3
    clear hb3
    go_wp2_with (fail)
    refine (himpl w3' (Bx.mk (maxlen_below HM.out.1 HM.out.2 ((B1.out.trans (B3.out.mono B1.out.size)).trans (B3b.out.mono (Nat.le_trans B1.out.size B3.out.size)))))).mono ?_
    rintro e w4 ho
    obtain ⟨v2, rfl, ho4, hb4⟩ := out_parts ho
    have A4 := Bx.mk ho4
    have B4 := Bx.mk hb4
    clear ho ho4 hb4 himpl
    go_wp2_with (fail)
    refine (eq_strs v2 v0 zs zs w4 (StrsAt.own A4.out) ((((StrsAt.own A0.out).below B3.out).below B3b.out).below B4.out) (by omega) (by omega)).mono ?_
    rintro e w4d ⟨rfl, nr, rfl⟩
    go_wp2_with (fail)
    refine (held_strs v1 zs.length 1 (w4.drewN nr) ((((StrsAt.own (by rw [marksT_len]; exact A3.out)).below B3b.out).below B4.out).draws nr) (by omega) (by omega)).mono ?_
    rintro e w5 ⟨rfl, hb5⟩
    have B5 := Bx.mk hb5
    clear hb5
    go_wp2_with (fail)
    go_ret
    have C3 := B1.out.trans (B3.out.mono B1.out.size)
    have C4 := C3.trans (B3b.out.mono C3.size)
    have C5 := below_draws (C4.trans (B4.out.mono C4.size)) nr
    exact ⟨rfl, C5.trans (B5.out.mono C5.size)⟩

theorem own : ownKnob Tryd.prog.godebug = none := by kernel_rfl
theorem laidOut : laidOutB Tryd.prog = true := by kernel_rfl
theorem listed {W : World} (h : laidMetH Tryd.prog Rows.fnExactSplitWordsRow.laid W) : ∃ ps, DataW.LaidVars Tryd.prog W Rows.fnExactSplitWordsRow.laid ps := by
  rw [Go.MakeChecks.laidMetH_plain _ _ _ (by kernel_rfl)] at h
  obtain ⟨ps, h, _⟩ := h
  exact ⟨ps, h⟩
set_option maxRecDepth 100000 in
theorem contract (H : Type) (enc : TypeId × Value → H) (W : World) (base : Nat) (args : Array Value) (ds gs : List (DataW H)) (before : List MemPlace)
    (hval : ∀ (j : Nat) t v, Tryd.f7.params[j]? = some t → args[j]? = some v → Value.okWide Tryd.prog W .any base t v)
    (hW : DataW.Whole enc Tryd.prog Tryd.f7.params.toList Rows.fnExactSplitWordsSpec.vars false W args.toList ds gs before) (hL : laidMetH Tryd.prog Rows.fnExactSplitWordsRow.laid W) (hsh : W.ShapedOpen Tryd.prog) :
    Calls Tryd.prog 7 args W fun e W' => ∃ v, e = .returned v ∧ Rows.fnExactSplitWordsSpec.post enc Tryd.prog Tryd.f7 false true false false W args v W' := by
  have hW' := hW
  obtain ⟨p, q, hA0, hV, rfl, hfz, hnd⟩ := hW
  obtain ⟨ps, hl⟩ := listed hL
  have hA : DataW.TrodAll enc Tryd.prog W 0 (fun _ => true) true Tryd.f7.params.toList args.toList ds p := hA0
  rw [Tryd.params7] at hA hval
  obtain ⟨v0, vs0, d0, ds0, p0, q0, hargs, rfl, rfl, h0, r0⟩ := trodAll_cons hA
  obtain ⟨rfl, rfl, rfl⟩ := trodAll_nil r0
  obtain rfl : args = #[v0] := by cases args; simp_all
  obtain ⟨rfl, rfl⟩ := trodVars_none hV
  obtain ⟨a0, rfl, rfl, rfl, w0⟩ := Go.ChangeMaps.open_string Tryd.underlying9 (hval 0 9 v0 rfl rfl) h0
  refine (walk a0 w0 W hl hsh).mono fun e W' ⟨he, hb⟩ => ?_
  subst he
  exact ⟨_, rfl, post_lawv laidOut (by kernel_rfl) (by kernel_rfl) (by kernel_rfl) Tryd.underlying4 hW' rfl hb⟩

noncomputable def low : Nat := (World.holding Tryd.prog default ⟨#[], #[], []⟩).heap.size
/-- a world for the witness: each listed variable holds what is listed -/
noncomputable def laidWorld (os : Os) : World :=
  { World.holding Tryd.prog os ⟨#[], #[], []⟩ with heap := (((World.holding Tryd.prog os ⟨#[], #[], []⟩).heap).modify 6 (layCells (datCells (H := Unit) Rows.laid_unicode_utf8_acceptRanges))).modify 5 (layCells (datCells (H := Unit) Rows.laid_unicode_utf8_first)) }
theorem laid_met (os : Os) : laidMet Tryd.prog Rows.fnExactSplitWordsRow.laid ((laidWorld os).forCall (fun _ _ => 0) ⟨#[], #[Value.string ⟨#[]⟩], []⟩).memory :=
  laidMet_of_run' 8 (by kernel_rfl) (by kernel_rfl)
theorem reads (os : Os) {H : Type} (enc : TypeId × Value → H) : ∃ places, DataW.whole enc Tryd.prog ((laidWorld os).forCall (fun _ _ => 0) ⟨#[], #[Value.string ⟨#[]⟩], []⟩).memory Tryd.f7.params.toList Rows.fnExactSplitWordsSpec.vars false #[Value.string ⟨#[]⟩].toList 8 = some ([.lit (.string [])], [], places) :=
  places_of (by kernel_rfl)

set_option maxRecDepth 100000 in
theorem lifted (os : Os) (started : os.Started) (H : Type) (enc : TypeId × Value → H) (F : Stop.Interp) :
    ReturnsInHanded {} Tryd.checked os 7 .any ((OpenSpec.ofChange Rows.fnExactSplitWordsSpec).preRow enc Tryd.prog Tryd.f7 Rows.fnExactSplitWordsRow.domain false Rows.fnExactSplitWordsRow.laid) (((OpenSpec.ofChange Rows.fnExactSplitWordsSpec).at F).post enc Tryd.prog Tryd.f7 false true false false) := by
  obtain ⟨places, hx⟩ := reads os enc
  refine returnsInHanded_of_row (C := Tryd.checked) (s := OpenSpec.ofChange Rows.fnExactSplitWordsSpec) own started (by kernel_rfl) Tryd.func7
    (witness_row_at (enc := enc) (C := Tryd.checked) false (laidWorld os) #[Value.string ⟨#[]⟩] rfl (by kernel_rfl) (by kernel_rfl) (by kernel_rfl)
      (OpenSpec.preRow_of_cond 8 hx (by kernel_rfl) (fun k hk => by cases hk) (by kernel_rfl) (by rw [Go.MakeChecks.laidMetH_plain _ _ _ (by kernel_rfl)]; exact laid_met os))) ?_
  intro W base args ds gs before hval hW _ _ _ hL hsh _
  exact contract H enc W base args ds gs before hval hW hL hsh

theorem said : Rows.FnExactSplitWordsSaid :=
  OpenClaim.holds_of_cond 7 Tryd.f7 rfl rfl rfl rfl rfl rfl rfl ⟨rfl, rfl, rfl, rfl, rfl⟩ rfl rfl rfl rfl rfl (by kernel_rfl) Tryd.func7 (by kernel_rfl)
    (of_decide_eq_true (by kernel_rfl)) (by unfold Func.isWrapper; first | (rw [if_pos (by decide +kernel)]; kernel_rfl) | (rw [if_neg (by decide +kernel)]; exact ⟨rfl, rfl⟩))
    (fun os started H enc _ F => by rw [OpenClaim.pre_eq_preRow]; exact lifted os started H enc F)

theorem plain (f : FuncId) (fn : Func) (hf : Tryd.pinned.checked.prog.funcNamed "loop.example/g01033/laws.FnExactSplitWords" = some f) (hfn : Tryd.pinned.checked.prog.funcs[f]? = some fn) :
    true = Tryd.pinned.checked.prog.looks [] ∧ ∀ (j : Nat) t, fn.params[j]? = some t → Tryd.pinned.checked.prog.wantsStandIn t = false := by
  obtain rfl : f = 7 := Option.some.inj ((show Tryd.prog.funcNamed "loop.example/g01033/laws.FnExactSplitWords" = some 7 by kernel_rfl).symm.trans hf) |>.symm
  obtain rfl : fn = Tryd.f7 := (Option.some.inj (Tryd.func7.symm.trans hfn)).symm
  refine ⟨by kernel_rfl, fun j t ht => ?_⟩
  rw [Tryd.params7] at ht
  have hm := Array.mem_of_getElem? ht
  have hall : ∀ t ∈ #[9], Tryd.prog.wantsStandIn t = false := by
    intro t ht
    simp at ht
    subst ht; kernel_rfl
  exact hall t hm

theorem card : Rows.FnExactSplitWordsCardSaid :=
  Claim7.holds_tied_plain_at .later [] _ _ _ _ said (fun _ h => by cases h) (by kernel_rfl) (fun _ h => by cases h) fnExactSplitWords_row_tie rfl ⟨rfl, rfl⟩ (by kernel_rfl) rfl plain (by kernel_rfl)
theorem proved : Rows.FnExactSplitWordsCardSaid := card
#print axioms proved
end Go.Proofs.YtfogcabhafhlmaaDoor.fnExactSplitWords
