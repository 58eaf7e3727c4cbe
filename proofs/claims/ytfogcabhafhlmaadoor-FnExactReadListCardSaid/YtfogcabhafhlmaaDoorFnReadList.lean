/- 'laws.FnExactReadList' returns true at every string: ReadList on both sides is one reading of lists (readL). -/
import Derived.Test.YtfogcabhafhlmaaDoorReadList
namespace Go.Proofs.YtfogcabhafhlmaaDoor.fnExactReadList
open Go.ChangeShapes Go.WideShapes Go.ChangeAt Go.RowKit
set_option linter.unusedVariables false

theorem readP_len (ps : List (List UInt8)) : ∀ vs, readP ps = some vs → vs.length = ps.length := by
  induction ps with
  | nil => intro vs h; simp [readP] at h; subst h; rfl
  | cons p r ih =>
    intro vs h
    unfold readP at h
    split at h
    · cases h
    · cases hr : readP r with
      | none => rw [hr] at h; cases h
      | some us =>
        rw [hr] at h
        simp at h
        subst h
        simp [ih us hr]
theorem readL_len (l : List UInt8) : ((readL l).getD []).length ≤ 64 := by
  unfold readL
  split
  · simp
  · split
    · simp
    · rename_i h
      cases hr : readP (cutL 44 l) with
      | none => simp
      | some vs => have := readP_len _ vs hr; simp; omega
theorem own_draws {w : World} {base : Nat} {e : TypeId} {size n : Nat} {v : Value} {xs : List Value} (h : w.ownsRow base e size v n xs) (k : Nat) : (w.drewN k).ownsRow base e size v n xs := h
theorem out_parts {o : Option (List Int)} {w : World} {e : Ending} {w' : World} (h : ListOut o w e w') : ∃ v, e = .returned (.tuple #[v, .bool o.isSome]) ∧ w'.ownsRow w.heap.size 2 1 v (o.getD []).length (ints (o.getD [])) ∧ Below w.heap.size w w' := h

set_option maxHeartbeats 2000000 in
set_option maxRecDepth 100000 in
theorem walk (a0 : ByteArray) (w0 : a0.size ≤ maxLen) (w : World) {ps : List MemPlace} (hl : DataW.LaidVars Tryd.prog w Rows.fnExactReadListRow.laid ps) (hsh : w.ShapedOpen Tryd.prog) :
    Calls Tryd.prog 9 #[.string a0] w fun e w' => e = .returned (.bool true) ∧ Below w.heap.size w w' := by
  have w1 := w0
  unfold maxLen at w1
  by_cases h : 1048576 < a0.size
  · clear hl hsh
    go_enter Tryd.func9, Tryd.ntmps9
    go_wp2
    go_ret
    exact ⟨rfl, Below.refl _ _⟩
  · have hs : a0.size ≤ 1048576 := by omega
    have e : Rows.laid_internal_strconv_uint64pow10 = Lib.tabData (H := Unit) .u64 Lib.pow10Tab := by kernel_rfl
    have HV : Bx (Vars w) := Bx.mk ⟨tab_get hl (by rw [← e]; exact .tail _ (.tail _ (.head _))) (g := 4) (t := 107) (e := 49) (N := 20) (by kernel_rfl) (by kernel_rfl) Tryd.underlying107 Tryd.underlying49 (by kernel_rfl) (by kernel_rfl),
      sent_get hl (.tail _ (.tail _ (.tail _ (.tail _ (.tail _ (.head _)))))) (g := 2) (t := 57) (by kernel_rfl) (by kernel_rfl) Tryd.underlying57,
      sent_get hl (.tail _ (.tail _ (.tail _ (.tail _ (.head _))))) (g := 3) (t := 57) (by kernel_rfl) (by kernel_rfl) Tryd.underlying57⟩
    have HM : Bx ((∃ m, w.cell? ⟨1, 0, none⟩ = some (.int .i64 m)) ∧ 1 < w.heap.size) := Bx.mk (by
      obtain ⟨m, hm0⟩ := Tryd.laysM146.s1_3 w hsh
      have hm : w.cell? ⟨1, 0, none⟩ = some (.int .i64 m) := hm0
      refine ⟨⟨m, hm⟩, ?_⟩
      rcases Nat.lt_or_ge 1 w.heap.size with h | h
      · exact h
      · simp [World.cell?, Array.getElem?_eq_none h] at hm)
    have HLN := Bx.mk (readL_len a0.data.toList)
    have hspec := fun W => spec_readlist a0 W hs
    have himpl := fun W hv hm => impl_readlist a0 W hs hv hm
    clear hl e hsh
    generalize readL a0.data.toList = o at HLN hspec himpl
    generalize hz : o.getD [] = zs at HLN
    have hzl : zs.length ≤ 64 := HLN.out
    have HZ := Bx.mk hz
    clear hz HLN
    go_enter Tryd.func9, Tryd.ntmps9
    go_wp2_with (fail)
    refine (hspec _).mono ?_
    rintro e w1 ho
    obtain ⟨v0, rfl, ho0, hb1⟩ := out_parts ho
    rw [HZ.out] at ho0
    have A0 := Bx.mk ho0
    have B1 := Bx.mk hb1
    clear ho ho0 hb1 hspec
    go_wp2_with (fail)
    refine (himpl _ (Bx.mk (HV.out.below B1.out)) (Bx.mk (maxlen_below HM.out.1 HM.out.2 B1.out))).mono ?_
    rintro e w2 ho
    obtain ⟨v1, rfl, ho1, hb2⟩ := out_parts ho
    rw [HZ.out] at ho1
    have A1 := Bx.mk ho1
    have B2 := Bx.mk hb2
    clear ho ho1 hb2
    go_wp2_with (fail)
    refine (eq_ints v1 v0 zs zs _ (IntsAt.own A1.out) ((IntsAt.own A0.out).below B2.out) (by omega) (by omega)).mono ?_
    rintro e w2d ⟨rfl, nq, rfl⟩
    go_wp2_with (fail)
    refine (mark_ints v1 zs w1.heap.size 1 (w2.drewN nq) (own_draws A1.out nq) (by omega) (by omega) (by omega)).mono ?_
    rintro e w3 ⟨rfl, ho3, hg3⟩
    have A3 := Bx.mk ho3
    have B3 : Bx (Below w1.heap.size w1 w3) := Bx.mk ((below_draws B2.out nq).grown hg3 (by show w1.heap.size ≤ w2.heap.size; exact B2.out.size) (own_ge' A1.out))
    clear ho3 hg3
    go_wp2_with (fail)
    refine (held_ints v1 zs.length 1 w3 (IntsAt.own (by rw [marks_len]; exact A3.out)) (by omega) (by omega) (by omega)).mono ?_
    rintro e w3' ⟨rfl, rfl⟩
    go_wp2_with (fail)
    refine (himpl w3 (Bx.mk (HV.out.below (B1.out.trans (B3.out.mono B1.out.size)))) (Bx.mk (maxlen_below HM.out.1 HM.out.2 (B1.out.trans (B3.out.mono B1.out.size))))).mono ?_
    rintro e w4 ho
    obtain ⟨v2, rfl, ho4, hb4⟩ := out_parts ho
    rw [HZ.out] at ho4
    have A4 := Bx.mk ho4
    have B4 := Bx.mk hb4
    clear ho ho4 hb4 himpl
    go_wp2_with (fail)
    refine (eq_ints v2 v0 zs zs w4 (IntsAt.own A4.out) (((IntsAt.own A0.out).below B3.out).below B4.out) (by omega) (by omega)).mono ?_
    rintro e w4d ⟨rfl, nr, rfl⟩
    go_wp2_with (fail)
    refine (held_ints v1 zs.length 1 (w4.drewN nr) (((IntsAt.own (by rw [marks_len]; exact A3.out)).below B4.out).draws nr) (by omega) (by omega) (by omega)).mono ?_
    rintro e w5 ⟨rfl, rfl⟩
    go_wp2_with (fail)
    go_ret
    exact ⟨rfl, below_draws ((B1.out.trans (B3.out.mono B1.out.size)).trans (B4.out.mono (Nat.le_trans B1.out.size B3.out.size))) nr⟩

theorem own : ownKnob Tryd.prog.godebug = none := by kernel_rfl
theorem laidOut : laidOutB Tryd.prog = true := by kernel_rfl
theorem listed {W : World} (h : laidMetH Tryd.prog Rows.fnExactReadListRow.laid W) : ∃ ps, DataW.LaidVars Tryd.prog W Rows.fnExactReadListRow.laid ps := by
  rw [Go.MakeChecks.laidMetH_plain _ _ _ (by kernel_rfl)] at h
  obtain ⟨ps, h, _⟩ := h
  exact ⟨ps, h⟩
set_option maxRecDepth 100000 in
theorem contract (H : Type) (enc : TypeId × Value → H) (W : World) (base : Nat) (args : Array Value) (ds gs : List (DataW H)) (before : List MemPlace)
    (hval : ∀ (j : Nat) t v, Tryd.f9.params[j]? = some t → args[j]? = some v → Value.okWide Tryd.prog W .any base t v)
    (hW : DataW.Whole enc Tryd.prog Tryd.f9.params.toList Rows.fnExactReadListSpec.vars false W args.toList ds gs before) (hL : laidMetH Tryd.prog Rows.fnExactReadListRow.laid W) (hsh : W.ShapedOpen Tryd.prog) :
    Calls Tryd.prog 9 args W fun e W' => ∃ v, e = .returned v ∧ Rows.fnExactReadListSpec.post enc Tryd.prog Tryd.f9 false true false false W args v W' := by
  have hW' := hW
  obtain ⟨p, q, hA0, hV, rfl, hfz, hnd⟩ := hW
  obtain ⟨ps, hl⟩ := listed hL
  have hA : DataW.TrodAll enc Tryd.prog W 0 (fun _ => true) true Tryd.f9.params.toList args.toList ds p := hA0
  rw [Tryd.params9] at hA hval
  obtain ⟨v0, vs0, d0, ds0, p0, q0, hargs, rfl, rfl, h0, r0⟩ := trodAll_cons hA
  obtain ⟨rfl, rfl, rfl⟩ := trodAll_nil r0
  obtain rfl : args = #[v0] := by cases args; simp_all
  obtain ⟨rfl, rfl⟩ := trodVars_none hV
  obtain ⟨a0, rfl, rfl, rfl, w0⟩ := Go.ChangeMaps.open_string Tryd.underlying9 (hval 0 9 v0 rfl rfl) h0
  refine (walk a0 w0 W hl hsh).mono fun e W' ⟨he, hb⟩ => ?_
  subst he
  exact ⟨_, rfl, post_lawv laidOut (by kernel_rfl) (by kernel_rfl) (by kernel_rfl) Tryd.underlying4 hW' rfl hb⟩

noncomputable def low : Nat := (World.holding Tryd.prog default ⟨#[], #[], []⟩).heap.size
/-- a world for the witness: each listed variable holds what is listed -/
noncomputable def laidWorld (os : Os) : World :=
  { World.holding Tryd.prog os ⟨#[], #[], []⟩ with heap := ((((((((World.holding Tryd.prog os ⟨#[.cells #[.string ⟨#[118, 97, 108, 117, 101, 32, 111, 117, 116, 32, 111, 102, 32, 114, 97, 110, 103, 101]⟩] 116, .cells #[.string ⟨#[105, 110, 118, 97, 108, 105, 100, 32, 115, 121, 110, 116, 97, 120]⟩] 116], #[], []⟩).heap).modify 7 (layCells (datCells (H := Unit) Rows.laid_math_bits_deBruijn32tab))).modify 8 (layCells (datCells (H := Unit) Rows.laid_math_bits_deBruijn64tab))).modify 4 (layCells (datCells (H := Unit) Rows.laid_internal_strconv_uint64pow10))).modify 6 (layCells (datCells (H := Unit) Rows.laid_unicode_utf8_acceptRanges))).modify 5 (layCells (datCells (H := Unit) Rows.laid_unicode_utf8_first))).modify 3 (layCells [.iface 114 (.pointer (some ⟨low + 0, 0, none⟩))])).modify 2 (layCells [.iface 114 (.pointer (some ⟨low + 1, 0, none⟩))]) }
theorem laid_met (os : Os) : laidMet Tryd.prog Rows.fnExactReadListRow.laid ((laidWorld os).forCall (fun _ _ => 0) ⟨#[], #[Value.string ⟨#[]⟩], []⟩).memory :=
  laidMet_of_run' 8 (by kernel_rfl) (by kernel_rfl)
theorem reads (os : Os) {H : Type} (enc : TypeId × Value → H) : ∃ places, DataW.whole enc Tryd.prog ((laidWorld os).forCall (fun _ _ => 0) ⟨#[], #[Value.string ⟨#[]⟩], []⟩).memory Tryd.f9.params.toList Rows.fnExactReadListSpec.vars false #[Value.string ⟨#[]⟩].toList 8 = some ([.lit (.string [])], [], places) :=
  places_of (by kernel_rfl)

set_option maxRecDepth 100000 in
theorem lifted (os : Os) (started : os.Started) (H : Type) (enc : TypeId × Value → H) (F : Stop.Interp) :
    ReturnsInHanded {} Tryd.checked os 9 .any ((OpenSpec.ofChange Rows.fnExactReadListSpec).preRow enc Tryd.prog Tryd.f9 Rows.fnExactReadListRow.domain false Rows.fnExactReadListRow.laid) (((OpenSpec.ofChange Rows.fnExactReadListSpec).at F).post enc Tryd.prog Tryd.f9 false true false false) := by
  obtain ⟨places, hx⟩ := reads os enc
  refine returnsInHanded_of_row (C := Tryd.checked) (s := OpenSpec.ofChange Rows.fnExactReadListSpec) own started (by kernel_rfl) Tryd.func9
    (witness_row_at (enc := enc) (C := Tryd.checked) false (laidWorld os) #[Value.string ⟨#[]⟩] rfl (by kernel_rfl) (by kernel_rfl) (by kernel_rfl)
      (OpenSpec.preRow_of_cond 8 hx (by kernel_rfl) (fun k hk => by cases hk) (by kernel_rfl) (by rw [Go.MakeChecks.laidMetH_plain _ _ _ (by kernel_rfl)]; exact laid_met os))) ?_
  intro W base args ds gs before hval hW _ _ _ hL hsh _
  exact contract H enc W base args ds gs before hval hW hL hsh

theorem said : Rows.FnExactReadListSaid :=
  OpenClaim.holds_of_cond 9 Tryd.f9 rfl rfl rfl rfl rfl rfl rfl ⟨rfl, rfl, rfl, rfl, rfl⟩ rfl rfl rfl rfl rfl (by kernel_rfl) Tryd.func9 (by kernel_rfl)
    (of_decide_eq_true (by kernel_rfl)) (by unfold Func.isWrapper; first | (rw [if_pos (by decide +kernel)]; kernel_rfl) | (rw [if_neg (by decide +kernel)]; exact ⟨rfl, rfl⟩))
    (fun os started H enc _ F => by rw [OpenClaim.pre_eq_preRow]; exact lifted os started H enc F)

theorem plain (f : FuncId) (fn : Func) (hf : Tryd.pinned.checked.prog.funcNamed "loop.example/g01033/laws.FnExactReadList" = some f) (hfn : Tryd.pinned.checked.prog.funcs[f]? = some fn) :
    true = Tryd.pinned.checked.prog.looks [] ∧ ∀ (j : Nat) t, fn.params[j]? = some t → Tryd.pinned.checked.prog.wantsStandIn t = false := by
  obtain rfl : f = 9 := Option.some.inj ((show Tryd.prog.funcNamed "loop.example/g01033/laws.FnExactReadList" = some 9 by kernel_rfl).symm.trans hf) |>.symm
  obtain rfl : fn = Tryd.f9 := (Option.some.inj (Tryd.func9.symm.trans hfn)).symm
  refine ⟨by kernel_rfl, fun j t ht => ?_⟩
  rw [Tryd.params9] at ht
  have hm := Array.mem_of_getElem? ht
  have hall : ∀ t ∈ #[9], Tryd.prog.wantsStandIn t = false := by
    intro t ht
    simp at ht
    subst ht; kernel_rfl
  exact hall t hm

theorem card : Rows.FnExactReadListCardSaid :=
  Claim7.holds_tied_plain_at .later [] _ _ _ _ said (fun _ h => by cases h) (by kernel_rfl) (fun _ h => by cases h) fnExactReadList_row_tie rfl ⟨rfl, rfl⟩ (by kernel_rfl) rfl plain (by kernel_rfl)
theorem proved : Rows.FnExactReadListCardSaid := card
#print axioms proved
end Go.Proofs.YtfogcabhafhlmaaDoor.fnExactReadList
