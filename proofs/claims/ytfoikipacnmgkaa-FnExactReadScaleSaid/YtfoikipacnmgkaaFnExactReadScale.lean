/- 'laws.FnExactReadScale' returns true at every input: ReadScale on both sides is one function (readSc). -/
import Derived.Test.YtfoikipacnmgkaaScLaw
namespace Go.Proofs.Ytfoikipacnmgkaa.fnExactReadScale
open Go.ChangeShapes Go.WideShapes Go.ChangeAt Go.RowKit
set_option linter.unusedVariables false
set_option linter.unusedSimpArgs false
set_option maxRecDepth 100000

set_option maxHeartbeats 4000000 in
theorem walk (a0 : ByteArray) (w0 : a0.size ≤ maxLen) (w : World) :
    Calls Try.prog 10 #[.string a0] w fun e w' => e = .returned (.bool true) ∧ Below w.heap.size w w' := by
  have x0 := w0
  unfold maxLen at x0
  by_cases hb0 : 1048576 < a0.size
  · skip
    go_enter Try.func10, Try.ntmps10
    go_wp2_with (fail)
    go_ret
    exact ⟨rfl, Below.refl _ _⟩
  · have hz0 : a0.size ≤ 1048576 := by omega
    have B0 : Bx (Below w.heap.size w w) := Bx.mk (Below.refl _ _)
    have hs : ∀ W, Calls Try.prog 49 #[.string a0] W (RowOut ((readSc a0.data.toList).getD []) (.bool (readSc a0.data.toList).isSome) W) := fun  W  => spec_readscale a0 W (by omega)
    have hi : ∀ W, Calls Try.prog 25 #[.string a0] W (RowOut ((readSc a0.data.toList).getD []) (.bool (readSc a0.data.toList).isSome) W) := fun  W  => impl_readscale a0 W (by omega)
    have HL : Bx (((readSc a0.data.toList).getD []).length ≤ 64) := Bx.mk (readSc_len _)
    generalize (readSc a0.data.toList).getD [] = ys at hs hi HL
    generalize (readSc a0.data.toList).isSome = cc at hs hi
    go_enter Try.func10, Try.ntmps10
    go_wp2_with (fail)
    refine (hs _ ).mono ?_
    rintro e1 q1 ⟨vw, rfl, ho, hb⟩
    have B1 : Bx (Below w.heap.size w q1) := Bx.mk (B0.out.trans (hb.mono B0.out.size))
    have SZ1 : Bx (w.heap.size ≤ q1.heap.size) := Bx.mk hb.size
    have Ow_1 := Bx.mk ho
    have Uw := Bx.mk (own_hi ho)
    clear ho
    clear hb
    go_wp2_with (fail)
    refine (hi _ ).mono ?_
    rintro e2 q2 ⟨vg, rfl, ho, hb⟩
    have B2 : Bx (Below w.heap.size w q2) := Bx.mk (B1.out.trans (hb.mono B1.out.size))
    have SZ2 : Bx (q1.heap.size ≤ q2.heap.size) := Bx.mk hb.size
    have Ow_2 := Bx.mk (own_below Ow_1.out hb)
    clear Ow_1
    have Og_2 := Bx.mk ho
    have Ug := Bx.mk (own_hi ho)
    clear ho
    clear hb
    go_wp2_with (fail)
    refine (eq_ints _ _ ys ys _ (IntsAt.own Og_2.out) (IntsAt.own Ow_2.out) (by have := HL.out; omega) (by have := HL.out; omega)).mono ?_
    rintro e3 q3 ⟨rfl, hd⟩
    have hb := below_dr hd
    clear hd
    have B3 : Bx (Below w.heap.size w q3) := Bx.mk (B2.out.trans (hb.mono B2.out.size))
    have SZ3 : Bx (q2.heap.size ≤ q3.heap.size) := Bx.mk hb.size
    have Ow_3 := Bx.mk (own_below Ow_2.out hb)
    have Og_3 := Bx.mk (own_below Og_2.out hb)
    clear Ow_2 Og_2
    clear hb
    go_wp2_with (fail)
    refine (mark_ints _ ys q1.heap.size 1 _ Og_3.out (by have := HL.out; omega) (by omega) (by omega)).mono ?_
    rintro e4 q4 ⟨rfl, hm, hg⟩
    have B4 : Bx (Below w.heap.size w q4) := Bx.mk (below_mark B3.out Og_3.out (B1.out.size) hg)
    have SZ4 : Bx (q3.heap.size ≤ q4.heap.size) := Bx.mk (grown_size hg)
    have Ow_4 := Bx.mk (own_young Ow_3.out Uw.out Og_3.out (by have := SZ1.out; have := SZ2.out; have := SZ3.out; have := SZ4.out; omega) hg)
    clear Ow_3 Og_3
    have Og_4 := Bx.mk hm
    clear hm hg
    go_wp2_with (fail)
    refine (held_ints _ ys.length 1 _ (IntsAt.own (by rw [marks_len]; exact Og_4.out)) (by have := HL.out; omega) (by omega) (by omega)).mono ?_
    rintro e5 q5 ⟨rfl, hd⟩
    have hb := below_eq hd
    clear hd
    have B5 : Bx (Below w.heap.size w q5) := Bx.mk (B4.out.trans (hb.mono B4.out.size))
    have SZ5 : Bx (q4.heap.size ≤ q5.heap.size) := Bx.mk hb.size
    have Ow_5 := Bx.mk (own_below Ow_4.out hb)
    have Og_5 := Bx.mk (own_below Og_4.out hb)
    clear Ow_4 Og_4
    clear hb
    go_wp2_with (fail)
    refine (hi _ ).mono ?_
    rintro e6 q6 ⟨vh, rfl, ho, hb⟩
    have B6 : Bx (Below w.heap.size w q6) := Bx.mk (B5.out.trans (hb.mono B5.out.size))
    have SZ6 : Bx (q5.heap.size ≤ q6.heap.size) := Bx.mk hb.size
    have Ow_6 := Bx.mk (own_below Ow_5.out hb)
    have Og_6 := Bx.mk (own_below Og_5.out hb)
    clear Ow_5 Og_5
    have Oh_6 := Bx.mk ho
    have Uh := Bx.mk (own_hi ho)
    clear ho
    clear hb
    go_wp2_with (fail)
    refine (eq_ints _ _ ys ys _ (IntsAt.own Oh_6.out) (IntsAt.own Ow_6.out) (by have := HL.out; omega) (by have := HL.out; omega)).mono ?_
    rintro e7 q7 ⟨rfl, hd⟩
    have hb := below_dr hd
    clear hd
    have B7 : Bx (Below w.heap.size w q7) := Bx.mk (B6.out.trans (hb.mono B6.out.size))
    have SZ7 : Bx (q6.heap.size ≤ q7.heap.size) := Bx.mk hb.size
    have Ow_7 := Bx.mk (own_below Ow_6.out hb)
    have Og_7 := Bx.mk (own_below Og_6.out hb)
    have Oh_7 := Bx.mk (own_below Oh_6.out hb)
    clear Ow_6 Og_6 Oh_6
    clear hb
    go_wp2_with (fail)
    refine (held_ints _ ys.length 1 _ (IntsAt.own (by rw [marks_len]; exact Og_7.out)) (by have := HL.out; omega) (by omega) (by omega)).mono ?_
    rintro e8 q8 ⟨rfl, hd⟩
    have hb := below_eq hd
    clear hd
    have B8 : Bx (Below w.heap.size w q8) := Bx.mk (B7.out.trans (hb.mono B7.out.size))
    have SZ8 : Bx (q7.heap.size ≤ q8.heap.size) := Bx.mk hb.size
    have Ow_8 := Bx.mk (own_below Ow_7.out hb)
    have Og_8 := Bx.mk (own_below Og_7.out hb)
    have Oh_8 := Bx.mk (own_below Oh_7.out hb)
    clear Ow_7 Og_7 Oh_7
    clear hb
    go_wp2_with (fail)
    go_ret
    exact ⟨rfl, B8.out⟩

theorem own : ownKnob Try.prog.godebug = none := by kernel_rfl
theorem laidOut : laidOutB Try.prog = true := by kernel_rfl

set_option maxRecDepth 100000 in
theorem lifted (os : Os) (started : os.Started) (H : Type) (enc : TypeId × Value → H) :
    ReturnsInHanded {} Try.checked os 10 .any (Rows.fnExactReadScaleSpec.pre6 enc Try.prog Try.f10 Rows.fnExactReadScaleRow.domain false) (Rows.fnExactReadScaleSpec.post enc Try.prog Try.f10 false true false false) := by
  refine returnsInHanded_of_change (C := Try.checked) own started (by kernel_rfl) Try.func10
    (ChangeSpec.witness6 (enc := enc) (C := Try.checked) false ⟨#[], #[.string ⟨#[]⟩], []⟩ 8 (by kernel_rfl) (by kernel_rfl) (by kernel_rfl) (by kernel_rfl)) ?_
  intro W base args ds gs before hval0 hW hcnd _
  have hval : ∀ (j : Nat) t v, Try.f10.params[j]? = some t → args[j]? = some v → Value.okWide Try.prog W .any base t v := hval0
  have hW' := hW
  obtain ⟨p, q, hA0, hV, rfl, hfz, hnd⟩ := hW
  have hA : DataW.TrodAll enc Try.prog W 0 (fun _ => true) true Try.f10.params.toList args.toList ds p := hA0
  rw [Try.params10] at hA hval
  obtain ⟨v0, vs0, d0, ds0, p0, q0, hargs, rfl, rfl, h0, r0⟩ := trodAll_cons hA
  obtain ⟨rfl, rfl, rfl⟩ := trodAll_nil r0
  obtain rfl : args = #[v0] := by cases args; simp_all
  obtain ⟨rfl, rfl⟩ := trodVars_none hV
  obtain ⟨a0, rfl, rfl, rfl, w0⟩ := Go.ChangeMaps.open_string Try.underlying9 (hval 0 9 v0 rfl rfl) h0
  clear hA0 hval0
  refine (walk a0 w0 W).mono fun e W' ⟨he, hb⟩ => ?_
  subst he
  exact ⟨_, rfl, post_law laidOut (by kernel_rfl) (by kernel_rfl) Try.underlying4 rfl hW' rfl hb⟩

theorem closed : joinedFacts Try.pinned.checked.prog 10 Try.f10 Rows.fnExactReadScaleSpec Rows.fnExactReadScaleRow = true := by
  unfold joinedFacts
  rw [may, lifts, made]
  kernel_rfl
theorem over : Rows.fnExactReadScaleRow.holds Try.pinned (OpenSpec.ofChange Rows.fnExactReadScaleSpec) :=
  OpenClaim.holds_of_wide 10 Try.f10 rfl rfl rfl rfl rfl rfl rfl ⟨rfl, rfl, rfl, rfl, rfl⟩ rfl rfl rfl rfl rfl (by kernel_rfl) Try.func10 closed
    (of_decide_eq_true (by kernel_rfl)) (by unfold Func.isWrapper; first | (rw [if_pos (by decide +kernel)]; kernel_rfl) | (rw [if_neg (by decide +kernel)]; exact ⟨rfl, rfl⟩))
    (fun os started H enc _ => lifted os started H enc)

theorem proved : Rows.FnExactReadScaleSaid := over
#print axioms proved
end Go.Proofs.Ytfoikipacnmgkaa.fnExactReadScale
