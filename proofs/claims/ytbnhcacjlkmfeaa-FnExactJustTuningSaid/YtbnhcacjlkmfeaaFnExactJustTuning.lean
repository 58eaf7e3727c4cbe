/- 'laws.FnExactJustTuning' returns true at every input: JustTuning on both sides is one value (justS, justL). -/
import Derived.Test.YtbnhcacjlkmfeaaTuG
import Derived.Test.YtbnhcacjlkmfeaaTu16
import Derived.Test.YtbnhcacjlkmfeaaTi11
namespace Go.Proofs.Ytbnhcacjlkmfeaa.fnExactJustTuning
open Go.ChangeShapes Go.WideShapes Go.ChangeAt Go.RowKit
set_option linter.unusedVariables false
set_option linter.unusedSimpArgs false
set_option maxRecDepth 100000

set_option maxHeartbeats 8000000 in
theorem walk  (w : World) :
    Calls Try.prog 5 #[] w fun e w' => e = .returned (.bool true) ∧ Below w.heap.size w w' := by
  have H0 := Bx.mk (Holds.start w)
  have hs := fun W => spec_just W
  have hi := fun W => impl_just W
  have heq := fun va vb W ha hb => eq_tun_same justS va vb justL W ha hb (by decide)
  have hmk := fun te W v base h => mark_tunE (te := te) justS v justL base 1 W h (by decide) (by decide) (by decide)
  have hhd := fun v W h => held_tun justS v justL.length 1 W h (by decide) (by decide) (by decide)
  simp only [tun] at heq hmk hhd
  generalize justS = s0 at *
  have hdk : decide (1 + 2 * (justL.length : Int) < 0) = false := by decide
  generalize justL = ys at *
  go_enter Try.func5, Try.ntmps5
  go_wp2_with (fail)
  refine (hs _).mono ?_
  rintro e1 q1 ⟨tew, vw, rfl, ho, hb⟩
  obtain ⟨Aw, cw, rfl⟩ := own_len ho
  unfold tun
  have H1 := Bx.mk (H0.out.below hb)
  have SZ1 : Bx (w.heap.size ≤ q1.heap.size) := Bx.mk hb.size
  have Ow_1 := Bx.mk ho
  have Uw := Bx.mk (own_hi ho)
  clear H0
  clear hb ho
  go_wp2_with (fail)
  refine (hi _).mono ?_
  rintro e2 q2 ⟨teg, vg, rfl, ho, hb⟩
  obtain ⟨Ag, cg, rfl⟩ := own_len ho
  unfold tun
  have H2 := Bx.mk ((H1.out.pair (.string s0) (.slice Aw ys.length cw) _ _).below hb)
  have SZ2 : Bx (q1.heap.size + 1 ≤ q2.heap.size) := Bx.mk (by have := hb.size; simp only [World.size_alloc] at this; omega)
  have Ow_2 := Bx.mk (own_below (World.ownsRow.alloc Ow_1.out _) hb)
  have Og_2 := Bx.mk (own_down2 (b1 := q1.heap.size + 1) (by go_size) ho)
  have Ug := Bx.mk (own_hi ho)
  clear H1 Ow_1
  have b0_x := H2.out.get (g := q1.heap.size) (k := 0) (v := .string s0) (by simp)
  have b0_y := H2.out.get (g := q1.heap.size) (k := 1) (v := .slice Aw ys.length cw) (by simp)
  have b0_l := H2.out.lt (g := q1.heap.size) (k := 1) (v := .slice Aw ys.length cw) (by simp)
  clear hb ho
  go_wp2_with (fail)
  refine (heq _ _ _ (prs_own (World.ownsRow.alloc Og_2.out _)) (prs_own (World.ownsRow.alloc Ow_2.out _))).mono ?_
  rintro e3 q3 ⟨rfl, hb⟩
  have H3 := Bx.mk ((H2.out.pair (.string s0) (.slice Ag ys.length cg) _ _).below hb)
  have SZ3 : Bx (q2.heap.size + 1 ≤ q3.heap.size) := Bx.mk (by have := hb.size; simp only [World.size_alloc] at this; omega)
  have Ow_3 := Bx.mk (own_below (World.ownsRow.alloc Ow_2.out _) hb)
  have Og_3 := Bx.mk (own_below (World.ownsRow.alloc Og_2.out _) hb)
  clear H2 Ow_2 Og_2 b0_x b0_y b0_l
  have b0_x := H3.out.get (g := q1.heap.size) (k := 0) (v := .string s0) (by simp)
  have b0_y := H3.out.get (g := q1.heap.size) (k := 1) (v := .slice Aw ys.length cw) (by simp)
  have b0_l := H3.out.lt (g := q1.heap.size) (k := 1) (v := .slice Aw ys.length cw) (by simp)
  have b1_x := H3.out.get (g := q2.heap.size) (k := 0) (v := .string s0) (by simp)
  have b1_y := H3.out.get (g := q2.heap.size) (k := 1) (v := .slice Ag ys.length cg) (by simp)
  have b1_l := H3.out.lt (g := q2.heap.size) (k := 1) (v := .slice Ag ys.length cg) (by simp)
  clear hb
  go_wp2_with (fail)
  refine (hmk _ _ _ _ Og_3.out).mono ?_
  rintro e4 q4 ⟨rfl, hm, hg⟩
  have LO := Bx.mk (own_lo Og_3.out)
  have H4 := Bx.mk ((H3.out.alloc _).grown hg (by
    intro p hp hk
    have h1 := LO.out _ hk
    have h2 := Ug.out _ hk
    have := SZ1.out; have := SZ2.out; have := SZ3.out
    clear hg hm
    simp at hp
    rcases hp with rfl | rfl | rfl | rfl <;> (dsimp only at h1 h2; omega)
    ) (by intro b hb; have := LO.out b hb; have := SZ1.out; have := SZ2.out; have := SZ3.out; omega))
  have SZ4 : Bx (q3.heap.size + 1 ≤ q4.heap.size) := Bx.mk (by have := grown_size hg; simp only [World.size_alloc] at this; omega)
  have Ow_4 := Bx.mk (own_young (World.ownsRow.alloc Ow_3.out _) Uw.out Og_3.out (by have := SZ1.out; have := SZ2.out; have := SZ3.out; omega) hg)
  have Og_4 := Bx.mk hm
  clear LO hm hg H3 Ow_3 Og_3 b0_x b0_y b0_l b1_x b1_y b1_l
  have b0_x := H4.out.get (g := q1.heap.size) (k := 0) (v := .string s0) (by simp)
  have b0_y := H4.out.get (g := q1.heap.size) (k := 1) (v := .slice Aw ys.length cw) (by simp)
  have b0_l := H4.out.lt (g := q1.heap.size) (k := 1) (v := .slice Aw ys.length cw) (by simp)
  have b1_x := H4.out.get (g := q2.heap.size) (k := 0) (v := .string s0) (by simp)
  have b1_y := H4.out.get (g := q2.heap.size) (k := 1) (v := .slice Ag ys.length cg) (by simp)
  have b1_l := H4.out.lt (g := q2.heap.size) (k := 1) (v := .slice Ag ys.length cg) (by simp)
  go_wp2_with (fail)
  refine (hhd _ _ (prs_own (by rw [pmk_len]; exact Og_4.out))).mono ?_
  rintro e5 q5 ⟨rfl, hb⟩
  have H5 := Bx.mk (H4.out.below hb)
  have SZ5 : Bx (q4.heap.size ≤ q5.heap.size) := Bx.mk hb.size
  have Ow_5 := Bx.mk (own_below Ow_4.out hb)
  have Og_5 := Bx.mk (own_below Og_4.out hb)
  clear H4 Ow_4 Og_4 b0_x b0_y b0_l b1_x b1_y b1_l
  have b0_x := H5.out.get (g := q1.heap.size) (k := 0) (v := .string s0) (by simp)
  have b0_y := H5.out.get (g := q1.heap.size) (k := 1) (v := .slice Aw ys.length cw) (by simp)
  have b0_l := H5.out.lt (g := q1.heap.size) (k := 1) (v := .slice Aw ys.length cw) (by simp)
  have b1_x := H5.out.get (g := q2.heap.size) (k := 0) (v := .string s0) (by simp)
  have b1_y := H5.out.get (g := q2.heap.size) (k := 1) (v := .slice Ag ys.length cg) (by simp)
  have b1_l := H5.out.lt (g := q2.heap.size) (k := 1) (v := .slice Ag ys.length cg) (by simp)
  clear hb
  go_wp2_with (fail)
  refine (hi _).mono ?_
  rintro e6 q6 ⟨teh, vh, rfl, ho, hb⟩
  obtain ⟨Ah, ch, rfl⟩ := own_len ho
  unfold tun
  have H6 := Bx.mk (H5.out.below hb)
  have SZ6 : Bx (q5.heap.size ≤ q6.heap.size) := Bx.mk hb.size
  have Ow_6 := Bx.mk (own_below Ow_5.out hb)
  have Og_6 := Bx.mk (own_below Og_5.out hb)
  have Oh_6 := Bx.mk ho
  have Uh := Bx.mk (own_hi ho)
  clear H5 Ow_5 Og_5 b0_x b0_y b0_l b1_x b1_y b1_l
  have b0_x := H6.out.get (g := q1.heap.size) (k := 0) (v := .string s0) (by simp)
  have b0_y := H6.out.get (g := q1.heap.size) (k := 1) (v := .slice Aw ys.length cw) (by simp)
  have b0_l := H6.out.lt (g := q1.heap.size) (k := 1) (v := .slice Aw ys.length cw) (by simp)
  have b1_x := H6.out.get (g := q2.heap.size) (k := 0) (v := .string s0) (by simp)
  have b1_y := H6.out.get (g := q2.heap.size) (k := 1) (v := .slice Ag ys.length cg) (by simp)
  have b1_l := H6.out.lt (g := q2.heap.size) (k := 1) (v := .slice Ag ys.length cg) (by simp)
  clear hb ho
  go_wp2_with (fail)
  refine (heq _ _ _ (prs_own (World.ownsRow.alloc Oh_6.out _)) (prs_own (World.ownsRow.alloc Ow_6.out _))).mono ?_
  rintro e7 q7 ⟨rfl, hb⟩
  have H7 := Bx.mk ((H6.out.pair (.string s0) (.slice Ah ys.length ch) _ _).below hb)
  have SZ7 : Bx (q6.heap.size + 1 ≤ q7.heap.size) := Bx.mk (by have := hb.size; simp only [World.size_alloc] at this; omega)
  have Ow_7 := Bx.mk (own_below (World.ownsRow.alloc Ow_6.out _) hb)
  have Og_7 := Bx.mk (own_below (World.ownsRow.alloc Og_6.out _) hb)
  have Oh_7 := Bx.mk (own_below (World.ownsRow.alloc Oh_6.out _) hb)
  clear H6 Ow_6 Og_6 Oh_6 b0_x b0_y b0_l b1_x b1_y b1_l
  have b0_x := H7.out.get (g := q1.heap.size) (k := 0) (v := .string s0) (by simp)
  have b0_y := H7.out.get (g := q1.heap.size) (k := 1) (v := .slice Aw ys.length cw) (by simp)
  have b0_l := H7.out.lt (g := q1.heap.size) (k := 1) (v := .slice Aw ys.length cw) (by simp)
  have b1_x := H7.out.get (g := q2.heap.size) (k := 0) (v := .string s0) (by simp)
  have b1_y := H7.out.get (g := q2.heap.size) (k := 1) (v := .slice Ag ys.length cg) (by simp)
  have b1_l := H7.out.lt (g := q2.heap.size) (k := 1) (v := .slice Ag ys.length cg) (by simp)
  have b2_x := H7.out.get (g := q6.heap.size) (k := 0) (v := .string s0) (by simp)
  have b2_y := H7.out.get (g := q6.heap.size) (k := 1) (v := .slice Ah ys.length ch) (by simp)
  have b2_l := H7.out.lt (g := q6.heap.size) (k := 1) (v := .slice Ah ys.length ch) (by simp)
  clear hb
  go_wp2_with (fail)
  refine (hhd _ _ (prs_own (by rw [pmk_len]; exact Og_7.out))).mono ?_
  rintro e8 q8 ⟨rfl, hb⟩
  have H8 := Bx.mk (H7.out.below hb)
  have SZ8 : Bx (q7.heap.size ≤ q8.heap.size) := Bx.mk hb.size
  have Ow_8 := Bx.mk (own_below Ow_7.out hb)
  have Og_8 := Bx.mk (own_below Og_7.out hb)
  have Oh_8 := Bx.mk (own_below Oh_7.out hb)
  clear H7 Ow_7 Og_7 Oh_7 b0_x b0_y b0_l b1_x b1_y b1_l b2_x b2_y b2_l
  have b0_x := H8.out.get (g := q1.heap.size) (k := 0) (v := .string s0) (by simp)
  have b0_y := H8.out.get (g := q1.heap.size) (k := 1) (v := .slice Aw ys.length cw) (by simp)
  have b0_l := H8.out.lt (g := q1.heap.size) (k := 1) (v := .slice Aw ys.length cw) (by simp)
  have b1_x := H8.out.get (g := q2.heap.size) (k := 0) (v := .string s0) (by simp)
  have b1_y := H8.out.get (g := q2.heap.size) (k := 1) (v := .slice Ag ys.length cg) (by simp)
  have b1_l := H8.out.lt (g := q2.heap.size) (k := 1) (v := .slice Ag ys.length cg) (by simp)
  have b2_x := H8.out.get (g := q6.heap.size) (k := 0) (v := .string s0) (by simp)
  have b2_y := H8.out.get (g := q6.heap.size) (k := 1) (v := .slice Ah ys.length ch) (by simp)
  have b2_l := H8.out.lt (g := q6.heap.size) (k := 1) (v := .slice Ah ys.length ch) (by simp)
  clear hb
  go_wp2_with (fail)
  go_ret
  exact ⟨rfl, (H8.out).2⟩

theorem own : ownKnob Try.prog.godebug = none := by kernel_rfl
theorem laidOut : laidOutB Try.prog = true := by kernel_rfl

set_option maxRecDepth 100000 in
theorem lifted (os : Os) (started : os.Started) (H : Type) (enc : TypeId × Value → H) :
    ReturnsInHanded {} Try.checked os 5 .any (Rows.fnExactJustTuningSpec.pre6 enc Try.prog Try.f5 Rows.fnExactJustTuningRow.domain false) (Rows.fnExactJustTuningSpec.post enc Try.prog Try.f5 false true false false) := by
  refine returnsInHanded_of_change (C := Try.checked) own started (by kernel_rfl) Try.func5
    (ChangeSpec.witness6 (enc := enc) (C := Try.checked) false ⟨#[], #[], []⟩ 8 (by kernel_rfl) (by kernel_rfl) (by kernel_rfl) (by kernel_rfl)) ?_
  intro W base args ds gs before hval0 hW hcnd _
  have hval : ∀ (j : Nat) t v, Try.f5.params[j]? = some t → args[j]? = some v → Value.okWide Try.prog W .any base t v := hval0
  have hW' := hW
  obtain ⟨p, q, hA0, hV, rfl, hfz, hnd⟩ := hW
  have hA : DataW.TrodAll enc Try.prog W 0 (fun _ => true) true Try.f5.params.toList args.toList ds p := hA0
  rw [Try.params5] at hA hval
  obtain ⟨hargs, rfl, rfl⟩ := trodAll_nil hA
  obtain rfl : args = #[] := by cases args; simp_all
  obtain ⟨rfl, rfl⟩ := trodVars_none hV
  clear hA0 hval0
  refine (walk  W).mono fun e W' ⟨he, hb⟩ => ?_
  subst he
  exact ⟨_, rfl, post_law laidOut (by kernel_rfl) (by kernel_rfl) Try.underlying4 rfl hW' rfl hb⟩

theorem closed : joinedFacts Try.pinned.checked.prog 5 Try.f5 Rows.fnExactJustTuningSpec Rows.fnExactJustTuningRow = true := by
  unfold joinedFacts
  rw [may, lifts, made]
  kernel_rfl
theorem over : Rows.fnExactJustTuningRow.holds Try.pinned (OpenSpec.ofChange Rows.fnExactJustTuningSpec) :=
  OpenClaim.holds_of_wide 5 Try.f5 rfl rfl rfl rfl rfl rfl rfl ⟨rfl, rfl, rfl, rfl, rfl⟩ rfl rfl rfl rfl rfl (by kernel_rfl) Try.func5 closed
    (of_decide_eq_true (by kernel_rfl)) (by unfold Func.isWrapper; first | (rw [if_pos (by decide +kernel)]; kernel_rfl) | (rw [if_neg (by decide +kernel)]; exact ⟨rfl, rfl⟩))
    (fun os started H enc _ => lifted os started H enc)

theorem proved : Rows.FnExactJustTuningSaid := over
#print axioms proved
end Go.Proofs.Ytbnhcacjlkmfeaa.fnExactJustTuning
