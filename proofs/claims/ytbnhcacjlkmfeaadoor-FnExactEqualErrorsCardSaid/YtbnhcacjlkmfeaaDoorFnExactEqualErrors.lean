/- 'laws.FnExactEqualErrors' returns true at every input: EqualErrors on both sides is one function (eqE). -/
import Derived.Test.YtbnhcacjlkmfeaaDoorTuG
import Derived.Test.YtbnhcacjlkmfeaaDoorTu18
import Derived.Test.YtbnhcacjlkmfeaaDoorTi9
namespace Go.Proofs.YtbnhcacjlkmfeaaDoor.fnExactEqualErrors
open Go.ChangeShapes Go.WideShapes Go.ChangeAt Go.RowKit
set_option linter.unusedVariables false
set_option linter.unusedSimpArgs false
set_option maxRecDepth 100000

set_option maxHeartbeats 8000000 in
theorem walk (s0 : ByteArray) (u0 : Value) (l0 : List (Int × Int)) {w : World} (w0 : PrsAt w u0 l0 ∧ s0.size ≤ maxLen ∧ l0.length ≤ 9223372036854775807) {ps : List MemPlace} (hl : DataW.LaidVars Tryd.prog w Rows.fnExactEqualErrorsRow.laid ps) :
    Calls Tryd.prog 5 #[tun s0 u0] w fun e w' => e = .returned (.bool true) ∧ Below w.heap.size w w' := by
  have hT := Bx.mk (steptab_of hl (.head _))
  clear hl
  obtain ⟨hi0, hs0, hm0⟩ := w0
  obtain ⟨A0, c0, rfl⟩ := prs_len hi0
  have HI0 := Bx.mk hi0
  clear hi0
  have H0 := Bx.mk (Holds.start w)
  simp only [tun]
  rcases szT_ways s0 l0 1048576 with hz0 | ⟨hz0, hzb0⟩
  · have hsz0 := fun W h => sz_tun s0 (.slice A0 l0.length c0) l0 1048576 W h (by omega) hs0 hm0
    rw [hz0] at hsz0
    simp only [tun] at hsz0
    go_enter Tryd.func5, Tryd.ntmps5
    go_wp2_with (fail)
    refine (hsz0 _ (HI0.out.below ((H0.out.pair (.string s0) (.slice A0 l0.length c0) _ _)).2)).mono ?_
    rintro e1 q1 ⟨rfl, hb⟩
    have H1 := Bx.mk ((H0.out.pair (.string s0) (.slice A0 l0.length c0) _ _).below hb)
    have SZ1 : Bx (w.heap.size + 1 ≤ q1.heap.size) := Bx.mk (by have := hb.size; simp only [World.size_alloc] at this; omega)
    clear H0
    have b0_x := H1.out.get (g := w.heap.size) (k := 0) (v := .string s0) (by simp)
    have b0_y := H1.out.get (g := w.heap.size) (k := 1) (v := .slice A0 l0.length c0) (by simp)
    have b0_l := H1.out.lt (g := w.heap.size) (k := 1) (v := .slice A0 l0.length c0) (by simp)
    clear hb
    go_wp2_with (fail)
    go_ret
    exact ⟨rfl, (H1.out).2⟩
  · have hsz0 := fun W h => sz_tun s0 (.slice A0 l0.length c0) l0 1048576 W h (by omega) hs0 hm0
    rw [hz0] at hsz0
    simp only [tun] at hsz0
    obtain ⟨z0, hzz0⟩ : ∃ z : Int, z = 1048576 - (s0.size : Int) - (l0.length : Int) := ⟨_, rfl⟩
    rw [← hzz0] at hsz0
    have hd0 : decide (z0 < 0) = false := decide_eq_false (by omega)
    have hn0 : l0.length ≤ 1048576 := by omega
    have hr0 : 0 ≤ z0 ∧ z0 ≤ 1048576 := by omega
    clear hzz0 hz0
    have hcp0 := fun W h => copy_tun s0 (.slice A0 l0.length c0) l0 W h (by omega)
    simp only [tun] at hcp0
    have heq0 := fun va vb W ha hb => eq_tun_same s0 va vb l0 W ha hb (by omega)
    simp only [tun] at heq0
    have hs := fun W (u0' : Value) (h0' : PrsAt W u0' l0) => spec_equal s0 u0' l0 W h0' hs0 (by omega)
    have hi := fun W (u0' : Value) (h0' : PrsAt W u0' l0) (hT' : StepTab W) => impl_equal s0 u0' l0 W h0' hs0 (by omega) hT'
    have hmk0 := fun te W v base h => mark_tunE (te := te) s0 v l0 base 1 W h (by omega) (by omega) (by omega)
    have HLn : (eqE s0.data.toList l0).1.length ≤ 64 := eqE_len _ _
    simp only [RowOutE, tun] at hs hi hmk0
    generalize eqE s0.data.toList l0 = t at hs hi HLn
    obtain ⟨ys, cc⟩ := t
    dsimp only at hs hi HLn
    have hdk : decide (1 + 2 * (l0.length : Int) < 0) = false := decide_eq_false (by omega)
    go_enter Tryd.func5, Tryd.ntmps5
    go_wp2_with (fail)
    refine (hsz0 _ (HI0.out.below ((H0.out.pair (.string s0) (.slice A0 l0.length c0) _ _)).2)).mono ?_
    rintro e1 q1 ⟨rfl, hb⟩
    have H1 := Bx.mk ((H0.out.pair (.string s0) (.slice A0 l0.length c0) _ _).below hb)
    have SZ1 : Bx (w.heap.size + 1 ≤ q1.heap.size) := Bx.mk (by have := hb.size; simp only [World.size_alloc] at this; omega)
    clear H0
    have b0_x := H1.out.get (g := w.heap.size) (k := 0) (v := .string s0) (by simp)
    have b0_y := H1.out.get (g := w.heap.size) (k := 1) (v := .slice A0 l0.length c0) (by simp)
    have b0_l := H1.out.lt (g := w.heap.size) (k := 1) (v := .slice A0 l0.length c0) (by simp)
    clear hb
    go_wp2_with (fail)
    refine (hcp0 _ (HI0.out.below (H1.out).2)).mono ?_
    rintro e2 q2 ⟨va0, rfl, ho, hb⟩
    obtain ⟨Aa0, ca0, rfl⟩ := own_len ho
    have H2 := Bx.mk (H1.out.below hb)
    have SZ2 : Bx (q1.heap.size ≤ q2.heap.size) := Bx.mk hb.size
    have Oa0_2 := Bx.mk ho
    have Ua0 := Bx.mk (own_hi ho)
    clear H1 b0_x b0_y b0_l
    have b0_x := H2.out.get (g := w.heap.size) (k := 0) (v := .string s0) (by simp)
    have b0_y := H2.out.get (g := w.heap.size) (k := 1) (v := .slice A0 l0.length c0) (by simp)
    have b0_l := H2.out.lt (g := w.heap.size) (k := 1) (v := .slice A0 l0.length c0) (by simp)
    clear hb ho
    go_wp2_with (fail)
    refine (hs _ _ (PrsAt.own Oa0_2.out)).mono ?_
    rintro e3 q3 ⟨tew, vw, rfl, ho, hb⟩
    obtain ⟨Aw, cw, rfl⟩ := own_len ho
    have H3 := Bx.mk (H2.out.below hb)
    have SZ3 : Bx (q2.heap.size ≤ q3.heap.size) := Bx.mk hb.size
    have Oa0_3 := Bx.mk (own_below Oa0_2.out hb)
    have Ow_3 := Bx.mk ho
    have Uw := Bx.mk (own_hi ho)
    clear H2 Oa0_2 b0_x b0_y b0_l
    have b0_x := H3.out.get (g := w.heap.size) (k := 0) (v := .string s0) (by simp)
    have b0_y := H3.out.get (g := w.heap.size) (k := 1) (v := .slice A0 l0.length c0) (by simp)
    have b0_l := H3.out.lt (g := w.heap.size) (k := 1) (v := .slice A0 l0.length c0) (by simp)
    clear hb ho
    go_wp2_with (fail)
    refine (hcp0 _ (HI0.out.below (H3.out).2)).mono ?_
    rintro e4 q4 ⟨vb0, rfl, ho, hb⟩
    obtain ⟨Ab0, cb0, rfl⟩ := own_len ho
    have H4 := Bx.mk (H3.out.below hb)
    have SZ4 : Bx (q3.heap.size ≤ q4.heap.size) := Bx.mk hb.size
    have Oa0_4 := Bx.mk (own_below Oa0_3.out hb)
    have Ow_4 := Bx.mk (own_below Ow_3.out hb)
    have Ob0_4 := Bx.mk ho
    have Ub0 := Bx.mk (own_hi ho)
    clear H3 Oa0_3 Ow_3 b0_x b0_y b0_l
    have b0_x := H4.out.get (g := w.heap.size) (k := 0) (v := .string s0) (by simp)
    have b0_y := H4.out.get (g := w.heap.size) (k := 1) (v := .slice A0 l0.length c0) (by simp)
    have b0_l := H4.out.lt (g := w.heap.size) (k := 1) (v := .slice A0 l0.length c0) (by simp)
    clear hb ho
    go_wp2_with (fail)
    refine (hi _ _ (PrsAt.own (World.ownsRow.alloc Ob0_4.out _)) (hT.out.below ((H4.out.pair (.string s0) (.slice Ab0 l0.length cb0) _ _)).2)).mono ?_
    rintro e5 q5 ⟨teg, vg, rfl, ho, hb⟩
    obtain ⟨Ag, cg, rfl⟩ := own_len ho
    have H5 := Bx.mk ((H4.out.pair (.string s0) (.slice Ab0 l0.length cb0) _ _).below hb)
    have SZ5 : Bx (q4.heap.size + 1 ≤ q5.heap.size) := Bx.mk (by have := hb.size; simp only [World.size_alloc] at this; omega)
    have Oa0_5 := Bx.mk (own_below (World.ownsRow.alloc Oa0_4.out _) hb)
    have Ow_5 := Bx.mk (own_below (World.ownsRow.alloc Ow_4.out _) hb)
    have Ob0_5 := Bx.mk (own_below (World.ownsRow.alloc Ob0_4.out _) hb)
    have Og_5 := Bx.mk (own_down2 (b1 := q4.heap.size + 1) (by go_size) ho)
    have Ug := Bx.mk (own_hi ho)
    clear H4 Oa0_4 Ow_4 Ob0_4 b0_x b0_y b0_l
    have b0_x := H5.out.get (g := w.heap.size) (k := 0) (v := .string s0) (by simp)
    have b0_y := H5.out.get (g := w.heap.size) (k := 1) (v := .slice A0 l0.length c0) (by simp)
    have b0_l := H5.out.lt (g := w.heap.size) (k := 1) (v := .slice A0 l0.length c0) (by simp)
    have b1_x := H5.out.get (g := q4.heap.size) (k := 0) (v := .string s0) (by simp)
    have b1_y := H5.out.get (g := q4.heap.size) (k := 1) (v := .slice Ab0 l0.length cb0) (by simp)
    have b1_l := H5.out.lt (g := q4.heap.size) (k := 1) (v := .slice Ab0 l0.length cb0) (by simp)
    clear hb ho
    go_wp2_with (fail)
    refine (eq_ints _ _ ys ys _ (ints_own Og_5.out) (ints_own Ow_5.out) (by omega) (by omega)).mono ?_
    rintro e6 q6 ⟨rfl, hd⟩
    have hb := below_dr hd
    clear hd
    have H6 := Bx.mk (H5.out.below hb)
    have SZ6 : Bx (q5.heap.size ≤ q6.heap.size) := Bx.mk hb.size
    have Oa0_6 := Bx.mk (own_below Oa0_5.out hb)
    have Ow_6 := Bx.mk (own_below Ow_5.out hb)
    have Ob0_6 := Bx.mk (own_below Ob0_5.out hb)
    have Og_6 := Bx.mk (own_below Og_5.out hb)
    clear H5 Oa0_5 Ow_5 Ob0_5 Og_5 b0_x b0_y b0_l b1_x b1_y b1_l
    have b0_x := H6.out.get (g := w.heap.size) (k := 0) (v := .string s0) (by simp)
    have b0_y := H6.out.get (g := w.heap.size) (k := 1) (v := .slice A0 l0.length c0) (by simp)
    have b0_l := H6.out.lt (g := w.heap.size) (k := 1) (v := .slice A0 l0.length c0) (by simp)
    have b1_x := H6.out.get (g := q4.heap.size) (k := 0) (v := .string s0) (by simp)
    have b1_y := H6.out.get (g := q4.heap.size) (k := 1) (v := .slice Ab0 l0.length cb0) (by simp)
    have b1_l := H6.out.lt (g := q4.heap.size) (k := 1) (v := .slice Ab0 l0.length cb0) (by simp)
    clear hb
    go_wp2_with (fail)
    have HS0 : Bx (q6.cell? ⟨q4.heap.size, 0, none⟩ = some (.string s0) ∧ q6.cell? ⟨q4.heap.size, 1, none⟩ = some (.slice Ab0 l0.length cb0) ∧ q6.cell? ⟨w.heap.size, 0, none⟩ = some (.string s0) ∧ q6.cell? ⟨w.heap.size, 1, none⟩ = some (.slice A0 l0.length c0) ∧ q4.heap.size < q6.heap.size ∧ w.heap.size < q6.heap.size ∧ Below q6.heap.size q6 q6) := Bx.mk ⟨b1_x, b1_y, b0_x, b0_y, b1_l, b0_l, Below.refl _ _⟩
    have HBr := Bx.mk (PrsAt.own Ob0_6.out)
    clear b0_x b0_y b0_l b1_x b1_y b1_l
    go_region_held3 (fun W => W.cell? ⟨q4.heap.size, 0, none⟩ = some (.string s0) ∧ W.cell? ⟨q4.heap.size, 1, none⟩ = some (.slice Ab0 l0.length cb0) ∧ W.cell? ⟨w.heap.size, 0, none⟩ = some (.string s0) ∧ W.cell? ⟨w.heap.size, 1, none⟩ = some (.slice A0 l0.length c0) ∧ q4.heap.size < W.heap.size ∧ w.heap.size < W.heap.size ∧ Below q6.heap.size q6 W)
      (first | (with_reducible exact keepE (by assumption) hb4) | (with_reducible exact keepE (by assumption) (Below.refl _ _)) | (with_reducible exact keepE (by assumption) (Below.refl _ _).drew) | exact keepE HS0.out (Below.refl _ _).drew)
      (first | (go_at_call 11; (with_reducible refine (hcp0 _ (HI0.out.below (bel_up H6.out (by assumption)))).mono ?_); rintro r w4 ⟨vc, rfl, ho, hb4⟩; obtain ⟨Acx, ccx, rfl⟩ := own_len ho; have HC := Bx.mk (PrsAt.own ho); clear ho; have hS0 := keepE (w := q6) (by assumption) hb4) | (go_at_call 13; (with_reducible refine (heq0 _ _ _ (HBr.out.below (bel_of (q := q6) (by assumption))) (by first | (with_reducible exact HC.out) | (with_reducible exact HC.out.below (Below.refl _ _).drew) | exact HC.out)).mono ?_); rintro r w5 ⟨rfl, hb4⟩; have hS0 := keepE (w := q6) (by assumption) hb4))
    all_goals
      obtain ⟨q7, hq, hb⟩ : ∃ q, q = _ ∧ Below q6.heap.size q6 q := ⟨_, rfl, (by assumption : _ ∧ _ ∧ _ ∧ _ ∧ _ ∧ _ ∧ _).2.2.2.2.2.2⟩
      rw [← hq]
      clear hq HBr HS0
      have H7 := Bx.mk (H6.out.below hb)
      have SZ7 : Bx (q6.heap.size ≤ q7.heap.size) := Bx.mk hb.size
      have Oa0_7 := Bx.mk (own_below Oa0_6.out hb)
      have Ow_7 := Bx.mk (own_below Ow_6.out hb)
      have Ob0_7 := Bx.mk (own_below Ob0_6.out hb)
      have Og_7 := Bx.mk (own_below Og_6.out hb)
      clear H6 Oa0_6 Ow_6 Ob0_6 Og_6
      have b0_x := H7.out.get (g := w.heap.size) (k := 0) (v := .string s0) (by simp)
      have b0_y := H7.out.get (g := w.heap.size) (k := 1) (v := .slice A0 l0.length c0) (by simp)
      have b0_l := H7.out.lt (g := w.heap.size) (k := 1) (v := .slice A0 l0.length c0) (by simp)
      have b1_x := H7.out.get (g := q4.heap.size) (k := 0) (v := .string s0) (by simp)
      have b1_y := H7.out.get (g := q4.heap.size) (k := 1) (v := .slice Ab0 l0.length cb0) (by simp)
      have b1_l := H7.out.lt (g := q4.heap.size) (k := 1) (v := .slice Ab0 l0.length cb0) (by simp)
      clear hb
      go_wp2_with (fail)
      refine (hmk0 _ _ _ _ Ob0_7.out).mono ?_
      rintro e8 q8 ⟨rfl, hm, hg⟩
      have LO := Bx.mk (own_lo Ob0_7.out)
      have H8 := Bx.mk ((H7.out.alloc _).grown hg (by
        intro p hp hk
        have h1 := LO.out _ hk
        have h2 := Ub0.out _ hk
        have := SZ1.out; have := SZ2.out; have := SZ3.out; have := SZ4.out; have := SZ5.out; have := SZ6.out; have := SZ7.out
        clear hg hm
        simp at hp
        rcases hp with rfl | rfl | rfl | rfl <;> (dsimp only at h1 h2; omega)
        ) (by intro b hb; have := LO.out b hb; have := SZ1.out; have := SZ2.out; have := SZ3.out; have := SZ4.out; have := SZ5.out; have := SZ6.out; have := SZ7.out; omega))
      have SZ8 : Bx (q7.heap.size + 1 ≤ q8.heap.size) := Bx.mk (by have := grown_size hg; simp only [World.size_alloc] at this; omega)
      have Oa0_8 := Bx.mk (own_young (World.ownsRow.alloc Oa0_7.out _) Ua0.out Ob0_7.out (by have := SZ1.out; have := SZ2.out; have := SZ3.out; have := SZ4.out; have := SZ5.out; have := SZ6.out; have := SZ7.out; omega) hg)
      have Ow_8 := Bx.mk (own_young (World.ownsRow.alloc Ow_7.out _) Uw.out Ob0_7.out (by have := SZ1.out; have := SZ2.out; have := SZ3.out; have := SZ4.out; have := SZ5.out; have := SZ6.out; have := SZ7.out; omega) hg)
      have Og_8 := Bx.mk (own_old (World.ownsRow.alloc Og_7.out _) Ub0.out (by have := SZ1.out; have := SZ2.out; have := SZ3.out; have := SZ4.out; have := SZ5.out; have := SZ6.out; have := SZ7.out; omega) hg)
      have Ob0_8 := Bx.mk hm
      clear LO hm hg H7 Oa0_7 Ow_7 Ob0_7 Og_7 b0_x b0_y b0_l b1_x b1_y b1_l
      have b0_x := H8.out.get (g := w.heap.size) (k := 0) (v := .string s0) (by simp)
      have b0_y := H8.out.get (g := w.heap.size) (k := 1) (v := .slice A0 l0.length c0) (by simp)
      have b0_l := H8.out.lt (g := w.heap.size) (k := 1) (v := .slice A0 l0.length c0) (by simp)
      have b1_x := H8.out.get (g := q4.heap.size) (k := 0) (v := .string s0) (by simp)
      have b1_y := H8.out.get (g := q4.heap.size) (k := 1) (v := .slice Ab0 l0.length cb0) (by simp)
      have b1_l := H8.out.lt (g := q4.heap.size) (k := 1) (v := .slice Ab0 l0.length cb0) (by simp)
      go_wp2_with (fail)
      refine (eq_ints _ _ ys ys _ (ints_own Og_8.out) (ints_own Ow_8.out) (by omega) (by omega)).mono ?_
      rintro e9 q9 ⟨rfl, hd⟩
      have hb := below_dr hd
      clear hd
      have H9 := Bx.mk (H8.out.below hb)
      have SZ9 : Bx (q8.heap.size ≤ q9.heap.size) := Bx.mk hb.size
      have Oa0_9 := Bx.mk (own_below Oa0_8.out hb)
      have Ow_9 := Bx.mk (own_below Ow_8.out hb)
      have Ob0_9 := Bx.mk (own_below Ob0_8.out hb)
      have Og_9 := Bx.mk (own_below Og_8.out hb)
      clear H8 Oa0_8 Ow_8 Ob0_8 Og_8 b0_x b0_y b0_l b1_x b1_y b1_l
      have b0_x := H9.out.get (g := w.heap.size) (k := 0) (v := .string s0) (by simp)
      have b0_y := H9.out.get (g := w.heap.size) (k := 1) (v := .slice A0 l0.length c0) (by simp)
      have b0_l := H9.out.lt (g := w.heap.size) (k := 1) (v := .slice A0 l0.length c0) (by simp)
      have b1_x := H9.out.get (g := q4.heap.size) (k := 0) (v := .string s0) (by simp)
      have b1_y := H9.out.get (g := q4.heap.size) (k := 1) (v := .slice Ab0 l0.length cb0) (by simp)
      have b1_l := H9.out.lt (g := q4.heap.size) (k := 1) (v := .slice Ab0 l0.length cb0) (by simp)
      clear hb
      go_wp2_with (fail)
      refine (mark_intsE _ ys _ 1 _ Og_9.out (by omega) (by omega) (by omega)).mono ?_
      rintro e10 q10 ⟨rfl, hm, hg⟩
      have LO := Bx.mk (own_lo Og_9.out)
      have H10 := Bx.mk (H9.out.grown hg (by
        intro p hp hk
        have h1 := LO.out _ hk
        have h2 := Ug.out _ hk
        have := SZ1.out; have := SZ2.out; have := SZ3.out; have := SZ4.out; have := SZ5.out; have := SZ6.out; have := SZ7.out; have := SZ8.out; have := SZ9.out
        clear hg hm
        simp at hp
        rcases hp with rfl | rfl | rfl | rfl <;> (dsimp only at h1 h2; omega)
        ) (by intro b hb; have := LO.out b hb; have := SZ1.out; have := SZ2.out; have := SZ3.out; have := SZ4.out; have := SZ5.out; have := SZ6.out; have := SZ7.out; have := SZ8.out; have := SZ9.out; omega))
      have SZ10 : Bx (q9.heap.size ≤ q10.heap.size) := Bx.mk (grown_size hg)
      have Oa0_10 := Bx.mk (own_young Oa0_9.out Ua0.out Og_9.out (by have := SZ1.out; have := SZ2.out; have := SZ3.out; have := SZ4.out; have := SZ5.out; have := SZ6.out; have := SZ7.out; have := SZ8.out; have := SZ9.out; omega) hg)
      have Ow_10 := Bx.mk (own_young Ow_9.out Uw.out Og_9.out (by have := SZ1.out; have := SZ2.out; have := SZ3.out; have := SZ4.out; have := SZ5.out; have := SZ6.out; have := SZ7.out; have := SZ8.out; have := SZ9.out; omega) hg)
      have Ob0_10 := Bx.mk (own_young Ob0_9.out Ub0.out Og_9.out (by have := SZ1.out; have := SZ2.out; have := SZ3.out; have := SZ4.out; have := SZ5.out; have := SZ6.out; have := SZ7.out; have := SZ8.out; have := SZ9.out; omega) hg)
      have Og_10 := Bx.mk hm
      clear LO hm hg H9 Oa0_9 Ow_9 Ob0_9 Og_9 b0_x b0_y b0_l b1_x b1_y b1_l
      have b0_x := H10.out.get (g := w.heap.size) (k := 0) (v := .string s0) (by simp)
      have b0_y := H10.out.get (g := w.heap.size) (k := 1) (v := .slice A0 l0.length c0) (by simp)
      have b0_l := H10.out.lt (g := w.heap.size) (k := 1) (v := .slice A0 l0.length c0) (by simp)
      have b1_x := H10.out.get (g := q4.heap.size) (k := 0) (v := .string s0) (by simp)
      have b1_y := H10.out.get (g := q4.heap.size) (k := 1) (v := .slice Ab0 l0.length cb0) (by simp)
      have b1_l := H10.out.lt (g := q4.heap.size) (k := 1) (v := .slice Ab0 l0.length cb0) (by simp)
      go_wp2_with (fail)
      refine (held_ints _ ys.length 1 _ (ints_own (by rw [marks_len]; exact Og_10.out)) (by omega) (by omega) (by omega)).mono ?_
      rintro e11 q11 ⟨rfl, hd⟩
      have hb := below_eq hd
      clear hd
      have H11 := Bx.mk (H10.out.below hb)
      have SZ11 : Bx (q10.heap.size ≤ q11.heap.size) := Bx.mk hb.size
      have Oa0_11 := Bx.mk (own_below Oa0_10.out hb)
      have Ow_11 := Bx.mk (own_below Ow_10.out hb)
      have Ob0_11 := Bx.mk (own_below Ob0_10.out hb)
      have Og_11 := Bx.mk (own_below Og_10.out hb)
      clear H10 Oa0_10 Ow_10 Ob0_10 Og_10 b0_x b0_y b0_l b1_x b1_y b1_l
      have b0_x := H11.out.get (g := w.heap.size) (k := 0) (v := .string s0) (by simp)
      have b0_y := H11.out.get (g := w.heap.size) (k := 1) (v := .slice A0 l0.length c0) (by simp)
      have b0_l := H11.out.lt (g := w.heap.size) (k := 1) (v := .slice A0 l0.length c0) (by simp)
      have b1_x := H11.out.get (g := q4.heap.size) (k := 0) (v := .string s0) (by simp)
      have b1_y := H11.out.get (g := q4.heap.size) (k := 1) (v := .slice Ab0 l0.length cb0) (by simp)
      have b1_l := H11.out.lt (g := q4.heap.size) (k := 1) (v := .slice Ab0 l0.length cb0) (by simp)
      clear hb
      go_wp2_with (fail)
      refine (hcp0 _ (HI0.out.below (H11.out).2)).mono ?_
      rintro e12 q12 ⟨vd0, rfl, ho, hb⟩
      obtain ⟨Ad0, cd0, rfl⟩ := own_len ho
      have H12 := Bx.mk (H11.out.below hb)
      have SZ12 : Bx (q11.heap.size ≤ q12.heap.size) := Bx.mk hb.size
      have Oa0_12 := Bx.mk (own_below Oa0_11.out hb)
      have Ow_12 := Bx.mk (own_below Ow_11.out hb)
      have Ob0_12 := Bx.mk (own_below Ob0_11.out hb)
      have Og_12 := Bx.mk (own_below Og_11.out hb)
      have Od0_12 := Bx.mk ho
      have Ud0 := Bx.mk (own_hi ho)
      clear H11 Oa0_11 Ow_11 Ob0_11 Og_11 b0_x b0_y b0_l b1_x b1_y b1_l
      have b0_x := H12.out.get (g := w.heap.size) (k := 0) (v := .string s0) (by simp)
      have b0_y := H12.out.get (g := w.heap.size) (k := 1) (v := .slice A0 l0.length c0) (by simp)
      have b0_l := H12.out.lt (g := w.heap.size) (k := 1) (v := .slice A0 l0.length c0) (by simp)
      have b1_x := H12.out.get (g := q4.heap.size) (k := 0) (v := .string s0) (by simp)
      have b1_y := H12.out.get (g := q4.heap.size) (k := 1) (v := .slice Ab0 l0.length cb0) (by simp)
      have b1_l := H12.out.lt (g := q4.heap.size) (k := 1) (v := .slice Ab0 l0.length cb0) (by simp)
      clear hb ho
      go_wp2_with (fail)
      refine (hi _ _ (PrsAt.own Od0_12.out) (hT.out.below (H12.out).2)).mono ?_
      rintro e13 q13 ⟨teh, vh, rfl, ho, hb⟩
      obtain ⟨Ah, ch, rfl⟩ := own_len ho
      have H13 := Bx.mk (H12.out.below hb)
      have SZ13 : Bx (q12.heap.size ≤ q13.heap.size) := Bx.mk hb.size
      have Oa0_13 := Bx.mk (own_below Oa0_12.out hb)
      have Ow_13 := Bx.mk (own_below Ow_12.out hb)
      have Ob0_13 := Bx.mk (own_below Ob0_12.out hb)
      have Og_13 := Bx.mk (own_below Og_12.out hb)
      have Od0_13 := Bx.mk (own_below Od0_12.out hb)
      have Oh_13 := Bx.mk ho
      have Uh := Bx.mk (own_hi ho)
      clear H12 Oa0_12 Ow_12 Ob0_12 Og_12 Od0_12 b0_x b0_y b0_l b1_x b1_y b1_l
      have b0_x := H13.out.get (g := w.heap.size) (k := 0) (v := .string s0) (by simp)
      have b0_y := H13.out.get (g := w.heap.size) (k := 1) (v := .slice A0 l0.length c0) (by simp)
      have b0_l := H13.out.lt (g := w.heap.size) (k := 1) (v := .slice A0 l0.length c0) (by simp)
      have b1_x := H13.out.get (g := q4.heap.size) (k := 0) (v := .string s0) (by simp)
      have b1_y := H13.out.get (g := q4.heap.size) (k := 1) (v := .slice Ab0 l0.length cb0) (by simp)
      have b1_l := H13.out.lt (g := q4.heap.size) (k := 1) (v := .slice Ab0 l0.length cb0) (by simp)
      clear hb ho
      go_wp2_with (fail)
      refine (eq_ints _ _ ys ys _ (ints_own Oh_13.out) (ints_own Ow_13.out) (by omega) (by omega)).mono ?_
      rintro e14 q14 ⟨rfl, hd⟩
      have hb := below_dr hd
      clear hd
      have H14 := Bx.mk (H13.out.below hb)
      have SZ14 : Bx (q13.heap.size ≤ q14.heap.size) := Bx.mk hb.size
      have Oa0_14 := Bx.mk (own_below Oa0_13.out hb)
      have Ow_14 := Bx.mk (own_below Ow_13.out hb)
      have Ob0_14 := Bx.mk (own_below Ob0_13.out hb)
      have Og_14 := Bx.mk (own_below Og_13.out hb)
      have Od0_14 := Bx.mk (own_below Od0_13.out hb)
      have Oh_14 := Bx.mk (own_below Oh_13.out hb)
      clear H13 Oa0_13 Ow_13 Ob0_13 Og_13 Od0_13 Oh_13 b0_x b0_y b0_l b1_x b1_y b1_l
      have b0_x := H14.out.get (g := w.heap.size) (k := 0) (v := .string s0) (by simp)
      have b0_y := H14.out.get (g := w.heap.size) (k := 1) (v := .slice A0 l0.length c0) (by simp)
      have b0_l := H14.out.lt (g := w.heap.size) (k := 1) (v := .slice A0 l0.length c0) (by simp)
      have b1_x := H14.out.get (g := q4.heap.size) (k := 0) (v := .string s0) (by simp)
      have b1_y := H14.out.get (g := q4.heap.size) (k := 1) (v := .slice Ab0 l0.length cb0) (by simp)
      have b1_l := H14.out.lt (g := q4.heap.size) (k := 1) (v := .slice Ab0 l0.length cb0) (by simp)
      clear hb
      go_wp2_with (fail)
      refine (held_ints _ ys.length 1 _ (ints_own (by rw [marks_len]; exact Og_14.out)) (by omega) (by omega) (by omega)).mono ?_
      rintro e15 q15 ⟨rfl, hd⟩
      have hb := below_eq hd
      clear hd
      have H15 := Bx.mk (H14.out.below hb)
      have SZ15 : Bx (q14.heap.size ≤ q15.heap.size) := Bx.mk hb.size
      have Oa0_15 := Bx.mk (own_below Oa0_14.out hb)
      have Ow_15 := Bx.mk (own_below Ow_14.out hb)
      have Ob0_15 := Bx.mk (own_below Ob0_14.out hb)
      have Og_15 := Bx.mk (own_below Og_14.out hb)
      have Od0_15 := Bx.mk (own_below Od0_14.out hb)
      have Oh_15 := Bx.mk (own_below Oh_14.out hb)
      clear H14 Oa0_14 Ow_14 Ob0_14 Og_14 Od0_14 Oh_14 b0_x b0_y b0_l b1_x b1_y b1_l
      have b0_x := H15.out.get (g := w.heap.size) (k := 0) (v := .string s0) (by simp)
      have b0_y := H15.out.get (g := w.heap.size) (k := 1) (v := .slice A0 l0.length c0) (by simp)
      have b0_l := H15.out.lt (g := w.heap.size) (k := 1) (v := .slice A0 l0.length c0) (by simp)
      have b1_x := H15.out.get (g := q4.heap.size) (k := 0) (v := .string s0) (by simp)
      have b1_y := H15.out.get (g := q4.heap.size) (k := 1) (v := .slice Ab0 l0.length cb0) (by simp)
      have b1_l := H15.out.lt (g := q4.heap.size) (k := 1) (v := .slice Ab0 l0.length cb0) (by simp)
      clear hb
      go_wp2_with (fail)
      go_ret
      exact ⟨rfl, (H15.out).2⟩

theorem own : ownKnob Tryd.prog.godebug = none := by kernel_rfl
theorem laidOut : laidOutB Tryd.prog = true := by kernel_rfl
theorem listed {W : World} (h : laidMetH Tryd.prog Rows.fnExactEqualErrorsRow.laid W) : ∃ ps, DataW.LaidVars Tryd.prog W Rows.fnExactEqualErrorsRow.laid ps := by
  rw [Go.MakeChecks.laidMetH_plain _ _ _ (by kernel_rfl)] at h
  obtain ⟨ps, h, _⟩ := h
  exact ⟨ps, h⟩
set_option maxRecDepth 100000 in
theorem contract (H : Type) (enc : TypeId × Value → H) (W : World) (base : Nat) (args : Array Value) (ds gs : List (DataW H)) (before : List MemPlace)
    (hval : ∀ (j : Nat) t v, Tryd.f5.params[j]? = some t → args[j]? = some v → Value.okWide Tryd.prog W .any base t v)
    (hW : DataW.Whole enc Tryd.prog Tryd.f5.params.toList Rows.fnExactEqualErrorsSpec.vars false W args.toList ds gs before) (hL : laidMetH Tryd.prog Rows.fnExactEqualErrorsRow.laid W) (hsh : W.ShapedOpen Tryd.prog) :
    Calls Tryd.prog 5 args W fun e W' => ∃ v, e = .returned v ∧ Rows.fnExactEqualErrorsSpec.post enc Tryd.prog Tryd.f5 false true false false W args v W' := by
  have hW' := hW
  obtain ⟨p, q, hA0, hV, rfl, hfz, hnd⟩ := hW
  obtain ⟨ps, hl⟩ := listed hL
  have hA : DataW.TrodAll enc Tryd.prog W 0 (fun _ => true) true Tryd.f5.params.toList args.toList ds p := hA0
  rw [Tryd.params5] at hA hval
  obtain ⟨v0, vs0, d0, ds0, p0, q0, hargs, rfl, rfl, h0, r0⟩ := trodAll_cons hA
  obtain ⟨rfl, rfl, rfl⟩ := trodAll_nil r0
  obtain rfl : args = #[v0] := by cases args; simp_all
  obtain ⟨gv0, gr0, hgs0, hV0⟩ : ∃ d r, gs = d :: r ∧ True := by cases gs with | nil => simp [DataW.TrodVars, Rows.fnExactEqualErrorsSpec] at hV | cons d r => exact ⟨d, r, rfl, trivial⟩
  subst hgs0
  obtain rfl : gr0 = [] := by
    obtain ⟨_, _, _, _, _, _, _, _, _, _, hr, _⟩ := hV
    cases gr0 with
    | nil => rfl
    | cons => simp [DataW.TrodVars] at hr
  obtain ⟨s0, u0, l0, rfl, w0⟩ := arg_tun (hval 0 24 v0 rfl rfl) h0 (fun x hx => hW'.lt x (by simp [hx]))
  refine (walk s0 u0 l0 w0  hl).mono fun e W' ⟨he, hb⟩ => ?_
  subst he
  exact ⟨_, rfl, post_lawv laidOut (by kernel_rfl) (by kernel_rfl) (by kernel_rfl) Tryd.underlying4 hW' rfl hb⟩

noncomputable def low : Nat := (World.holding Tryd.prog default ⟨#[], #[], []⟩).heap.size
/-- a world for the witness: each listed variable holds what is listed -/
noncomputable def laidWorld (os : Os) : World :=
  { World.holding Tryd.prog os ⟨#[], #[], []⟩ with heap := ((World.holding Tryd.prog os ⟨#[], #[], []⟩).heap).modify 0 (layCells (datCells (H := Unit) Rows.laid_loop_example_g01033_impl_centsOfSteps)) }
theorem laid_met (os : Os) : laidMet Tryd.prog Rows.fnExactEqualErrorsRow.laid ((laidWorld os).forCall (fun _ _ => 0) ⟨#[], #[Value.agg #[.string ⟨#[]⟩, .slice none 0 0]], []⟩).memory :=
  laidMet_of_run' 8 (by kernel_rfl) (by kernel_rfl)
theorem reads (os : Os) {H : Type} (enc : TypeId × Value → H) : ∃ places, DataW.whole enc Tryd.prog ((laidWorld os).forCall (fun _ _ => 0) ⟨#[], #[Value.agg #[.string ⟨#[]⟩, .slice none 0 0]], []⟩).memory Tryd.f5.params.toList Rows.fnExactEqualErrorsSpec.vars false #[Value.agg #[.string ⟨#[]⟩, .slice none 0 0]].toList 8 = some ([.agg [.lit (.string []), .nil]], [Rows.laid_loop_example_g01033_impl_centsOfSteps], places) :=
  places_of (by kernel_rfl)

set_option maxRecDepth 100000 in
theorem lifted (os : Os) (started : os.Started) (H : Type) (enc : TypeId × Value → H) (F : Stop.Interp) :
    ReturnsInHanded {} Tryd.checked os 5 .any ((OpenSpec.ofChange Rows.fnExactEqualErrorsSpec).preRow enc Tryd.prog Tryd.f5 Rows.fnExactEqualErrorsRow.domain false Rows.fnExactEqualErrorsRow.laid) (((OpenSpec.ofChange Rows.fnExactEqualErrorsSpec).at F).post enc Tryd.prog Tryd.f5 false true false false) := by
  obtain ⟨places, hx⟩ := reads os enc
  refine returnsInHanded_of_row (C := Tryd.checked) (s := OpenSpec.ofChange Rows.fnExactEqualErrorsSpec) own started (by kernel_rfl) Tryd.func5
    (witness_row_at (enc := enc) (C := Tryd.checked) false (laidWorld os) #[Value.agg #[.string ⟨#[]⟩, .slice none 0 0]] rfl (by kernel_rfl) (by kernel_rfl) (by kernel_rfl)
      (OpenSpec.preRow_of_cond 8 hx (by kernel_rfl) (fun k hk => by cases hk) (by kernel_rfl) (by rw [Go.MakeChecks.laidMetH_plain _ _ _ (by kernel_rfl)]; exact laid_met os))) ?_
  intro W base args ds gs before hval hW _ _ _ hL hsh _
  exact contract H enc W base args ds gs before hval hW hL hsh

theorem said : Rows.FnExactEqualErrorsSaid :=
  OpenClaim.holds_of_cond 5 Tryd.f5 rfl rfl rfl rfl rfl rfl rfl ⟨rfl, rfl, rfl, rfl, rfl⟩ rfl rfl rfl rfl rfl (by kernel_rfl) Tryd.func5 (by kernel_rfl)
    (of_decide_eq_true (by kernel_rfl)) (by unfold Func.isWrapper; first | (rw [if_pos (by decide +kernel)]; kernel_rfl) | (rw [if_neg (by decide +kernel)]; exact ⟨rfl, rfl⟩))
    (fun os started H enc _ F => by rw [OpenClaim.pre_eq_preRow]; exact lifted os started H enc F)

theorem plain (f : FuncId) (fn : Func) (hf : Tryd.pinned.checked.prog.funcNamed "loop.example/g01033/laws.FnExactEqualErrors" = some f) (hfn : Tryd.pinned.checked.prog.funcs[f]? = some fn) :
    true = Tryd.pinned.checked.prog.looks [] ∧ ∀ (j : Nat) t, fn.params[j]? = some t → Tryd.pinned.checked.prog.wantsStandIn t = false := by
  obtain rfl : f = 5 := Option.some.inj ((show Tryd.prog.funcNamed "loop.example/g01033/laws.FnExactEqualErrors" = some 5 by kernel_rfl).symm.trans hf) |>.symm
  obtain rfl : fn = Tryd.f5 := (Option.some.inj (Tryd.func5.symm.trans hfn)).symm
  refine ⟨by kernel_rfl, fun j t ht => ?_⟩
  rw [Tryd.params5] at ht
  have hm := Array.mem_of_getElem? ht
  have hall : ∀ t ∈ #[24], Tryd.prog.wantsStandIn t = false := by
    intro t ht
    simp at ht
    subst ht; kernel_rfl
  exact hall t hm

theorem card : Rows.FnExactEqualErrorsCardSaid :=
  Claim7.holds_tied_plain_at .later [] _ _ _ _ said (fun _ h => by cases h) (by kernel_rfl) (fun _ h => by cases h) fnExactEqualErrors_row_tie rfl ⟨rfl, rfl⟩ (by kernel_rfl) rfl plain (by kernel_rfl)
theorem proved : Rows.FnExactEqualErrorsCardSaid := card
#print axioms proved
end Go.Proofs.YtbnhcacjlkmfeaaDoor.fnExactEqualErrors
