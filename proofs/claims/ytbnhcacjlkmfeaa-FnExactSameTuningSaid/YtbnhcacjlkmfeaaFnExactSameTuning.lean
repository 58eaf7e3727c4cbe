/- 'laws.FnExactSameTuning' returns true at every input: SameTuning on both sides is one function. -/
import Derived.Test.YtbnhcacjlkmfeaaTuLaw
import Derived.Test.YtbnhcacjlkmfeaaTu15
import Derived.Test.YtbnhcacjlkmfeaaTi8
namespace Go.Proofs.Ytbnhcacjlkmfeaa.fnExactSameTuning
open Go.ChangeShapes Go.WideShapes Go.ChangeAt Go.RowKit
set_option linter.unusedVariables false
set_option linter.unusedSimpArgs false
set_option maxRecDepth 100000

set_option maxHeartbeats 8000000 in
theorem walk (s0 : ByteArray) (u0 : Value) (l0 : List (Int × Int)) {w : World} (w0 : PrsAt w u0 l0 ∧ s0.size ≤ maxLen ∧ l0.length ≤ 9223372036854775807) (s1 : ByteArray) (u1 : Value) (l1 : List (Int × Int)) (w1 : PrsAt w u1 l1 ∧ s1.size ≤ maxLen ∧ l1.length ≤ 9223372036854775807) :
    Calls Try.prog 4 #[tun s0 u0, tun s1 u1] w fun e w' => e = .returned (.bool true) ∧ Below w.heap.size w w' := by
  obtain ⟨hi0, hs0, hm0⟩ := w0
  obtain ⟨A0, c0, rfl⟩ := prs_len hi0
  have HI0 := Bx.mk hi0
  clear hi0
  obtain ⟨hi1, hs1, hm1⟩ := w1
  obtain ⟨A1, c1, rfl⟩ := prs_len hi1
  have HI1 := Bx.mk hi1
  clear hi1
  have H0 := Bx.mk (Holds.start w)
  simp only [tun]
  rcases szT_ways s0 l0 1048576 with hz0 | ⟨hz0, hzb0⟩
  · have hsz0 := fun W h => sz_tun s0 (.slice A0 l0.length c0) l0 1048576 W h (by omega) hs0 hm0
    rw [hz0] at hsz0
    simp only [tun] at hsz0
    go_enter Try.func4, Try.ntmps4
    go_wp2_with (fail)
    refine (hsz0 _ (HI0.out.below (((H0.out.pair (.string s0) (.slice A0 l0.length c0) _ _).pair (.string s1) (.slice A1 l1.length c1) _ _)).2)).mono ?_
    rintro e1 q1 ⟨rfl, hb⟩
    have H1 := Bx.mk (((H0.out.pair (.string s0) (.slice A0 l0.length c0) _ _).pair (.string s1) (.slice A1 l1.length c1) _ _).below hb)
    have SZ1 : Bx (w.heap.size + 2 ≤ q1.heap.size) := Bx.mk (by have := hb.size; simp only [World.size_alloc] at this; omega)
    clear H0
    have b0_x := H1.out.get (g := w.heap.size) (k := 0) (v := .string s0) (by simp)
    have b0_y := H1.out.get (g := w.heap.size) (k := 1) (v := .slice A0 l0.length c0) (by simp)
    have b0_l := H1.out.lt (g := w.heap.size) (k := 1) (v := .slice A0 l0.length c0) (by simp)
    have b1_x := H1.out.get (g := w.heap.size + 1) (k := 0) (v := .string s1) (by simp)
    have b1_y := H1.out.get (g := w.heap.size + 1) (k := 1) (v := .slice A1 l1.length c1) (by simp)
    have b1_l := H1.out.lt (g := w.heap.size + 1) (k := 1) (v := .slice A1 l1.length c1) (by simp)
    clear hb
    go_wp2_with (fail)
    go_ret
    exact ⟨rfl, (H1.out).2⟩
  · have hsz0 := fun W h => sz_tun s0 (.slice A0 l0.length c0) l0 1048576 W h (by omega) hs0 hm0
    rw [hz0] at hsz0
    simp only [tun] at hsz0
    obtain ⟨z0, hzz0⟩ : ∃ z : Int, z = 1048576 - (s0.size : Int) - (l0.length : Int) := ⟨_, rfl⟩
    rw [← hzz0] at hsz0
    have hd0 : decide (z0 < 0) = false := decide_eq_false (by omega)
    have hn0 : l0.length ≤ 1048576 := by omega
    have hr0 : 0 ≤ z0 ∧ z0 ≤ 1048576 := by omega
    clear hzz0 hz0
    have hcp0 := fun W h => copy_tun s0 (.slice A0 l0.length c0) l0 W h (by omega)
    simp only [tun] at hcp0
    have heq0 := fun va vb W ha hb => eq_tun_same s0 va vb l0 W ha hb (by omega)
    simp only [tun] at heq0
    rcases szT_ways s1 l1 z0 with hz1 | ⟨hz1, hzb1⟩
    · have hsz1 := fun W h => sz_tun s1 (.slice A1 l1.length c1) l1 z0 W h (by omega) hs1 hm1
      rw [hz1] at hsz1
      simp only [tun] at hsz1
      go_enter Try.func4, Try.ntmps4
      go_wp2_with (fail)
      refine (hsz0 _ (HI0.out.below (((H0.out.pair (.string s0) (.slice A0 l0.length c0) _ _).pair (.string s1) (.slice A1 l1.length c1) _ _)).2)).mono ?_
      rintro e1 q1 ⟨rfl, hb⟩
      have H1 := Bx.mk (((H0.out.pair (.string s0) (.slice A0 l0.length c0) _ _).pair (.string s1) (.slice A1 l1.length c1) _ _).below hb)
      have SZ1 : Bx (w.heap.size + 2 ≤ q1.heap.size) := Bx.mk (by have := hb.size; simp only [World.size_alloc] at this; omega)
      clear H0
      have b0_x := H1.out.get (g := w.heap.size) (k := 0) (v := .string s0) (by simp)
      have b0_y := H1.out.get (g := w.heap.size) (k := 1) (v := .slice A0 l0.length c0) (by simp)
      have b0_l := H1.out.lt (g := w.heap.size) (k := 1) (v := .slice A0 l0.length c0) (by simp)
      have b1_x := H1.out.get (g := w.heap.size + 1) (k := 0) (v := .string s1) (by simp)
      have b1_y := H1.out.get (g := w.heap.size + 1) (k := 1) (v := .slice A1 l1.length c1) (by simp)
      have b1_l := H1.out.lt (g := w.heap.size + 1) (k := 1) (v := .slice A1 l1.length c1) (by simp)
      clear hb
      go_wp2_with (fail)
      refine (hsz1 _ (HI1.out.below (H1.out).2)).mono ?_
      rintro e2 q2 ⟨rfl, hb⟩
      have H2 := Bx.mk (H1.out.below hb)
      have SZ2 : Bx (q1.heap.size ≤ q2.heap.size) := Bx.mk hb.size
      clear H1 b0_x b0_y b0_l b1_x b1_y b1_l
      have b0_x := H2.out.get (g := w.heap.size) (k := 0) (v := .string s0) (by simp)
      have b0_y := H2.out.get (g := w.heap.size) (k := 1) (v := .slice A0 l0.length c0) (by simp)
      have b0_l := H2.out.lt (g := w.heap.size) (k := 1) (v := .slice A0 l0.length c0) (by simp)
      have b1_x := H2.out.get (g := w.heap.size + 1) (k := 0) (v := .string s1) (by simp)
      have b1_y := H2.out.get (g := w.heap.size + 1) (k := 1) (v := .slice A1 l1.length c1) (by simp)
      have b1_l := H2.out.lt (g := w.heap.size + 1) (k := 1) (v := .slice A1 l1.length c1) (by simp)
      clear hb
      go_wp2_with (fail)
      go_ret
      exact ⟨rfl, (H2.out).2⟩
    · have hsz1 := fun W h => sz_tun s1 (.slice A1 l1.length c1) l1 z0 W h (by omega) hs1 hm1
      rw [hz1] at hsz1
      simp only [tun] at hsz1
      obtain ⟨z1, hzz1⟩ : ∃ z : Int, z = z0 - (s1.size : Int) - (l1.length : Int) := ⟨_, rfl⟩
      rw [← hzz1] at hsz1
      have hd1 : decide (z1 < 0) = false := decide_eq_false (by omega)
      have hn1 : l1.length ≤ 1048576 := by omega
      have hr1 : 0 ≤ z1 ∧ z1 ≤ 1048576 := by omega
      clear hzz1 hz1
      have hcp1 := fun W h => copy_tun s1 (.slice A1 l1.length c1) l1 W h (by omega)
      simp only [tun] at hcp1
      have heq1 := fun va vb W ha hb => eq_tun_same s1 va vb l1 W ha hb (by omega)
      simp only [tun] at heq1
      have hs := fun W (u0' u1' : Value) (h0' : PrsAt W u0' l0) (h1' : PrsAt W u1' l1) => spec_sametuning s0 s1 u0' u1' l0 l1 W h0' h1' (by omega) (by omega)
      have hi := fun W (u0' u1' : Value) (h0' : PrsAt W u0' l0) (h1' : PrsAt W u1' l1) => impl_sametuning s0 s1 u0' u1' l0 l1 W h0' h1' (by omega) (by omega)
      simp only [tun] at hs hi
      generalize decide (s0 = s1 ∧ l0 = l1) = r0 at hs hi
      go_enter Try.func4, Try.ntmps4
      go_wp2_with (fail)
      refine (hsz0 _ (HI0.out.below (((H0.out.pair (.string s0) (.slice A0 l0.length c0) _ _).pair (.string s1) (.slice A1 l1.length c1) _ _)).2)).mono ?_
      rintro e1 q1 ⟨rfl, hb⟩
      have H1 := Bx.mk (((H0.out.pair (.string s0) (.slice A0 l0.length c0) _ _).pair (.string s1) (.slice A1 l1.length c1) _ _).below hb)
      have SZ1 : Bx (w.heap.size + 2 ≤ q1.heap.size) := Bx.mk (by have := hb.size; simp only [World.size_alloc] at this; omega)
      clear H0
      have b0_x := H1.out.get (g := w.heap.size) (k := 0) (v := .string s0) (by simp)
      have b0_y := H1.out.get (g := w.heap.size) (k := 1) (v := .slice A0 l0.length c0) (by simp)
      have b0_l := H1.out.lt (g := w.heap.size) (k := 1) (v := .slice A0 l0.length c0) (by simp)
      have b1_x := H1.out.get (g := w.heap.size + 1) (k := 0) (v := .string s1) (by simp)
      have b1_y := H1.out.get (g := w.heap.size + 1) (k := 1) (v := .slice A1 l1.length c1) (by simp)
      have b1_l := H1.out.lt (g := w.heap.size + 1) (k := 1) (v := .slice A1 l1.length c1) (by simp)
      clear hb
      go_wp2_with (fail)
      refine (hsz1 _ (HI1.out.below (H1.out).2)).mono ?_
      rintro e2 q2 ⟨rfl, hb⟩
      have H2 := Bx.mk (H1.out.below hb)
      have SZ2 : Bx (q1.heap.size ≤ q2.heap.size) := Bx.mk hb.size
      clear H1 b0_x b0_y b0_l b1_x b1_y b1_l
      have b0_x := H2.out.get (g := w.heap.size) (k := 0) (v := .string s0) (by simp)
      have b0_y := H2.out.get (g := w.heap.size) (k := 1) (v := .slice A0 l0.length c0) (by simp)
      have b0_l := H2.out.lt (g := w.heap.size) (k := 1) (v := .slice A0 l0.length c0) (by simp)
      have b1_x := H2.out.get (g := w.heap.size + 1) (k := 0) (v := .string s1) (by simp)
      have b1_y := H2.out.get (g := w.heap.size + 1) (k := 1) (v := .slice A1 l1.length c1) (by simp)
      have b1_l := H2.out.lt (g := w.heap.size + 1) (k := 1) (v := .slice A1 l1.length c1) (by simp)
      clear hb
      go_wp2_with (fail)
      have HS0 : Bx (q2.cell? ⟨w.heap.size, 0, none⟩ = some (.string s0) ∧ q2.cell? ⟨w.heap.size, 1, none⟩ = some (.slice A0 l0.length c0) ∧ q2.cell? ⟨w.heap.size + 1, 0, none⟩ = some (.string s1) ∧ q2.cell? ⟨w.heap.size + 1, 1, none⟩ = some (.slice A1 l1.length c1) ∧ w.heap.size < q2.heap.size ∧ w.heap.size + 1 < q2.heap.size ∧ Below q2.heap.size q2 q2) := Bx.mk ⟨b0_x, b0_y, b1_x, b1_y, b0_l, b1_l, Below.refl _ _⟩
      clear b0_x b0_y b0_l b1_x b1_y b1_l
      go_region_held3 (fun W => W.cell? ⟨w.heap.size, 0, none⟩ = some (.string s0) ∧ W.cell? ⟨w.heap.size, 1, none⟩ = some (.slice A0 l0.length c0) ∧ W.cell? ⟨w.heap.size + 1, 0, none⟩ = some (.string s1) ∧ W.cell? ⟨w.heap.size + 1, 1, none⟩ = some (.slice A1 l1.length c1) ∧ w.heap.size < W.heap.size ∧ w.heap.size + 1 < W.heap.size ∧ Below q2.heap.size q2 W)
        (first | (with_reducible exact keepE (by assumption) hb4) | (with_reducible exact keepE (by assumption) (Below.refl _ _)) | (with_reducible exact keepE (by assumption) (Below.refl _ _).drew) | exact keepE HS0.out (Below.refl _ _).drew)
        (first | (go_at_call 12; (with_reducible refine (hcp0 _ (HI0.out.below (bel_up H2.out (by assumption)))).mono ?_); rintro r wc0 ⟨vc0, rfl, hoc, hb4⟩; obtain ⟨Ac0, cc0, rfl⟩ := own_len hoc; have HC0 := Bx.mk (PrsAt.own hoc); have hbc0 := hb4; clear hoc; have hS0 := keepE (w := q2) (by assumption) hb4) | (go_at_call 12; (with_reducible refine (hcp1 _ (HI1.out.below (bel_up H2.out (by assumption)))).mono ?_); rintro r wc1 ⟨vc1, rfl, hoc, hb4⟩; obtain ⟨Ac1, cc1, rfl⟩ := own_len hoc; have HC1 := Bx.mk (PrsAt.own hoc); have hbc1 := hb4; clear hoc; have hS0 := keepE (w := q2) (by assumption) hb4) | (go_at_call 15; (with_reducible refine (hs _ _ _ (by first | (with_reducible exact HC0.out) | exact PrsAt.below (by exact HC0.out) hbc1 | exact HC0.out) (by first | (with_reducible exact HC1.out) | exact PrsAt.below (by exact HC1.out) hbc0 | exact HC1.out)).mono ?_); rintro r wm ⟨rfl, hb4⟩; have hS0 := keepE (w := q2) (by assumption) hb4))
      all_goals
        obtain ⟨q3, hq, hb⟩ : ∃ q, q = _ ∧ Below q2.heap.size q2 q := ⟨_, rfl, (by assumption : _ ∧ _ ∧ _ ∧ _ ∧ _ ∧ _ ∧ _).2.2.2.2.2.2⟩
        rw [← hq]
        clear hq HS0
        have H3 := Bx.mk (H2.out.below hb)
        have SZ3 : Bx (q2.heap.size ≤ q3.heap.size) := Bx.mk hb.size
        clear H2
        have b0_x := H3.out.get (g := w.heap.size) (k := 0) (v := .string s0) (by simp)
        have b0_y := H3.out.get (g := w.heap.size) (k := 1) (v := .slice A0 l0.length c0) (by simp)
        have b0_l := H3.out.lt (g := w.heap.size) (k := 1) (v := .slice A0 l0.length c0) (by simp)
        have b1_x := H3.out.get (g := w.heap.size + 1) (k := 0) (v := .string s1) (by simp)
        have b1_y := H3.out.get (g := w.heap.size + 1) (k := 1) (v := .slice A1 l1.length c1) (by simp)
        have b1_l := H3.out.lt (g := w.heap.size + 1) (k := 1) (v := .slice A1 l1.length c1) (by simp)
        clear hb
        go_wp2_with (fail)
        refine (hcp0 _ (HI0.out.below (H3.out).2)).mono ?_
        rintro e4 q4 ⟨vb0, rfl, ho, hb⟩
        obtain ⟨Ab0, cb0, rfl⟩ := own_len ho
        have H4 := Bx.mk (H3.out.below hb)
        have SZ4 : Bx (q3.heap.size ≤ q4.heap.size) := Bx.mk hb.size
        have Ob0_4 := Bx.mk ho
        have Ub0 := Bx.mk (own_hi ho)
        clear H3 b0_x b0_y b0_l b1_x b1_y b1_l
        have b0_x := H4.out.get (g := w.heap.size) (k := 0) (v := .string s0) (by simp)
        have b0_y := H4.out.get (g := w.heap.size) (k := 1) (v := .slice A0 l0.length c0) (by simp)
        have b0_l := H4.out.lt (g := w.heap.size) (k := 1) (v := .slice A0 l0.length c0) (by simp)
        have b1_x := H4.out.get (g := w.heap.size + 1) (k := 0) (v := .string s1) (by simp)
        have b1_y := H4.out.get (g := w.heap.size + 1) (k := 1) (v := .slice A1 l1.length c1) (by simp)
        have b1_l := H4.out.lt (g := w.heap.size + 1) (k := 1) (v := .slice A1 l1.length c1) (by simp)
        clear hb ho
        go_wp2_with (fail)
        refine (hcp1 _ (HI1.out.below ((H4.out.pair (.string s0) (.slice Ab0 l0.length cb0) _ _)).2)).mono ?_
        rintro e5 q5 ⟨vb1, rfl, ho, hb⟩
        obtain ⟨Ab1, cb1, rfl⟩ := own_len ho
        have H5 := Bx.mk ((H4.out.pair (.string s0) (.slice Ab0 l0.length cb0) _ _).below hb)
        have SZ5 : Bx (q4.heap.size + 1 ≤ q5.heap.size) := Bx.mk (by have := hb.size; simp only [World.size_alloc] at this; omega)
        have Ob0_5 := Bx.mk (own_below (World.ownsRow.alloc Ob0_4.out _) hb)
        have Ob1_5 := Bx.mk (own_down2 (b1 := q4.heap.size) (by go_size) ho)
        have Ub1 := Bx.mk (own_hi ho)
        clear H4 Ob0_4 b0_x b0_y b0_l b1_x b1_y b1_l
        have b0_x := H5.out.get (g := w.heap.size) (k := 0) (v := .string s0) (by simp)
        have b0_y := H5.out.get (g := w.heap.size) (k := 1) (v := .slice A0 l0.length c0) (by simp)
        have b0_l := H5.out.lt (g := w.heap.size) (k := 1) (v := .slice A0 l0.length c0) (by simp)
        have b1_x := H5.out.get (g := w.heap.size + 1) (k := 0) (v := .string s1) (by simp)
        have b1_y := H5.out.get (g := w.heap.size + 1) (k := 1) (v := .slice A1 l1.length c1) (by simp)
        have b1_l := H5.out.lt (g := w.heap.size + 1) (k := 1) (v := .slice A1 l1.length c1) (by simp)
        have b2_x := H5.out.get (g := q4.heap.size) (k := 0) (v := .string s0) (by simp)
        have b2_y := H5.out.get (g := q4.heap.size) (k := 1) (v := .slice Ab0 l0.length cb0) (by simp)
        have b2_l := H5.out.lt (g := q4.heap.size) (k := 1) (v := .slice Ab0 l0.length cb0) (by simp)
        clear hb ho
        go_wp2_with (fail)
        refine (hi _ _ _ (PrsAt.own (World.ownsRow.alloc Ob0_5.out _)) (PrsAt.own (World.ownsRow.alloc Ob1_5.out _))).mono ?_
        rintro e6 q6 ⟨rfl, hb⟩
        have H6 := Bx.mk ((H5.out.pair (.string s1) (.slice Ab1 l1.length cb1) _ _).below hb)
        have SZ6 : Bx (q5.heap.size + 1 ≤ q6.heap.size) := Bx.mk (by have := hb.size; simp only [World.size_alloc] at this; omega)
        have Ob0_6 := Bx.mk (own_below (World.ownsRow.alloc Ob0_5.out _) hb)
        have Ob1_6 := Bx.mk (own_below (World.ownsRow.alloc Ob1_5.out _) hb)
        clear H5 Ob0_5 Ob1_5 b0_x b0_y b0_l b1_x b1_y b1_l b2_x b2_y b2_l
        have b0_x := H6.out.get (g := w.heap.size) (k := 0) (v := .string s0) (by simp)
        have b0_y := H6.out.get (g := w.heap.size) (k := 1) (v := .slice A0 l0.length c0) (by simp)
        have b0_l := H6.out.lt (g := w.heap.size) (k := 1) (v := .slice A0 l0.length c0) (by simp)
        have b1_x := H6.out.get (g := w.heap.size + 1) (k := 0) (v := .string s1) (by simp)
        have b1_y := H6.out.get (g := w.heap.size + 1) (k := 1) (v := .slice A1 l1.length c1) (by simp)
        have b1_l := H6.out.lt (g := w.heap.size + 1) (k := 1) (v := .slice A1 l1.length c1) (by simp)
        have b2_x := H6.out.get (g := q4.heap.size) (k := 0) (v := .string s0) (by simp)
        have b2_y := H6.out.get (g := q4.heap.size) (k := 1) (v := .slice Ab0 l0.length cb0) (by simp)
        have b2_l := H6.out.lt (g := q4.heap.size) (k := 1) (v := .slice Ab0 l0.length cb0) (by simp)
        have b3_x := H6.out.get (g := q5.heap.size) (k := 0) (v := .string s1) (by simp)
        have b3_y := H6.out.get (g := q5.heap.size) (k := 1) (v := .slice Ab1 l1.length cb1) (by simp)
        have b3_l := H6.out.lt (g := q5.heap.size) (k := 1) (v := .slice Ab1 l1.length cb1) (by simp)
        clear hb
        go_wp2_with (fail)
        have HS0 : Bx (q6.cell? ⟨q4.heap.size, 0, none⟩ = some (.string s0) ∧ q6.cell? ⟨q4.heap.size, 1, none⟩ = some (.slice Ab0 l0.length cb0) ∧ q6.cell? ⟨w.heap.size, 0, none⟩ = some (.string s0) ∧ q6.cell? ⟨w.heap.size, 1, none⟩ = some (.slice A0 l0.length c0) ∧ q4.heap.size < q6.heap.size ∧ w.heap.size < q6.heap.size ∧ Below q6.heap.size q6 q6) := Bx.mk ⟨b2_x, b2_y, b0_x, b0_y, b2_l, b0_l, Below.refl _ _⟩
        have HBr := Bx.mk (PrsAt.own Ob0_6.out)
        clear b0_x b0_y b0_l b1_x b1_y b1_l b2_x b2_y b2_l b3_x b3_y b3_l
        go_region_held3 (fun W => W.cell? ⟨q4.heap.size, 0, none⟩ = some (.string s0) ∧ W.cell? ⟨q4.heap.size, 1, none⟩ = some (.slice Ab0 l0.length cb0) ∧ W.cell? ⟨w.heap.size, 0, none⟩ = some (.string s0) ∧ W.cell? ⟨w.heap.size, 1, none⟩ = some (.slice A0 l0.length c0) ∧ q4.heap.size < W.heap.size ∧ w.heap.size < W.heap.size ∧ Below q6.heap.size q6 W)
          (first | (with_reducible exact keepE (by assumption) hb4) | (with_reducible exact keepE (by assumption) (Below.refl _ _)) | (with_reducible exact keepE (by assumption) (Below.refl _ _).drew) | exact keepE HS0.out (Below.refl _ _).drew)
          (first | (go_at_call 12; (with_reducible refine (hcp0 _ (HI0.out.below (bel_up H6.out (by assumption)))).mono ?_); rintro r w4 ⟨vc, rfl, ho, hb4⟩; obtain ⟨Acx, ccx, rfl⟩ := own_len ho; have HC := Bx.mk (PrsAt.own ho); clear ho; have hS0 := keepE (w := q6) (by assumption) hb4) | (go_at_call 14; (with_reducible refine (heq0 _ _ _ (HBr.out.below (bel_of (q := q6) (by assumption))) (by first | (with_reducible exact HC.out) | (with_reducible exact HC.out.below (Below.refl _ _).drew) | exact HC.out)).mono ?_); rintro r w5 ⟨rfl, hb4⟩; have hS0 := keepE (w := q6) (by assumption) hb4))
        all_goals
          obtain ⟨q7, hq, hb⟩ : ∃ q, q = _ ∧ Below q6.heap.size q6 q := ⟨_, rfl, (by assumption : _ ∧ _ ∧ _ ∧ _ ∧ _ ∧ _ ∧ _).2.2.2.2.2.2⟩
          rw [← hq]
          clear hq HBr HS0
          have H7 := Bx.mk (H6.out.below hb)
          have SZ7 : Bx (q6.heap.size ≤ q7.heap.size) := Bx.mk hb.size
          have Ob0_7 := Bx.mk (own_below Ob0_6.out hb)
          have Ob1_7 := Bx.mk (own_below Ob1_6.out hb)
          clear H6 Ob0_6 Ob1_6
          have b0_x := H7.out.get (g := w.heap.size) (k := 0) (v := .string s0) (by simp)
          have b0_y := H7.out.get (g := w.heap.size) (k := 1) (v := .slice A0 l0.length c0) (by simp)
          have b0_l := H7.out.lt (g := w.heap.size) (k := 1) (v := .slice A0 l0.length c0) (by simp)
          have b1_x := H7.out.get (g := w.heap.size + 1) (k := 0) (v := .string s1) (by simp)
          have b1_y := H7.out.get (g := w.heap.size + 1) (k := 1) (v := .slice A1 l1.length c1) (by simp)
          have b1_l := H7.out.lt (g := w.heap.size + 1) (k := 1) (v := .slice A1 l1.length c1) (by simp)
          have b2_x := H7.out.get (g := q4.heap.size) (k := 0) (v := .string s0) (by simp)
          have b2_y := H7.out.get (g := q4.heap.size) (k := 1) (v := .slice Ab0 l0.length cb0) (by simp)
          have b2_l := H7.out.lt (g := q4.heap.size) (k := 1) (v := .slice Ab0 l0.length cb0) (by simp)
          have b3_x := H7.out.get (g := q5.heap.size) (k := 0) (v := .string s1) (by simp)
          have b3_y := H7.out.get (g := q5.heap.size) (k := 1) (v := .slice Ab1 l1.length cb1) (by simp)
          have b3_l := H7.out.lt (g := q5.heap.size) (k := 1) (v := .slice Ab1 l1.length cb1) (by simp)
          clear hb
          go_wp2_with (fail)
          have HS0 : Bx (q7.cell? ⟨q5.heap.size, 0, none⟩ = some (.string s1) ∧ q7.cell? ⟨q5.heap.size, 1, none⟩ = some (.slice Ab1 l1.length cb1) ∧ q7.cell? ⟨w.heap.size + 1, 0, none⟩ = some (.string s1) ∧ q7.cell? ⟨w.heap.size + 1, 1, none⟩ = some (.slice A1 l1.length c1) ∧ q5.heap.size < q7.heap.size ∧ w.heap.size + 1 < q7.heap.size ∧ Below q7.heap.size q7 q7) := Bx.mk ⟨b3_x, b3_y, b1_x, b1_y, b3_l, b1_l, Below.refl _ _⟩
          have HBr := Bx.mk (PrsAt.own Ob1_7.out)
          clear b0_x b0_y b0_l b1_x b1_y b1_l b2_x b2_y b2_l b3_x b3_y b3_l
          go_region_held3 (fun W => W.cell? ⟨q5.heap.size, 0, none⟩ = some (.string s1) ∧ W.cell? ⟨q5.heap.size, 1, none⟩ = some (.slice Ab1 l1.length cb1) ∧ W.cell? ⟨w.heap.size + 1, 0, none⟩ = some (.string s1) ∧ W.cell? ⟨w.heap.size + 1, 1, none⟩ = some (.slice A1 l1.length c1) ∧ q5.heap.size < W.heap.size ∧ w.heap.size + 1 < W.heap.size ∧ Below q7.heap.size q7 W)
            (first | (with_reducible exact keepE (by assumption) hb4) | (with_reducible exact keepE (by assumption) (Below.refl _ _)) | (with_reducible exact keepE (by assumption) (Below.refl _ _).drew) | exact keepE HS0.out (Below.refl _ _).drew)
            (first | (go_at_call 12; (with_reducible refine (hcp1 _ (HI1.out.below (bel_up H7.out (by assumption)))).mono ?_); rintro r w4 ⟨vc, rfl, ho, hb4⟩; obtain ⟨Acx, ccx, rfl⟩ := own_len ho; have HC := Bx.mk (PrsAt.own ho); clear ho; have hS0 := keepE (w := q7) (by assumption) hb4) | (go_at_call 14; (with_reducible refine (heq1 _ _ _ (HBr.out.below (bel_of (q := q7) (by assumption))) (by first | (with_reducible exact HC.out) | (with_reducible exact HC.out.below (Below.refl _ _).drew) | exact HC.out)).mono ?_); rintro r w5 ⟨rfl, hb4⟩; have hS0 := keepE (w := q7) (by assumption) hb4))
          all_goals
            obtain ⟨q8, hq, hb⟩ : ∃ q, q = _ ∧ Below q7.heap.size q7 q := ⟨_, rfl, (by assumption : _ ∧ _ ∧ _ ∧ _ ∧ _ ∧ _ ∧ _).2.2.2.2.2.2⟩
            rw [← hq]
            clear hq HBr HS0
            have H8 := Bx.mk (H7.out.below hb)
            have SZ8 : Bx (q7.heap.size ≤ q8.heap.size) := Bx.mk hb.size
            have Ob0_8 := Bx.mk (own_below Ob0_7.out hb)
            have Ob1_8 := Bx.mk (own_below Ob1_7.out hb)
            clear H7 Ob0_7 Ob1_7
            have b0_x := H8.out.get (g := w.heap.size) (k := 0) (v := .string s0) (by simp)
            have b0_y := H8.out.get (g := w.heap.size) (k := 1) (v := .slice A0 l0.length c0) (by simp)
            have b0_l := H8.out.lt (g := w.heap.size) (k := 1) (v := .slice A0 l0.length c0) (by simp)
            have b1_x := H8.out.get (g := w.heap.size + 1) (k := 0) (v := .string s1) (by simp)
            have b1_y := H8.out.get (g := w.heap.size + 1) (k := 1) (v := .slice A1 l1.length c1) (by simp)
            have b1_l := H8.out.lt (g := w.heap.size + 1) (k := 1) (v := .slice A1 l1.length c1) (by simp)
            have b2_x := H8.out.get (g := q4.heap.size) (k := 0) (v := .string s0) (by simp)
            have b2_y := H8.out.get (g := q4.heap.size) (k := 1) (v := .slice Ab0 l0.length cb0) (by simp)
            have b2_l := H8.out.lt (g := q4.heap.size) (k := 1) (v := .slice Ab0 l0.length cb0) (by simp)
            have b3_x := H8.out.get (g := q5.heap.size) (k := 0) (v := .string s1) (by simp)
            have b3_y := H8.out.get (g := q5.heap.size) (k := 1) (v := .slice Ab1 l1.length cb1) (by simp)
            have b3_l := H8.out.lt (g := q5.heap.size) (k := 1) (v := .slice Ab1 l1.length cb1) (by simp)
            clear hb
            go_wp2_with (fail)
            go_ret
            exact ⟨rfl, (H8.out).2⟩

theorem own : ownKnob Try.prog.godebug = none := by kernel_rfl
theorem laidOut : laidOutB Try.prog = true := by kernel_rfl

set_option maxRecDepth 100000 in
theorem lifted (os : Os) (started : os.Started) (H : Type) (enc : TypeId × Value → H) :
    ReturnsInHanded {} Try.checked os 4 .any (Rows.fnExactSameTuningSpec.pre6 enc Try.prog Try.f4 Rows.fnExactSameTuningRow.domain false) (Rows.fnExactSameTuningSpec.post enc Try.prog Try.f4 false true false false) := by
  refine returnsInHanded_of_change (C := Try.checked) own started (by kernel_rfl) Try.func4
    (ChangeSpec.witness6 (enc := enc) (C := Try.checked) false ⟨#[], #[.agg #[.string ⟨#[]⟩, .slice none 0 0], .agg #[.string ⟨#[]⟩, .slice none 0 0]], []⟩ 8 (by kernel_rfl) (by kernel_rfl) (by kernel_rfl) (by kernel_rfl)) ?_
  intro W base args ds gs before hval0 hW hcnd _
  have hval : ∀ (j : Nat) t v, Try.f4.params[j]? = some t → args[j]? = some v → Value.okWide Try.prog W .any base t v := hval0
  have hW' := hW
  obtain ⟨p, q, hA0, hV, rfl, hfz, hnd⟩ := hW
  have hA : DataW.TrodAll enc Try.prog W 0 (fun _ => true) true Try.f4.params.toList args.toList ds p := hA0
  rw [Try.params4] at hA hval
  obtain ⟨v0, vs0, d0, ds0, p0, q0, hargs, rfl, rfl, h0, r0⟩ := trodAll_cons hA
  obtain ⟨v1, vs1, d1, ds1, p1, q1, rfl, rfl, rfl, h1, r1⟩ := trodAll_cons r0
  obtain ⟨rfl, rfl, rfl⟩ := trodAll_nil r1
  obtain rfl : args = #[v0, v1] := by cases args; simp_all
  obtain ⟨rfl, rfl⟩ := trodVars_none hV
  obtain ⟨s0, u0, l0, rfl, w0⟩ := arg_tun (hval 0 24 v0 rfl rfl) h0 (fun x hx => hW'.lt x (by simp [hx]))
  obtain ⟨s1, u1, l1, rfl, w1⟩ := arg_tun (hval 1 24 v1 rfl rfl) h1 (fun x hx => hW'.lt x (by simp [hx]))
  clear hA0 hval0
  refine (walk s0 u0 l0 w0 s1 u1 l1 w1).mono fun e W' ⟨he, hb⟩ => ?_
  subst he
  exact ⟨_, rfl, post_law laidOut (by kernel_rfl) (by kernel_rfl) Try.underlying4 rfl hW' rfl hb⟩

theorem closed : joinedFacts Try.pinned.checked.prog 4 Try.f4 Rows.fnExactSameTuningSpec Rows.fnExactSameTuningRow = true := by
  unfold joinedFacts
  rw [may, lifts, made]
  kernel_rfl
theorem over : Rows.fnExactSameTuningRow.holds Try.pinned (OpenSpec.ofChange Rows.fnExactSameTuningSpec) :=
  OpenClaim.holds_of_wide 4 Try.f4 rfl rfl rfl rfl rfl rfl rfl ⟨rfl, rfl, rfl, rfl, rfl⟩ rfl rfl rfl rfl rfl (by kernel_rfl) Try.func4 closed
    (of_decide_eq_true (by kernel_rfl)) (by unfold Func.isWrapper; first | (rw [if_pos (by decide +kernel)]; kernel_rfl) | (rw [if_neg (by decide +kernel)]; exact ⟨rfl, rfl⟩))
    (fun os started H enc _ => lifted os started H enc)

theorem proved : Rows.FnExactSameTuningSaid := over
#print axioms proved
end Go.Proofs.Ytbnhcacjlkmfeaa.fnExactSameTuning
