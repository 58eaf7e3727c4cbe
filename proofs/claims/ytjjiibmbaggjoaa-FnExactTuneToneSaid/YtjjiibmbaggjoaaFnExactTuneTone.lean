/- 'laws.FnExactTuneTone' returns true at every input: TuneTone on both sides is one function (tuneE, tuS). -/
import Derived.Test.YtjjiibmbaggjoaaTuG
import Derived.Test.YtjjiibmbaggjoaaRat
import Derived.Test.YtjjiibmbaggjoaaTu17c
import Derived.Test.YtjjiibmbaggjoaaTi14y
import Derived.Test.YtjjiibmbaggjoaaTuLaw2
namespace Go.Proofs.Ytjjiibmbaggjoaa.fnExactTuneTone
open Go.ChangeShapes Go.WideShapes Go.ChangeAt Go.RowKit
set_option linter.unusedVariables false
set_option linter.unusedSimpArgs false
set_option maxRecDepth 100000

set_option maxHeartbeats 8000000 in
theorem walk (s0 : ByteArray) (u0 : Value) (l0 : List (Int × Int)) {w : World} (w0 : PrsAt w u0 l0 ∧ s0.size ≤ maxLen ∧ l0.length ≤ 9223372036854775807) (a1 : Int) (w1 : (Lit.int .i64 a1).wf = true) (n2 m2 : Int) (w2 : Bx ((-9223372036854775808 ≤ n2 ∧ n2 ≤ 9223372036854775807) ∧ (-9223372036854775808 ≤ m2 ∧ m2 ≤ 9223372036854775807))) :
    Calls Try.prog 14 #[tun s0 u0, .int .i64 a1, rat n2 m2] w fun e w' => e = .returned (.bool true) ∧ Below w.heap.size w w' := by
  obtain ⟨hi0, hs0, hm0⟩ := w0
  obtain ⟨A0, c0, rfl⟩ := prs_len hi0
  have HI0 := Bx.mk hi0
  clear hi0
  have H0 := Bx.mk (Holds.start w)
  simp only [tun, rat]
  rcases szT_ways s0 l0 1048576 with hz0 | ⟨hz0, hzb0⟩
  · have hsz0 := fun W h => sz_tun s0 (.slice A0 l0.length c0) l0 1048576 W h (by omega) hs0 hm0
    rw [hz0] at hsz0
    simp only [tun] at hsz0
    go_enter Try.func14, Try.ntmps14
    go_wp2_with (fail)
    refine (hsz0 _ (HI0.out.below (((H0.out.pair (.string s0) (.slice A0 l0.length c0) _ _).pair (.int .i64 n2) (.int .i64 m2) _ _)).2)).mono ?_
    rintro e1 q1 ⟨rfl, hb⟩
    have H1 := Bx.mk (((H0.out.pair (.string s0) (.slice A0 l0.length c0) _ _).pair (.int .i64 n2) (.int .i64 m2) _ _).below hb)
    have SZ1 : Bx (w.heap.size + 2 ≤ q1.heap.size) := Bx.mk (by have := hb.size; simp only [World.size_alloc] at this; omega)
    clear H0
    have b0_x := H1.out.get (g := w.heap.size) (k := 0) (v := .string s0) (by simp)
    have b0_y := H1.out.get (g := w.heap.size) (k := 1) (v := .slice A0 l0.length c0) (by simp)
    have b0_l := H1.out.lt (g := w.heap.size) (k := 1) (v := .slice A0 l0.length c0) (by simp)
    have b1_x := H1.out.get (g := w.heap.size + 1) (k := 0) (v := .int .i64 n2) (by simp)
    have b1_y := H1.out.get (g := w.heap.size + 1) (k := 1) (v := .int .i64 m2) (by simp)
    have b1_l := H1.out.lt (g := w.heap.size + 1) (k := 1) (v := .int .i64 m2) (by simp)
    clear hb
    go_wp2_with (fail)
    go_ret
    exact ⟨rfl, (H1.out).2⟩
  · have hsz0 := fun W h => sz_tun s0 (.slice A0 l0.length c0) l0 1048576 W h (by omega) hs0 hm0
    rw [hz0] at hsz0
    simp only [tun] at hsz0
    obtain ⟨z0, hzz0⟩ : ∃ z : Int, z = 1048576 - (s0.size : Int) - (l0.length : Int) := ⟨_, rfl⟩
    rw [← hzz0] at hsz0
    have hd0 : decide (z0 < 0) = false := decide_eq_false (by omega)
    have hn0 : l0.length ≤ 1048576 := by omega
    have hr0 : 0 ≤ z0 ∧ z0 ≤ 1048576 := by omega
    clear hzz0 hz0
    have hcp0 := fun W h => copy_tun s0 (.slice A0 l0.length c0) l0 W h (by omega)
    simp only [tun] at hcp0
    have heq0 := fun va vb W ha hb => eq_tun_same s0 va vb l0 W ha hb (by omega)
    simp only [tun] at heq0
    have hs := fun W (u0' : Value) (h0' : PrsAt W u0' l0) => spec_tunetone s0 u0' l0 a1 (n2, m2) W h0' hs0 (by omega)
    have hi := fun W (u0' : Value) (h0' : PrsAt W u0' l0) => impl_tunetone s0 u0' l0 a1 (n2, m2) W h0' hs0 (by omega)
    have HLn : ((tuneE s0.data.toList l0 a1 (n2, m2)).1.getD []).length ≤ 1048576 := by
      have h12 : ∀ s t p, ((tuneE s l0 t p).1.getD []).length ≤ l0.length := by
        intro s t p; unfold tuneE; split
        · split
          · split <;> simp
          · simp
        · simp
      exact Nat.le_trans (h12 _ _ _) hn0
    simp only [TunOut2E, tun] at hs hi
    generalize tuneE s0.data.toList l0 a1 (n2, m2) = E at hs hi HLn
    obtain ⟨o, cc⟩ := E
    dsimp only at hs hi HLn
    generalize tuS s0 (o, cc) = sS at hs hi
    generalize o.getD [] = ys at hs hi HLn
    have htr2 := fun W => law_toratio n2 m2 W
    have heqY := fun va vb W ha hb => eq_tun_same sS va vb ys W ha hb (by omega)
    have hmk0 := fun te W v base h => mark_tunE (te := te) s0 v l0 base 1 W h (by omega) (by omega) (by omega)
    have hmkY := fun te W v base h => mark_tunE (te := te) sS v ys base 1 W h (by omega) (by omega) (by omega)
    have hhdY := fun v W h => held_tun sS v ys.length 1 W h (by omega) (by omega) (by omega)
    simp only [tun, rat] at heqY hmk0 hmkY hhdY htr2
    have hdk : decide (1 + 2 * (l0.length : Int) < 0) = false := decide_eq_false (by omega)
    have hdy : decide (1 + 2 * (ys.length : Int) < 0) = false := decide_eq_false (by omega)
    go_enter Try.func14, Try.ntmps14
    go_wp2_with (fail)
    refine (hsz0 _ (HI0.out.below (((H0.out.pair (.string s0) (.slice A0 l0.length c0) _ _).pair (.int .i64 n2) (.int .i64 m2) _ _)).2)).mono ?_
    rintro e1 q1 ⟨rfl, hb⟩
    have H1 := Bx.mk (((H0.out.pair (.string s0) (.slice A0 l0.length c0) _ _).pair (.int .i64 n2) (.int .i64 m2) _ _).below hb)
    have SZ1 : Bx (w.heap.size + 2 ≤ q1.heap.size) := Bx.mk (by have := hb.size; simp only [World.size_alloc] at this; omega)
    clear H0
    have b0_x := H1.out.get (g := w.heap.size) (k := 0) (v := .string s0) (by simp)
    have b0_y := H1.out.get (g := w.heap.size) (k := 1) (v := .slice A0 l0.length c0) (by simp)
    have b0_l := H1.out.lt (g := w.heap.size) (k := 1) (v := .slice A0 l0.length c0) (by simp)
    have b1_x := H1.out.get (g := w.heap.size + 1) (k := 0) (v := .int .i64 n2) (by simp)
    have b1_y := H1.out.get (g := w.heap.size + 1) (k := 1) (v := .int .i64 m2) (by simp)
    have b1_l := H1.out.lt (g := w.heap.size + 1) (k := 1) (v := .int .i64 m2) (by simp)
    clear hb
    go_wp2_with (fail)
    go_cut [8, 9] from 18 (fun p c wx => ∃ (g te : Nat) (v : Value), p = .pointer (some ⟨g, 0, none⟩) ∧ c = .int .i64 cc ∧ ResT q1 g te sS v ys wx)
    case first =>
      have HS0 : Bx (q1.cell? ⟨w.heap.size, 0, none⟩ = some (.string s0) ∧ q1.cell? ⟨w.heap.size, 1, none⟩ = some (.slice A0 l0.length c0) ∧ q1.cell? ⟨w.heap.size + 1, 0, none⟩ = some (.int .i64 n2) ∧ q1.cell? ⟨w.heap.size + 1, 1, none⟩ = some (.int .i64 m2) ∧ w.heap.size < q1.heap.size ∧ w.heap.size + 1 < q1.heap.size ∧ Below q1.heap.size q1 q1) := Bx.mk ⟨b0_x, b0_y, b1_x, b1_y, b0_l, b1_l, Below.refl _ _⟩
      have HL0 : Bx (w.heap.size < q1.heap.size ∧ w.heap.size + 1 < q1.heap.size) := Bx.mk ⟨b0_l, b1_l⟩
      clear b0_x b0_y b0_l b1_x b1_y b1_l
      go_region_held3 (fun W => W.cell? ⟨w.heap.size, 0, none⟩ = some (.string s0) ∧ W.cell? ⟨w.heap.size, 1, none⟩ = some (.slice A0 l0.length c0) ∧ W.cell? ⟨w.heap.size + 1, 0, none⟩ = some (.int .i64 n2) ∧ W.cell? ⟨w.heap.size + 1, 1, none⟩ = some (.int .i64 m2) ∧ w.heap.size < W.heap.size ∧ w.heap.size + 1 < W.heap.size ∧ Below q1.heap.size q1 W)
        (first | (with_reducible exact keepE (by assumption) hb4) | (with_reducible exact keepE (by assumption) (Below.refl _ _)) | (with_reducible exact keepE (by assumption) ((Below.refl _ _).alloc (Nat.le_refl _) _)) | (with_reducible exact keepE (by assumption) (Below.refl _ _).drew) | exact keepE HS0.out (Below.refl _ _).drew | exact keepEs HL0.out (keepEs HL0.out (by assumption) (by first | (with_reducible exact (bel_of (q := q1) (W := wy0) (by assumption)).size) | (with_reducible exact (bel_of (q := q1) (W := wy1) (by assumption)).size) | (with_reducible exact (bel_of (q := q1) (W := wy2) (by assumption)).size) | exact Nat.le_refl _)) (by first | (with_reducible exact (bel_of (q := q1) (W := wy0) (by assumption)).size) | (with_reducible exact (bel_of (q := q1) (W := wy1) (by assumption)).size) | (with_reducible exact (bel_of (q := q1) (W := wy2) (by assumption)).size) | exact Nat.le_refl _))
        (first | (go_at_call 47; (with_reducible refine (hcp0 _ (HI0.out.below (bel_up H1.out (by assumption)))).mono ?_); rintro r wy0 ⟨vc0, rfl, hoc, hb4⟩; obtain ⟨Ac0, cc0, rfl⟩ := own_len hoc; have HC0 := Bx.mk (PrsAt.own hoc); have hbc0 := hb4; clear hoc; obtain ⟨hc0, hf0, hm0⟩ := bcel3' hb4; have hz0 := hb4.size; have hS0 := keepE (w := q1) (by assumption) hb4) | (go_at_call 48; (with_reducible refine (htr2 _).mono ?_); rintro r wy1 ⟨rfl, hb4⟩; have hbc2 := hb4; obtain ⟨hc1, hf1, hm1⟩ := bcel3' hb4; have hz1 := hb4.size; have hm10 := (fun x h => hm1 x (Nat.lt_of_lt_of_le (hm0 x h) (by simp))); have hS1 := keepE (w := q1) (by assumption) hb4) | (go_at_call 46; (with_reducible refine (hs _ _ (by first | (with_reducible exact HC0.out) | exact PrsAt.below (by exact HC0.out) hbc2 | exact PrsAt.below (by exact HC0.out) ((Below.refl _ _).alloc (Nat.le_refl _) _) | exact PrsAt.below (PrsAt.below (by exact HC0.out) hbc2) ((Below.refl _ _).alloc (Nat.le_refl _) _) | exact PrsAt.below (PrsAt.below (by exact HC0.out) ((Below.refl _ _).alloc (Nat.le_refl _) _)) hbc2 | exact HC0.out)).mono ?_); rintro r wy2 ⟨tew, vw, rfl, ho, hb4⟩; obtain ⟨Aw, cw, rfl⟩ := own_len ho; unfold tun; have HOw := Bx.mk ho; have HBw := Bx.mk (own_down2 (b1 := q1.heap.size) (bel_of (q := q1) (by assumption)).size ho); clear ho; obtain ⟨hc2, hf2, hm2⟩ := bcel3' hb4; have hz2 := hb4.size; have hm21 := (fun x h => hm2 x (Nat.lt_of_lt_of_le (hm1 x h) (by simp))); have hm210 := (fun x h => hm2 x (Nat.lt_of_lt_of_le (hm10 x h) (by simp))); have hS2 := keepE (w := q1) (by assumption) hb4))
      all_goals
        go_wp2_with (fail)
        go_meet
        case rel =>
          refine ⟨_, tew, .slice Aw ys.length cw, rfl, rfl, ?_⟩
          have hBM := bel_of (q := q1) (W := wy2) (by assumption)
          first
          | exact resT_new HBw.out hBM
          | (refine resT_put (x0 := .string ⟨#[]⟩) (y0 := .slice none 0 0) ?_ ?_ (by first | (with_reducible exact (bel_of (q := q1) (W := wy0) (by assumption)).size) | (with_reducible exact (bel_of (q := q1) (W := wy1) (by assumption)).size) | (with_reducible exact (bel_of (q := q1) (W := wy2) (by assumption)).size) | exact Nat.le_refl _) HBw.out ?_ hBM
             · (go_simp; done)
             · (go_simp; done)
             · (intro k hk; have h1 := own_lo HOw.out k hk; have e0 : q1.drew.heap.size = q1.heap.size := rfl; have e1 : (q1.alloc (.cells #[.string ⟨#[]⟩, .slice none 0 0] 59)).drew.heap.size = q1.heap.size + 1 := World.size_alloc _ _; (try simp only [World.size_alloc] at h1); (try simp only [World.size_alloc] at hz0); (try simp only [World.size_alloc] at hz1); (try simp only [World.size_alloc] at hz2)
                omega))
    case rest =>
      obtain ⟨gw, tew, vw, rfl, rfl, hcut⟩ := hcut
      obtain ⟨q2, hqe⟩ : ∃ q, q = wc := ⟨_, rfl⟩
      subst hqe
      obtain ⟨Aw, cw, rfl⟩ := own_len hcut.own
      have H2 := Bx.mk (((H1.out.below hcut.bel).add hcut.c0).add hcut.c1)
      have SZ2 : Bx (q1.heap.size ≤ q2.heap.size ∧ q1.heap.size ≤ gw ∧ gw < q2.heap.size) := Bx.mk ⟨hcut.bel.size, hcut.lo, H2.out.lt (g := gw) (k := 0) (v := .string sS) (by simp)⟩
      have Ow_2 := Bx.mk hcut.own
      have Uw := Bx.mk (own_hi hcut.own)
      have NEw := Bx.mk hcut.ne
      clear H1 b0_x b0_y b0_l b1_x b1_y b1_l
      have b0_x := H2.out.get (g := w.heap.size) (k := 0) (v := .string s0) (by simp)
      have b0_y := H2.out.get (g := w.heap.size) (k := 1) (v := .slice A0 l0.length c0) (by simp)
      have b0_l := H2.out.lt (g := w.heap.size) (k := 1) (v := .slice A0 l0.length c0) (by simp)
      have b1_x := H2.out.get (g := w.heap.size + 1) (k := 0) (v := .int .i64 n2) (by simp)
      have b1_y := H2.out.get (g := w.heap.size + 1) (k := 1) (v := .int .i64 m2) (by simp)
      have b1_l := H2.out.lt (g := w.heap.size + 1) (k := 1) (v := .int .i64 m2) (by simp)
      have b2_x := H2.out.get (g := gw) (k := 0) (v := .string sS) (by simp)
      have b2_y := H2.out.get (g := gw) (k := 1) (v := .slice Aw ys.length cw) (by simp)
      have b2_l := H2.out.lt (g := gw) (k := 1) (v := .slice Aw ys.length cw) (by simp)
      clear hcut
      go_wp2_with (fail)
      refine (hcp0 _ (HI0.out.below (H2.out).2)).mono ?_
      rintro e3 q3 ⟨vb0, rfl, ho, hb⟩
      obtain ⟨Ab0, cb0, rfl⟩ := own_len ho
      have H3 := Bx.mk (H2.out.below hb)
      have SZ3 : Bx (q2.heap.size ≤ q3.heap.size) := Bx.mk hb.size
      have Ow_3 := Bx.mk (own_below Ow_2.out hb)
      have Ob0_3 := Bx.mk ho
      have Ub0 := Bx.mk (own_hi ho)
      clear H2 Ow_2 b0_x b0_y b0_l b1_x b1_y b1_l b2_x b2_y b2_l
      have b0_x := H3.out.get (g := w.heap.size) (k := 0) (v := .string s0) (by simp)
      have b0_y := H3.out.get (g := w.heap.size) (k := 1) (v := .slice A0 l0.length c0) (by simp)
      have b0_l := H3.out.lt (g := w.heap.size) (k := 1) (v := .slice A0 l0.length c0) (by simp)
      have b1_x := H3.out.get (g := w.heap.size + 1) (k := 0) (v := .int .i64 n2) (by simp)
      have b1_y := H3.out.get (g := w.heap.size + 1) (k := 1) (v := .int .i64 m2) (by simp)
      have b1_l := H3.out.lt (g := w.heap.size + 1) (k := 1) (v := .int .i64 m2) (by simp)
      have b2_x := H3.out.get (g := gw) (k := 0) (v := .string sS) (by simp)
      have b2_y := H3.out.get (g := gw) (k := 1) (v := .slice Aw ys.length cw) (by simp)
      have b2_l := H3.out.lt (g := gw) (k := 1) (v := .slice Aw ys.length cw) (by simp)
      clear hb ho
      go_wp2_with (fail)
      obtain ⟨q4, hq, hb⟩ : ∃ q, q = q3.alloc (.cells #[.string s0, .slice Ab0 l0.length cb0] 59) ∧ Below (q3.alloc (.cells #[.string s0, .slice Ab0 l0.length cb0] 59)).heap.size (q3.alloc (.cells #[.string s0, .slice Ab0 l0.length cb0] 59)) q := ⟨_, rfl, Below.refl _ _⟩
      rw [← hq]
      clear hq
      have H4 := Bx.mk ((H3.out.pair (.string s0) (.slice Ab0 l0.length cb0) _ _).below hb)
      have SZ4 : Bx (q3.heap.size + 1 ≤ q4.heap.size) := Bx.mk (by have := hb.size; simp only [World.size_alloc] at this; omega)
      have Ow_4 := Bx.mk (own_below (World.ownsRow.alloc Ow_3.out _) hb)
      have Ob0_4 := Bx.mk (own_below (World.ownsRow.alloc Ob0_3.out _) hb)
      clear H3 Ow_3 Ob0_3 b0_x b0_y b0_l b1_x b1_y b1_l b2_x b2_y b2_l
      have b0_x := H4.out.get (g := w.heap.size) (k := 0) (v := .string s0) (by simp)
      have b0_y := H4.out.get (g := w.heap.size) (k := 1) (v := .slice A0 l0.length c0) (by simp)
      have b0_l := H4.out.lt (g := w.heap.size) (k := 1) (v := .slice A0 l0.length c0) (by simp)
      have b1_x := H4.out.get (g := w.heap.size + 1) (k := 0) (v := .int .i64 n2) (by simp)
      have b1_y := H4.out.get (g := w.heap.size + 1) (k := 1) (v := .int .i64 m2) (by simp)
      have b1_l := H4.out.lt (g := w.heap.size + 1) (k := 1) (v := .int .i64 m2) (by simp)
      have b2_x := H4.out.get (g := gw) (k := 0) (v := .string sS) (by simp)
      have b2_y := H4.out.get (g := gw) (k := 1) (v := .slice Aw ys.length cw) (by simp)
      have b2_l := H4.out.lt (g := gw) (k := 1) (v := .slice Aw ys.length cw) (by simp)
      have b3_x := H4.out.get (g := q3.heap.size) (k := 0) (v := .string s0) (by simp)
      have b3_y := H4.out.get (g := q3.heap.size) (k := 1) (v := .slice Ab0 l0.length cb0) (by simp)
      have b3_l := H4.out.lt (g := q3.heap.size) (k := 1) (v := .slice Ab0 l0.length cb0) (by simp)
      clear hb
      try go_wp2_with (fail)
      have HBr := Bx.mk (PrsAt.own Ob0_4.out)
      go_cut [11, 12] from 18 (fun p c wx => ∃ (g te : Nat) (v : Value), p = .pointer (some ⟨g, 0, none⟩) ∧ c = .int .i64 cc ∧ ResT q4 g te sS v ys wx)
      case first =>
        have HS0 : Bx (q4.cell? ⟨q3.heap.size, 0, none⟩ = some (.string s0) ∧ q4.cell? ⟨q3.heap.size, 1, none⟩ = some (.slice Ab0 l0.length cb0) ∧ q4.cell? ⟨w.heap.size + 1, 0, none⟩ = some (.int .i64 n2) ∧ q4.cell? ⟨w.heap.size + 1, 1, none⟩ = some (.int .i64 m2) ∧ q3.heap.size < q4.heap.size ∧ w.heap.size + 1 < q4.heap.size ∧ Below q4.heap.size q4 q4) := Bx.mk ⟨b3_x, b3_y, b1_x, b1_y, b3_l, b1_l, Below.refl _ _⟩
        have HL0 : Bx (q3.heap.size < q4.heap.size ∧ w.heap.size + 1 < q4.heap.size) := Bx.mk ⟨b3_l, b1_l⟩
        clear b0_x b0_y b0_l b1_x b1_y b1_l b2_x b2_y b2_l b3_x b3_y b3_l
        go_region_held3 (fun W => W.cell? ⟨q3.heap.size, 0, none⟩ = some (.string s0) ∧ W.cell? ⟨q3.heap.size, 1, none⟩ = some (.slice Ab0 l0.length cb0) ∧ W.cell? ⟨w.heap.size + 1, 0, none⟩ = some (.int .i64 n2) ∧ W.cell? ⟨w.heap.size + 1, 1, none⟩ = some (.int .i64 m2) ∧ q3.heap.size < W.heap.size ∧ w.heap.size + 1 < W.heap.size ∧ Below q4.heap.size q4 W)
          (first | (with_reducible exact keepE (by assumption) hb4) | (with_reducible exact keepE (by assumption) (Below.refl _ _)) | (with_reducible exact keepE (by assumption) ((Below.refl _ _).alloc (Nat.le_refl _) _)) | (with_reducible exact keepE (by assumption) (Below.refl _ _).drew) | exact keepE HS0.out (Below.refl _ _).drew | exact keepEs HL0.out (keepEs HL0.out (by assumption) (by first | (with_reducible exact (bel_of (q := q4) (W := wy0) (by assumption)).size) | (with_reducible exact (bel_of (q := q4) (W := wy1) (by assumption)).size) | exact Nat.le_refl _)) (by first | (with_reducible exact (bel_of (q := q4) (W := wy0) (by assumption)).size) | (with_reducible exact (bel_of (q := q4) (W := wy1) (by assumption)).size) | exact Nat.le_refl _))
          (first | (go_at_call 48; (with_reducible refine (htr2 _).mono ?_); rintro r wy0 ⟨rfl, hb4⟩; have hbc2 := hb4; obtain ⟨hc0, hf0, hm0⟩ := bcel3' hb4; have hz0 := hb4.size; have hS0 := keepE (w := q4) (by assumption) hb4) | (go_at_call 49; (with_reducible refine (hi _ _ (HBr.out.below (bel_of (q := q4) (by assumption)))).mono ?_); rintro r wy1 ⟨teg, vg, rfl, ho, hb4⟩; obtain ⟨Ag, cg, rfl⟩ := own_len ho; unfold tun; have HOg := Bx.mk ho; have HBg := Bx.mk (own_down2 (b1 := q4.heap.size) (bel_of (q := q4) (by assumption)).size ho); clear ho; obtain ⟨hc1, hf1, hm1⟩ := bcel3' hb4; have hz1 := hb4.size; have hm10 := (fun x h => hm1 x (Nat.lt_of_lt_of_le (hm0 x h) (by simp))); have hS1 := keepE (w := q4) (by assumption) hb4))
        all_goals
          go_wp2_with (fail)
          go_meet
          case rel =>
            refine ⟨_, teg, .slice Ag ys.length cg, rfl, rfl, ?_⟩
            have hBM := bel_of (q := q4) (W := wy1) (by assumption)
            first
            | exact resT_new HBg.out hBM
            | (refine resT_put (x0 := .string ⟨#[]⟩) (y0 := .slice none 0 0) ?_ ?_ (by first | (with_reducible exact (bel_of (q := q4) (W := wy0) (by assumption)).size) | (with_reducible exact (bel_of (q := q4) (W := wy1) (by assumption)).size) | exact Nat.le_refl _) HBg.out ?_ hBM
               · (go_simp; done)
               · (go_simp; done)
               · (intro k hk; have h1 := own_lo HOg.out k hk; have e0 : q4.drew.heap.size = q4.heap.size := rfl; have e1 : (q4.alloc (.cells #[.string ⟨#[]⟩, .slice none 0 0] 59)).drew.heap.size = q4.heap.size + 1 := World.size_alloc _ _; (try simp only [World.size_alloc] at h1); (try simp only [World.size_alloc] at hz0); (try simp only [World.size_alloc] at hz1)
                  omega))
      case rest =>
        obtain ⟨gg, teg, vg, rfl, rfl, hcut⟩ := hcut
        obtain ⟨q5, hqe⟩ : ∃ q, q = wc := ⟨_, rfl⟩
        subst hqe
        obtain ⟨Ag, cg, rfl⟩ := own_len hcut.own
        have H5 := Bx.mk (((H4.out.below hcut.bel).add hcut.c0).add hcut.c1)
        have SZ5 : Bx (q4.heap.size ≤ q5.heap.size ∧ q4.heap.size ≤ gg ∧ gg < q5.heap.size) := Bx.mk ⟨hcut.bel.size, hcut.lo, H5.out.lt (g := gg) (k := 0) (v := .string sS) (by simp)⟩
        have Ow_5 := Bx.mk (own_below Ow_4.out hcut.bel)
        have Ob0_5 := Bx.mk (own_below Ob0_4.out hcut.bel)
        have Og_5 := Bx.mk hcut.own
        have Ug := Bx.mk (own_hi hcut.own)
        have NEg := Bx.mk hcut.ne
        clear H4 Ow_4 Ob0_4 b0_x b0_y b0_l b1_x b1_y b1_l b2_x b2_y b2_l b3_x b3_y b3_l
        have b0_x := H5.out.get (g := w.heap.size) (k := 0) (v := .string s0) (by simp)
        have b0_y := H5.out.get (g := w.heap.size) (k := 1) (v := .slice A0 l0.length c0) (by simp)
        have b0_l := H5.out.lt (g := w.heap.size) (k := 1) (v := .slice A0 l0.length c0) (by simp)
        have b1_x := H5.out.get (g := w.heap.size + 1) (k := 0) (v := .int .i64 n2) (by simp)
        have b1_y := H5.out.get (g := w.heap.size + 1) (k := 1) (v := .int .i64 m2) (by simp)
        have b1_l := H5.out.lt (g := w.heap.size + 1) (k := 1) (v := .int .i64 m2) (by simp)
        have b2_x := H5.out.get (g := gw) (k := 0) (v := .string sS) (by simp)
        have b2_y := H5.out.get (g := gw) (k := 1) (v := .slice Aw ys.length cw) (by simp)
        have b2_l := H5.out.lt (g := gw) (k := 1) (v := .slice Aw ys.length cw) (by simp)
        have b3_x := H5.out.get (g := q3.heap.size) (k := 0) (v := .string s0) (by simp)
        have b3_y := H5.out.get (g := q3.heap.size) (k := 1) (v := .slice Ab0 l0.length cb0) (by simp)
        have b3_l := H5.out.lt (g := q3.heap.size) (k := 1) (v := .slice Ab0 l0.length cb0) (by simp)
        have b4_x := H5.out.get (g := gg) (k := 0) (v := .string sS) (by simp)
        have b4_y := H5.out.get (g := gg) (k := 1) (v := .slice Ag ys.length cg) (by simp)
        have b4_l := H5.out.lt (g := gg) (k := 1) (v := .slice Ag ys.length cg) (by simp)
        clear hcut
        go_wp2_with (fail)
        clear HBr
        refine (heqY _ _ _ (prs_own Og_5.out) (prs_own Ow_5.out)).mono ?_
        rintro e6 q6 ⟨rfl, hb⟩
        have H6 := Bx.mk (H5.out.below hb)
        have SZ6 : Bx (q5.heap.size ≤ q6.heap.size) := Bx.mk hb.size
        have Ow_6 := Bx.mk (own_below Ow_5.out hb)
        have Ob0_6 := Bx.mk (own_below Ob0_5.out hb)
        have Og_6 := Bx.mk (own_below Og_5.out hb)
        clear H5 Ow_5 Ob0_5 Og_5 b0_x b0_y b0_l b1_x b1_y b1_l b2_x b2_y b2_l b3_x b3_y b3_l b4_x b4_y b4_l
        have b0_x := H6.out.get (g := w.heap.size) (k := 0) (v := .string s0) (by simp)
        have b0_y := H6.out.get (g := w.heap.size) (k := 1) (v := .slice A0 l0.length c0) (by simp)
        have b0_l := H6.out.lt (g := w.heap.size) (k := 1) (v := .slice A0 l0.length c0) (by simp)
        have b1_x := H6.out.get (g := w.heap.size + 1) (k := 0) (v := .int .i64 n2) (by simp)
        have b1_y := H6.out.get (g := w.heap.size + 1) (k := 1) (v := .int .i64 m2) (by simp)
        have b1_l := H6.out.lt (g := w.heap.size + 1) (k := 1) (v := .int .i64 m2) (by simp)
        have b2_x := H6.out.get (g := gw) (k := 0) (v := .string sS) (by simp)
        have b2_y := H6.out.get (g := gw) (k := 1) (v := .slice Aw ys.length cw) (by simp)
        have b2_l := H6.out.lt (g := gw) (k := 1) (v := .slice Aw ys.length cw) (by simp)
        have b3_x := H6.out.get (g := q3.heap.size) (k := 0) (v := .string s0) (by simp)
        have b3_y := H6.out.get (g := q3.heap.size) (k := 1) (v := .slice Ab0 l0.length cb0) (by simp)
        have b3_l := H6.out.lt (g := q3.heap.size) (k := 1) (v := .slice Ab0 l0.length cb0) (by simp)
        have b4_x := H6.out.get (g := gg) (k := 0) (v := .string sS) (by simp)
        have b4_y := H6.out.get (g := gg) (k := 1) (v := .slice Ag ys.length cg) (by simp)
        have b4_l := H6.out.lt (g := gg) (k := 1) (v := .slice Ag ys.length cg) (by simp)
        clear hb
        go_wp2_with (fail)
        have HS0 : Bx (q6.cell? ⟨q3.heap.size, 0, none⟩ = some (.string s0) ∧ q6.cell? ⟨q3.heap.size, 1, none⟩ = some (.slice Ab0 l0.length cb0) ∧ q6.cell? ⟨w.heap.size, 0, none⟩ = some (.string s0) ∧ q6.cell? ⟨w.heap.size, 1, none⟩ = some (.slice A0 l0.length c0) ∧ q3.heap.size < q6.heap.size ∧ w.heap.size < q6.heap.size ∧ Below q6.heap.size q6 q6) := Bx.mk ⟨b3_x, b3_y, b0_x, b0_y, b3_l, b0_l, Below.refl _ _⟩
        have HBr := Bx.mk (PrsAt.own Ob0_6.out)
        clear b0_x b0_y b0_l b1_x b1_y b1_l b2_x b2_y b2_l b3_x b3_y b3_l b4_x b4_y b4_l
        go_region_held3 (fun W => W.cell? ⟨q3.heap.size, 0, none⟩ = some (.string s0) ∧ W.cell? ⟨q3.heap.size, 1, none⟩ = some (.slice Ab0 l0.length cb0) ∧ W.cell? ⟨w.heap.size, 0, none⟩ = some (.string s0) ∧ W.cell? ⟨w.heap.size, 1, none⟩ = some (.slice A0 l0.length c0) ∧ q3.heap.size < W.heap.size ∧ w.heap.size < W.heap.size ∧ Below q6.heap.size q6 W)
          (first | (with_reducible exact keepE (by assumption) hb4) | (with_reducible exact keepE (by assumption) (Below.refl _ _)) | (with_reducible exact keepE (by assumption) (Below.refl _ _).drew) | exact keepE HS0.out (Below.refl _ _).drew)
          (first | (go_at_call 47; (with_reducible refine (hcp0 _ (HI0.out.below (bel_up H6.out (by assumption)))).mono ?_); rintro r w4 ⟨vc, rfl, ho, hb4⟩; obtain ⟨Acx, ccx, rfl⟩ := own_len ho; have HC := Bx.mk (PrsAt.own ho); clear ho; have hS0 := keepE (w := q6) (by assumption) hb4) | (go_at_call 50; (with_reducible refine (heq0 _ _ _ (HBr.out.below (bel_of (q := q6) (by assumption))) (by first | (with_reducible exact HC.out) | (with_reducible exact HC.out.below (Below.refl _ _).drew) | exact HC.out)).mono ?_); rintro r w5 ⟨rfl, hb4⟩; have hS0 := keepE (w := q6) (by assumption) hb4))
        all_goals
          obtain ⟨q7, hq, hb⟩ : ∃ q, q = _ ∧ Below q6.heap.size q6 q := ⟨_, rfl, (by assumption : _ ∧ _ ∧ _ ∧ _ ∧ _ ∧ _ ∧ _).2.2.2.2.2.2⟩
          rw [← hq]
          clear hq HBr HS0
          have H7 := Bx.mk (H6.out.below hb)
          have SZ7 : Bx (q6.heap.size ≤ q7.heap.size) := Bx.mk hb.size
          have Ow_7 := Bx.mk (own_below Ow_6.out hb)
          have Ob0_7 := Bx.mk (own_below Ob0_6.out hb)
          have Og_7 := Bx.mk (own_below Og_6.out hb)
          clear H6 Ow_6 Ob0_6 Og_6
          have b0_x := H7.out.get (g := w.heap.size) (k := 0) (v := .string s0) (by simp)
          have b0_y := H7.out.get (g := w.heap.size) (k := 1) (v := .slice A0 l0.length c0) (by simp)
          have b0_l := H7.out.lt (g := w.heap.size) (k := 1) (v := .slice A0 l0.length c0) (by simp)
          have b1_x := H7.out.get (g := w.heap.size + 1) (k := 0) (v := .int .i64 n2) (by simp)
          have b1_y := H7.out.get (g := w.heap.size + 1) (k := 1) (v := .int .i64 m2) (by simp)
          have b1_l := H7.out.lt (g := w.heap.size + 1) (k := 1) (v := .int .i64 m2) (by simp)
          have b2_x := H7.out.get (g := gw) (k := 0) (v := .string sS) (by simp)
          have b2_y := H7.out.get (g := gw) (k := 1) (v := .slice Aw ys.length cw) (by simp)
          have b2_l := H7.out.lt (g := gw) (k := 1) (v := .slice Aw ys.length cw) (by simp)
          have b3_x := H7.out.get (g := q3.heap.size) (k := 0) (v := .string s0) (by simp)
          have b3_y := H7.out.get (g := q3.heap.size) (k := 1) (v := .slice Ab0 l0.length cb0) (by simp)
          have b3_l := H7.out.lt (g := q3.heap.size) (k := 1) (v := .slice Ab0 l0.length cb0) (by simp)
          have b4_x := H7.out.get (g := gg) (k := 0) (v := .string sS) (by simp)
          have b4_y := H7.out.get (g := gg) (k := 1) (v := .slice Ag ys.length cg) (by simp)
          have b4_l := H7.out.lt (g := gg) (k := 1) (v := .slice Ag ys.length cg) (by simp)
          clear hb
          go_wp2_with (fail)
          refine (hmk0 _ _ _ _ Ob0_7.out).mono ?_
          rintro e8 q8 ⟨rfl, hm, hg⟩
          have LO := Bx.mk (own_lo Ob0_7.out)
          have H8 := Bx.mk ((H7.out.alloc _).grown hg (by
            intro p hp hk
            have h1 := LO.out _ hk
            have h2 := Ub0.out _ hk
            have := SZ1.out; have := SZ2.out; have := SZ3.out; have := SZ4.out; have := SZ5.out; have := SZ6.out; have := SZ7.out
            clear hg hm
            simp at hp
            rcases hp with rfl | rfl | rfl | rfl | rfl | rfl | rfl | rfl | rfl | rfl <;> (dsimp only at h1 h2; omega)
            ) (by intro b hb; have := LO.out b hb; have := SZ1.out; have := SZ2.out; have := SZ3.out; have := SZ4.out; have := SZ5.out; have := SZ6.out; have := SZ7.out; omega))
          have SZ8 : Bx (q7.heap.size + 1 ≤ q8.heap.size) := Bx.mk (by have := grown_size hg; simp only [World.size_alloc] at this; omega)
          have Ow_8 := Bx.mk (own_young (World.ownsRow.alloc Ow_7.out _) Uw.out Ob0_7.out (by have := SZ1.out; have := SZ2.out; have := SZ3.out; have := SZ4.out; have := SZ5.out; have := SZ6.out; have := SZ7.out; omega) hg)
          have Og_8 := Bx.mk (own_old (World.ownsRow.alloc Og_7.out _) Ub0.out (by have := SZ1.out; have := SZ2.out; have := SZ3.out; have := SZ4.out; have := SZ5.out; have := SZ6.out; have := SZ7.out; omega) hg)
          have Ob0_8 := Bx.mk hm
          clear LO hm hg H7 Ow_7 Ob0_7 Og_7 b0_x b0_y b0_l b1_x b1_y b1_l b2_x b2_y b2_l b3_x b3_y b3_l b4_x b4_y b4_l
          have b0_x := H8.out.get (g := w.heap.size) (k := 0) (v := .string s0) (by simp)
          have b0_y := H8.out.get (g := w.heap.size) (k := 1) (v := .slice A0 l0.length c0) (by simp)
          have b0_l := H8.out.lt (g := w.heap.size) (k := 1) (v := .slice A0 l0.length c0) (by simp)
          have b1_x := H8.out.get (g := w.heap.size + 1) (k := 0) (v := .int .i64 n2) (by simp)
          have b1_y := H8.out.get (g := w.heap.size + 1) (k := 1) (v := .int .i64 m2) (by simp)
          have b1_l := H8.out.lt (g := w.heap.size + 1) (k := 1) (v := .int .i64 m2) (by simp)
          have b2_x := H8.out.get (g := gw) (k := 0) (v := .string sS) (by simp)
          have b2_y := H8.out.get (g := gw) (k := 1) (v := .slice Aw ys.length cw) (by simp)
          have b2_l := H8.out.lt (g := gw) (k := 1) (v := .slice Aw ys.length cw) (by simp)
          have b3_x := H8.out.get (g := q3.heap.size) (k := 0) (v := .string s0) (by simp)
          have b3_y := H8.out.get (g := q3.heap.size) (k := 1) (v := .slice Ab0 l0.length cb0) (by simp)
          have b3_l := H8.out.lt (g := q3.heap.size) (k := 1) (v := .slice Ab0 l0.length cb0) (by simp)
          have b4_x := H8.out.get (g := gg) (k := 0) (v := .string sS) (by simp)
          have b4_y := H8.out.get (g := gg) (k := 1) (v := .slice Ag ys.length cg) (by simp)
          have b4_l := H8.out.lt (g := gg) (k := 1) (v := .slice Ag ys.length cg) (by simp)
          go_wp2_with (fail)
          refine (heqY _ _ _ (prs_own Og_8.out) (prs_own Ow_8.out)).mono ?_
          rintro e9 q9 ⟨rfl, hb⟩
          have H9 := Bx.mk (H8.out.below hb)
          have SZ9 : Bx (q8.heap.size ≤ q9.heap.size) := Bx.mk hb.size
          have Ow_9 := Bx.mk (own_below Ow_8.out hb)
          have Ob0_9 := Bx.mk (own_below Ob0_8.out hb)
          have Og_9 := Bx.mk (own_below Og_8.out hb)
          clear H8 Ow_8 Ob0_8 Og_8 b0_x b0_y b0_l b1_x b1_y b1_l b2_x b2_y b2_l b3_x b3_y b3_l b4_x b4_y b4_l
          have b0_x := H9.out.get (g := w.heap.size) (k := 0) (v := .string s0) (by simp)
          have b0_y := H9.out.get (g := w.heap.size) (k := 1) (v := .slice A0 l0.length c0) (by simp)
          have b0_l := H9.out.lt (g := w.heap.size) (k := 1) (v := .slice A0 l0.length c0) (by simp)
          have b1_x := H9.out.get (g := w.heap.size + 1) (k := 0) (v := .int .i64 n2) (by simp)
          have b1_y := H9.out.get (g := w.heap.size + 1) (k := 1) (v := .int .i64 m2) (by simp)
          have b1_l := H9.out.lt (g := w.heap.size + 1) (k := 1) (v := .int .i64 m2) (by simp)
          have b2_x := H9.out.get (g := gw) (k := 0) (v := .string sS) (by simp)
          have b2_y := H9.out.get (g := gw) (k := 1) (v := .slice Aw ys.length cw) (by simp)
          have b2_l := H9.out.lt (g := gw) (k := 1) (v := .slice Aw ys.length cw) (by simp)
          have b3_x := H9.out.get (g := q3.heap.size) (k := 0) (v := .string s0) (by simp)
          have b3_y := H9.out.get (g := q3.heap.size) (k := 1) (v := .slice Ab0 l0.length cb0) (by simp)
          have b3_l := H9.out.lt (g := q3.heap.size) (k := 1) (v := .slice Ab0 l0.length cb0) (by simp)
          have b4_x := H9.out.get (g := gg) (k := 0) (v := .string sS) (by simp)
          have b4_y := H9.out.get (g := gg) (k := 1) (v := .slice Ag ys.length cg) (by simp)
          have b4_l := H9.out.lt (g := gg) (k := 1) (v := .slice Ag ys.length cg) (by simp)
          clear hb
          go_wp2_with (fail)
          refine (hmkY _ _ _ _ Og_9.out).mono ?_
          rintro e10 q10 ⟨rfl, hm, hg⟩
          have LO := Bx.mk (own_lo Og_9.out)
          have H10 := Bx.mk ((H9.out.alloc _).grown hg (by
            intro p hp hk
            have h1 := LO.out _ hk
            have h2 := Ug.out _ hk
            have h3 := NEg.out _ hk
            have := SZ1.out; have := SZ2.out; have := SZ3.out; have := SZ4.out; have := SZ5.out; have := SZ6.out; have := SZ7.out; have := SZ8.out; have := SZ9.out
            clear hg hm
            simp at hp
            rcases hp with rfl | rfl | rfl | rfl | rfl | rfl | rfl | rfl | rfl | rfl <;> (dsimp only at h1 h2 h3; omega)
            ) (by intro b hb; have := LO.out b hb; have := SZ1.out; have := SZ2.out; have := SZ3.out; have := SZ4.out; have := SZ5.out; have := SZ6.out; have := SZ7.out; have := SZ8.out; have := SZ9.out; omega))
          have SZ10 : Bx (q9.heap.size + 1 ≤ q10.heap.size) := Bx.mk (by have := grown_size hg; simp only [World.size_alloc] at this; omega)
          have Ow_10 := Bx.mk (own_young (World.ownsRow.alloc Ow_9.out _) Uw.out Og_9.out (by have := SZ1.out; have := SZ2.out; have := SZ3.out; have := SZ4.out; have := SZ5.out; have := SZ6.out; have := SZ7.out; have := SZ8.out; have := SZ9.out; omega) hg)
          have Ob0_10 := Bx.mk (own_young (World.ownsRow.alloc Ob0_9.out _) Ub0.out Og_9.out (by have := SZ1.out; have := SZ2.out; have := SZ3.out; have := SZ4.out; have := SZ5.out; have := SZ6.out; have := SZ7.out; have := SZ8.out; have := SZ9.out; omega) hg)
          have Og_10 := Bx.mk hm
          clear LO hm hg H9 Ow_9 Ob0_9 Og_9 b0_x b0_y b0_l b1_x b1_y b1_l b2_x b2_y b2_l b3_x b3_y b3_l b4_x b4_y b4_l
          have b0_x := H10.out.get (g := w.heap.size) (k := 0) (v := .string s0) (by simp)
          have b0_y := H10.out.get (g := w.heap.size) (k := 1) (v := .slice A0 l0.length c0) (by simp)
          have b0_l := H10.out.lt (g := w.heap.size) (k := 1) (v := .slice A0 l0.length c0) (by simp)
          have b1_x := H10.out.get (g := w.heap.size + 1) (k := 0) (v := .int .i64 n2) (by simp)
          have b1_y := H10.out.get (g := w.heap.size + 1) (k := 1) (v := .int .i64 m2) (by simp)
          have b1_l := H10.out.lt (g := w.heap.size + 1) (k := 1) (v := .int .i64 m2) (by simp)
          have b2_x := H10.out.get (g := gw) (k := 0) (v := .string sS) (by simp)
          have b2_y := H10.out.get (g := gw) (k := 1) (v := .slice Aw ys.length cw) (by simp)
          have b2_l := H10.out.lt (g := gw) (k := 1) (v := .slice Aw ys.length cw) (by simp)
          have b3_x := H10.out.get (g := q3.heap.size) (k := 0) (v := .string s0) (by simp)
          have b3_y := H10.out.get (g := q3.heap.size) (k := 1) (v := .slice Ab0 l0.length cb0) (by simp)
          have b3_l := H10.out.lt (g := q3.heap.size) (k := 1) (v := .slice Ab0 l0.length cb0) (by simp)
          have b4_x := H10.out.get (g := gg) (k := 0) (v := .string sS) (by simp)
          have b4_y := H10.out.get (g := gg) (k := 1) (v := .slice Ag ys.length cg) (by simp)
          have b4_l := H10.out.lt (g := gg) (k := 1) (v := .slice Ag ys.length cg) (by simp)
          go_wp2_with (fail)
          refine (hhdY _ _ (prs_own (by rw [pmk_len]; exact Og_10.out))).mono ?_
          rintro e11 q11 ⟨rfl, hb⟩
          have H11 := Bx.mk (H10.out.below hb)
          have SZ11 : Bx (q10.heap.size ≤ q11.heap.size) := Bx.mk hb.size
          have Ow_11 := Bx.mk (own_below Ow_10.out hb)
          have Ob0_11 := Bx.mk (own_below Ob0_10.out hb)
          have Og_11 := Bx.mk (own_below Og_10.out hb)
          clear H10 Ow_10 Ob0_10 Og_10 b0_x b0_y b0_l b1_x b1_y b1_l b2_x b2_y b2_l b3_x b3_y b3_l b4_x b4_y b4_l
          have b0_x := H11.out.get (g := w.heap.size) (k := 0) (v := .string s0) (by simp)
          have b0_y := H11.out.get (g := w.heap.size) (k := 1) (v := .slice A0 l0.length c0) (by simp)
          have b0_l := H11.out.lt (g := w.heap.size) (k := 1) (v := .slice A0 l0.length c0) (by simp)
          have b1_x := H11.out.get (g := w.heap.size + 1) (k := 0) (v := .int .i64 n2) (by simp)
          have b1_y := H11.out.get (g := w.heap.size + 1) (k := 1) (v := .int .i64 m2) (by simp)
          have b1_l := H11.out.lt (g := w.heap.size + 1) (k := 1) (v := .int .i64 m2) (by simp)
          have b2_x := H11.out.get (g := gw) (k := 0) (v := .string sS) (by simp)
          have b2_y := H11.out.get (g := gw) (k := 1) (v := .slice Aw ys.length cw) (by simp)
          have b2_l := H11.out.lt (g := gw) (k := 1) (v := .slice Aw ys.length cw) (by simp)
          have b3_x := H11.out.get (g := q3.heap.size) (k := 0) (v := .string s0) (by simp)
          have b3_y := H11.out.get (g := q3.heap.size) (k := 1) (v := .slice Ab0 l0.length cb0) (by simp)
          have b3_l := H11.out.lt (g := q3.heap.size) (k := 1) (v := .slice Ab0 l0.length cb0) (by simp)
          have b4_x := H11.out.get (g := gg) (k := 0) (v := .string sS) (by simp)
          have b4_y := H11.out.get (g := gg) (k := 1) (v := .slice Ag ys.length cg) (by simp)
          have b4_l := H11.out.lt (g := gg) (k := 1) (v := .slice Ag ys.length cg) (by simp)
          clear hb
          go_wp2_with (fail)
          go_cut [16, 17] from 18 (fun p c wx => ∃ (g te : Nat) (v : Value), p = .pointer (some ⟨g, 0, none⟩) ∧ c = .int .i64 cc ∧ ResT q11 g te sS v ys wx)
          case first =>
            have HS0 : Bx (q11.cell? ⟨w.heap.size, 0, none⟩ = some (.string s0) ∧ q11.cell? ⟨w.heap.size, 1, none⟩ = some (.slice A0 l0.length c0) ∧ q11.cell? ⟨w.heap.size + 1, 0, none⟩ = some (.int .i64 n2) ∧ q11.cell? ⟨w.heap.size + 1, 1, none⟩ = some (.int .i64 m2) ∧ w.heap.size < q11.heap.size ∧ w.heap.size + 1 < q11.heap.size ∧ Below q11.heap.size q11 q11) := Bx.mk ⟨b0_x, b0_y, b1_x, b1_y, b0_l, b1_l, Below.refl _ _⟩
            have HL0 : Bx (w.heap.size < q11.heap.size ∧ w.heap.size + 1 < q11.heap.size) := Bx.mk ⟨b0_l, b1_l⟩
            clear b0_x b0_y b0_l b1_x b1_y b1_l b2_x b2_y b2_l b3_x b3_y b3_l b4_x b4_y b4_l
            go_region_held3 (fun W => W.cell? ⟨w.heap.size, 0, none⟩ = some (.string s0) ∧ W.cell? ⟨w.heap.size, 1, none⟩ = some (.slice A0 l0.length c0) ∧ W.cell? ⟨w.heap.size + 1, 0, none⟩ = some (.int .i64 n2) ∧ W.cell? ⟨w.heap.size + 1, 1, none⟩ = some (.int .i64 m2) ∧ w.heap.size < W.heap.size ∧ w.heap.size + 1 < W.heap.size ∧ Below q11.heap.size q11 W)
              (first | (with_reducible exact keepE (by assumption) hb4) | (with_reducible exact keepE (by assumption) (Below.refl _ _)) | (with_reducible exact keepE (by assumption) ((Below.refl _ _).alloc (Nat.le_refl _) _)) | (with_reducible exact keepE (by assumption) (Below.refl _ _).drew) | exact keepE HS0.out (Below.refl _ _).drew | exact keepEs HL0.out (keepEs HL0.out (by assumption) (by first | (with_reducible exact (bel_of (q := q11) (W := wy0) (by assumption)).size) | (with_reducible exact (bel_of (q := q11) (W := wy1) (by assumption)).size) | (with_reducible exact (bel_of (q := q11) (W := wy2) (by assumption)).size) | exact Nat.le_refl _)) (by first | (with_reducible exact (bel_of (q := q11) (W := wy0) (by assumption)).size) | (with_reducible exact (bel_of (q := q11) (W := wy1) (by assumption)).size) | (with_reducible exact (bel_of (q := q11) (W := wy2) (by assumption)).size) | exact Nat.le_refl _))
              (first | (go_at_call 47; (with_reducible refine (hcp0 _ (HI0.out.below (bel_up H11.out (by assumption)))).mono ?_); rintro r wy0 ⟨vc0, rfl, hoc, hb4⟩; obtain ⟨Ac0, cc0, rfl⟩ := own_len hoc; have HC0 := Bx.mk (PrsAt.own hoc); have hbc0 := hb4; clear hoc; obtain ⟨hc0, hf0, hm0⟩ := bcel3' hb4; have hz0 := hb4.size; have hS0 := keepE (w := q11) (by assumption) hb4) | (go_at_call 48; (with_reducible refine (htr2 _).mono ?_); rintro r wy1 ⟨rfl, hb4⟩; have hbc2 := hb4; obtain ⟨hc1, hf1, hm1⟩ := bcel3' hb4; have hz1 := hb4.size; have hm10 := (fun x h => hm1 x (Nat.lt_of_lt_of_le (hm0 x h) (by simp))); have hS1 := keepE (w := q11) (by assumption) hb4) | (go_at_call 49; (with_reducible refine (hi _ _ (by first | (with_reducible exact HC0.out) | exact PrsAt.below (by exact HC0.out) hbc2 | exact PrsAt.below (by exact HC0.out) ((Below.refl _ _).alloc (Nat.le_refl _) _) | exact PrsAt.below (PrsAt.below (by exact HC0.out) hbc2) ((Below.refl _ _).alloc (Nat.le_refl _) _) | exact PrsAt.below (PrsAt.below (by exact HC0.out) ((Below.refl _ _).alloc (Nat.le_refl _) _)) hbc2 | exact HC0.out)).mono ?_); rintro r wy2 ⟨teh, vh, rfl, ho, hb4⟩; obtain ⟨Ah, ch, rfl⟩ := own_len ho; unfold tun; have HOh := Bx.mk ho; have HBh := Bx.mk (own_down2 (b1 := q11.heap.size) (bel_of (q := q11) (by assumption)).size ho); clear ho; obtain ⟨hc2, hf2, hm2⟩ := bcel3' hb4; have hz2 := hb4.size; have hm21 := (fun x h => hm2 x (Nat.lt_of_lt_of_le (hm1 x h) (by simp))); have hm210 := (fun x h => hm2 x (Nat.lt_of_lt_of_le (hm10 x h) (by simp))); have hS2 := keepE (w := q11) (by assumption) hb4))
            all_goals
              go_wp2_with (fail)
              go_meet
              case rel =>
                refine ⟨_, teh, .slice Ah ys.length ch, rfl, rfl, ?_⟩
                have hBM := bel_of (q := q11) (W := wy2) (by assumption)
                first
                | exact resT_new HBh.out hBM
                | (refine resT_put (x0 := .string ⟨#[]⟩) (y0 := .slice none 0 0) ?_ ?_ (by first | (with_reducible exact (bel_of (q := q11) (W := wy0) (by assumption)).size) | (with_reducible exact (bel_of (q := q11) (W := wy1) (by assumption)).size) | (with_reducible exact (bel_of (q := q11) (W := wy2) (by assumption)).size) | exact Nat.le_refl _) HBh.out ?_ hBM
                   · (go_simp; done)
                   · (go_simp; done)
                   · (intro k hk; have h1 := own_lo HOh.out k hk; have e0 : q11.drew.heap.size = q11.heap.size := rfl; have e1 : (q11.alloc (.cells #[.string ⟨#[]⟩, .slice none 0 0] 59)).drew.heap.size = q11.heap.size + 1 := World.size_alloc _ _; (try simp only [World.size_alloc] at h1); (try simp only [World.size_alloc] at hz0); (try simp only [World.size_alloc] at hz1); (try simp only [World.size_alloc] at hz2)
                      omega))
          case rest =>
            obtain ⟨gh, teh, vh, rfl, rfl, hcut⟩ := hcut
            obtain ⟨q12, hqe⟩ : ∃ q, q = wc := ⟨_, rfl⟩
            subst hqe
            obtain ⟨Ah, ch, rfl⟩ := own_len hcut.own
            have H12 := Bx.mk (((H11.out.below hcut.bel).add hcut.c0).add hcut.c1)
            have SZ12 : Bx (q11.heap.size ≤ q12.heap.size ∧ q11.heap.size ≤ gh ∧ gh < q12.heap.size) := Bx.mk ⟨hcut.bel.size, hcut.lo, H12.out.lt (g := gh) (k := 0) (v := .string sS) (by simp)⟩
            have Ow_12 := Bx.mk (own_below Ow_11.out hcut.bel)
            have Ob0_12 := Bx.mk (own_below Ob0_11.out hcut.bel)
            have Og_12 := Bx.mk (own_below Og_11.out hcut.bel)
            have Oh_12 := Bx.mk hcut.own
            have Uh := Bx.mk (own_hi hcut.own)
            have NEh := Bx.mk hcut.ne
            clear H11 Ow_11 Ob0_11 Og_11 b0_x b0_y b0_l b1_x b1_y b1_l b2_x b2_y b2_l b3_x b3_y b3_l b4_x b4_y b4_l
            have b0_x := H12.out.get (g := w.heap.size) (k := 0) (v := .string s0) (by simp)
            have b0_y := H12.out.get (g := w.heap.size) (k := 1) (v := .slice A0 l0.length c0) (by simp)
            have b0_l := H12.out.lt (g := w.heap.size) (k := 1) (v := .slice A0 l0.length c0) (by simp)
            have b1_x := H12.out.get (g := w.heap.size + 1) (k := 0) (v := .int .i64 n2) (by simp)
            have b1_y := H12.out.get (g := w.heap.size + 1) (k := 1) (v := .int .i64 m2) (by simp)
            have b1_l := H12.out.lt (g := w.heap.size + 1) (k := 1) (v := .int .i64 m2) (by simp)
            have b2_x := H12.out.get (g := gw) (k := 0) (v := .string sS) (by simp)
            have b2_y := H12.out.get (g := gw) (k := 1) (v := .slice Aw ys.length cw) (by simp)
            have b2_l := H12.out.lt (g := gw) (k := 1) (v := .slice Aw ys.length cw) (by simp)
            have b3_x := H12.out.get (g := q3.heap.size) (k := 0) (v := .string s0) (by simp)
            have b3_y := H12.out.get (g := q3.heap.size) (k := 1) (v := .slice Ab0 l0.length cb0) (by simp)
            have b3_l := H12.out.lt (g := q3.heap.size) (k := 1) (v := .slice Ab0 l0.length cb0) (by simp)
            have b4_x := H12.out.get (g := gg) (k := 0) (v := .string sS) (by simp)
            have b4_y := H12.out.get (g := gg) (k := 1) (v := .slice Ag ys.length cg) (by simp)
            have b4_l := H12.out.lt (g := gg) (k := 1) (v := .slice Ag ys.length cg) (by simp)
            have b5_x := H12.out.get (g := gh) (k := 0) (v := .string sS) (by simp)
            have b5_y := H12.out.get (g := gh) (k := 1) (v := .slice Ah ys.length ch) (by simp)
            have b5_l := H12.out.lt (g := gh) (k := 1) (v := .slice Ah ys.length ch) (by simp)
            clear hcut
            go_wp2_with (fail)
            refine (heqY _ _ _ (prs_own Oh_12.out) (prs_own Ow_12.out)).mono ?_
            rintro e13 q13 ⟨rfl, hb⟩
            have H13 := Bx.mk (H12.out.below hb)
            have SZ13 : Bx (q12.heap.size ≤ q13.heap.size) := Bx.mk hb.size
            have Ow_13 := Bx.mk (own_below Ow_12.out hb)
            have Ob0_13 := Bx.mk (own_below Ob0_12.out hb)
            have Og_13 := Bx.mk (own_below Og_12.out hb)
            have Oh_13 := Bx.mk (own_below Oh_12.out hb)
            clear H12 Ow_12 Ob0_12 Og_12 Oh_12 b0_x b0_y b0_l b1_x b1_y b1_l b2_x b2_y b2_l b3_x b3_y b3_l b4_x b4_y b4_l b5_x b5_y b5_l
            have b0_x := H13.out.get (g := w.heap.size) (k := 0) (v := .string s0) (by simp)
            have b0_y := H13.out.get (g := w.heap.size) (k := 1) (v := .slice A0 l0.length c0) (by simp)
            have b0_l := H13.out.lt (g := w.heap.size) (k := 1) (v := .slice A0 l0.length c0) (by simp)
            have b1_x := H13.out.get (g := w.heap.size + 1) (k := 0) (v := .int .i64 n2) (by simp)
            have b1_y := H13.out.get (g := w.heap.size + 1) (k := 1) (v := .int .i64 m2) (by simp)
            have b1_l := H13.out.lt (g := w.heap.size + 1) (k := 1) (v := .int .i64 m2) (by simp)
            have b2_x := H13.out.get (g := gw) (k := 0) (v := .string sS) (by simp)
            have b2_y := H13.out.get (g := gw) (k := 1) (v := .slice Aw ys.length cw) (by simp)
            have b2_l := H13.out.lt (g := gw) (k := 1) (v := .slice Aw ys.length cw) (by simp)
            have b3_x := H13.out.get (g := q3.heap.size) (k := 0) (v := .string s0) (by simp)
            have b3_y := H13.out.get (g := q3.heap.size) (k := 1) (v := .slice Ab0 l0.length cb0) (by simp)
            have b3_l := H13.out.lt (g := q3.heap.size) (k := 1) (v := .slice Ab0 l0.length cb0) (by simp)
            have b4_x := H13.out.get (g := gg) (k := 0) (v := .string sS) (by simp)
            have b4_y := H13.out.get (g := gg) (k := 1) (v := .slice Ag ys.length cg) (by simp)
            have b4_l := H13.out.lt (g := gg) (k := 1) (v := .slice Ag ys.length cg) (by simp)
            have b5_x := H13.out.get (g := gh) (k := 0) (v := .string sS) (by simp)
            have b5_y := H13.out.get (g := gh) (k := 1) (v := .slice Ah ys.length ch) (by simp)
            have b5_l := H13.out.lt (g := gh) (k := 1) (v := .slice Ah ys.length ch) (by simp)
            clear hb
            go_wp2_with (fail)
            refine (hhdY _ _ (prs_own (by rw [pmk_len]; exact Og_13.out))).mono ?_
            rintro e14 q14 ⟨rfl, hb⟩
            have H14 := Bx.mk (H13.out.below hb)
            have SZ14 : Bx (q13.heap.size ≤ q14.heap.size) := Bx.mk hb.size
            have Ow_14 := Bx.mk (own_below Ow_13.out hb)
            have Ob0_14 := Bx.mk (own_below Ob0_13.out hb)
            have Og_14 := Bx.mk (own_below Og_13.out hb)
            have Oh_14 := Bx.mk (own_below Oh_13.out hb)
            clear H13 Ow_13 Ob0_13 Og_13 Oh_13 b0_x b0_y b0_l b1_x b1_y b1_l b2_x b2_y b2_l b3_x b3_y b3_l b4_x b4_y b4_l b5_x b5_y b5_l
            have b0_x := H14.out.get (g := w.heap.size) (k := 0) (v := .string s0) (by simp)
            have b0_y := H14.out.get (g := w.heap.size) (k := 1) (v := .slice A0 l0.length c0) (by simp)
            have b0_l := H14.out.lt (g := w.heap.size) (k := 1) (v := .slice A0 l0.length c0) (by simp)
            have b1_x := H14.out.get (g := w.heap.size + 1) (k := 0) (v := .int .i64 n2) (by simp)
            have b1_y := H14.out.get (g := w.heap.size + 1) (k := 1) (v := .int .i64 m2) (by simp)
            have b1_l := H14.out.lt (g := w.heap.size + 1) (k := 1) (v := .int .i64 m2) (by simp)
            have b2_x := H14.out.get (g := gw) (k := 0) (v := .string sS) (by simp)
            have b2_y := H14.out.get (g := gw) (k := 1) (v := .slice Aw ys.length cw) (by simp)
            have b2_l := H14.out.lt (g := gw) (k := 1) (v := .slice Aw ys.length cw) (by simp)
            have b3_x := H14.out.get (g := q3.heap.size) (k := 0) (v := .string s0) (by simp)
            have b3_y := H14.out.get (g := q3.heap.size) (k := 1) (v := .slice Ab0 l0.length cb0) (by simp)
            have b3_l := H14.out.lt (g := q3.heap.size) (k := 1) (v := .slice Ab0 l0.length cb0) (by simp)
            have b4_x := H14.out.get (g := gg) (k := 0) (v := .string sS) (by simp)
            have b4_y := H14.out.get (g := gg) (k := 1) (v := .slice Ag ys.length cg) (by simp)
            have b4_l := H14.out.lt (g := gg) (k := 1) (v := .slice Ag ys.length cg) (by simp)
            have b5_x := H14.out.get (g := gh) (k := 0) (v := .string sS) (by simp)
            have b5_y := H14.out.get (g := gh) (k := 1) (v := .slice Ah ys.length ch) (by simp)
            have b5_l := H14.out.lt (g := gh) (k := 1) (v := .slice Ah ys.length ch) (by simp)
            clear hb
            go_wp2_with (fail)
            go_ret
            exact ⟨rfl, (H14.out).2⟩

theorem own : ownKnob Try.prog.godebug = none := by kernel_rfl
theorem laidOut : laidOutB Try.prog = true := by kernel_rfl

set_option maxRecDepth 100000 in
theorem lifted (os : Os) (started : os.Started) (H : Type) (enc : TypeId × Value → H) :
    ReturnsInHanded {} Try.checked os 14 .any (Rows.fnExactTuneToneSpec.pre6 enc Try.prog Try.f14 Rows.fnExactTuneToneRow.domain false) (Rows.fnExactTuneToneSpec.post enc Try.prog Try.f14 false true false false) := by
  refine returnsInHanded_of_change (C := Try.checked) own started (by kernel_rfl) Try.func14
    (ChangeSpec.witness6 (enc := enc) (C := Try.checked) false ⟨#[], #[.agg #[.string ⟨#[]⟩, .slice none 0 0], .int .i64 0, .agg #[.int .i64 0, .int .i64 0]], []⟩ 8 (by kernel_rfl) (by kernel_rfl) (by kernel_rfl) (by kernel_rfl)) ?_
  intro W base args ds gs before hval0 hW hcnd _
  have hval : ∀ (j : Nat) t v, Try.f14.params[j]? = some t → args[j]? = some v → Value.okWide Try.prog W .any base t v := hval0
  have hW' := hW
  obtain ⟨p, q, hA0, hV, rfl, hfz, hnd⟩ := hW
  have hA : DataW.TrodAll enc Try.prog W 0 (fun _ => true) true Try.f14.params.toList args.toList ds p := hA0
  rw [Try.params14] at hA hval
  obtain ⟨v0, vs0, d0, ds0, p0, q0, hargs, rfl, rfl, h0, r0⟩ := trodAll_cons hA
  obtain ⟨v1, vs1, d1, ds1, p1, q1, rfl, rfl, rfl, h1, r1⟩ := trodAll_cons r0
  obtain ⟨v2, vs2, d2, ds2, p2, q2, rfl, rfl, rfl, h2, r2⟩ := trodAll_cons r1
  obtain ⟨rfl, rfl, rfl⟩ := trodAll_nil r2
  obtain rfl : args = #[v0, v1, v2] := by cases args; simp_all
  obtain ⟨rfl, rfl⟩ := trodVars_none hV
  obtain ⟨s0, u0, l0, rfl, w0⟩ := arg_tun (hval 0 53 v0 rfl rfl) h0 (fun x hx => hW'.lt x (by simp [hx]))
  obtain ⟨a1, rfl, rfl, rfl, w1⟩ := open_int Try.underlying2 (hval 1 2 v1 rfl rfl) h1
  obtain ⟨n2, m2, rfl, w2⟩ := arg_ratio (hval 2 55 v2 rfl rfl) h2
  clear hA0 hval0
  refine (walk s0 u0 l0 w0 a1 w1 n2 m2 w2).mono fun e W' ⟨he, hb⟩ => ?_
  subst he
  exact ⟨_, rfl, post_law laidOut (by kernel_rfl) (by kernel_rfl) Try.underlying4 rfl hW' rfl hb⟩

theorem closed : joinedFacts Try.pinned.checked.prog 14 Try.f14 Rows.fnExactTuneToneSpec Rows.fnExactTuneToneRow = true := by
  unfold joinedFacts
  rw [may, lifts, made]
  kernel_rfl
theorem over : Rows.fnExactTuneToneRow.holds Try.pinned (OpenSpec.ofChange Rows.fnExactTuneToneSpec) :=
  OpenClaim.holds_of_wide 14 Try.f14 rfl rfl rfl rfl rfl rfl rfl ⟨rfl, rfl, rfl, rfl, rfl⟩ rfl rfl rfl rfl rfl (by kernel_rfl) Try.func14 closed
    (of_decide_eq_true (by kernel_rfl)) (by unfold Func.isWrapper; first | (rw [if_pos (by decide +kernel)]; kernel_rfl) | (rw [if_neg (by decide +kernel)]; exact ⟨rfl, rfl⟩))
    (fun os started H enc _ => lifted os started H enc)

theorem proved : Rows.FnExactTuneToneSaid := over
#print axioms proved
end Go.Proofs.Ytjjiibmbaggjoaa.fnExactTuneTone
