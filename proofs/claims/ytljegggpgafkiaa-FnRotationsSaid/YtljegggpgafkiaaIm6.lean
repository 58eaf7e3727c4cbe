/- Scales: counts, numbers and common tones, by the program. -/
import Derived.Test.YtljegggpgafkiaaIm5
namespace Go.Proofs.Ytljegggpgafkiaa
open Go.ChangeShapes Go.WideShapes Go.ChangeAt Go.RowKit
set_option linter.unusedVariables false
set_option linter.unusedSimpArgs false
set_option maxRecDepth 100000

theorem own_up {w : World} {b1 b2 e size n : Nat} {v : Value} {xs : List Value} (hb : b1 ≤ b2) (h : w.ownsRow b2 e size v n xs) : w.ownsRow b1 e size v n xs := by
  refine ⟨h.1, ?_⟩
  rcases h.2 with h | ⟨g, cap, cur, hv, hg, hr⟩
  · exact .inl h
  · exact .inr ⟨g, cap, cur, hv, Nat.le_trans hb hg, hr⟩
set_option maxHeartbeats 1000000 in
theorem impl_count (n : Int) (w : World) : Calls Try.prog 13 #[.int .i64 n] w (IntsOut (countZ n) w) := by
  have hsz := fun W => impl_size n W
  cases h : inB n 5 12
  · have HE : Bx (countZ n = (0, 2)) := Bx.mk (by simp [countZ, h])
    rw [h] at hsz
    go_enter Try.func13, Try.ntmps13
    go_wp2_with (fail)
    refine (hsz _).mono ?_
    rintro e w' ⟨rfl, rfl⟩
    go_wp2_with (fail)
    go_ret2
    exact io_mk HE.out (Below.refl _ _)
  · obtain ⟨n1, n2⟩ := inB_yes h
    have HE : Bx (countZ n = (((masksA n).length : Int), 0)) := Bx.mk (by simp [countZ, h, masks_count n ⟨n1, n2⟩])
    have hma := fun W => impl_masks n W
    rw [h] at hsz
    clear h
    generalize masksA n = ms at *
    go_enter Try.func13, Try.ntmps13
    go_wp2_with (fail)
    refine (hsz _).mono ?_
    rintro e w' ⟨rfl, rfl⟩
    go_wp2_with (fail)
    refine (hma _).mono ?_
    intro e w1 ho
    obtain ⟨v, rfl, hown, hb1⟩ := newmasks_parts ho
    obtain ⟨A, c, rfl⟩ : ∃ A c, v = .slice A ms.length c := by
      rcases hown.2 with ⟨hv, h0⟩ | ⟨g, cap, cur, hv, _⟩
      · exact ⟨none, 0, by rw [hv, h0]⟩
      · exact ⟨_, _, hv⟩
    clear ho hown hma hsz
    go_wp2_with (fail)
    go_ret2
    exact io_mk HE.out hb1
set_option maxHeartbeats 1000000 in
theorem impl_number (v : Value) (zs : List Int) (w : World) (h : IntsAt w v zs) (hm : zs.length ≤ 281474976710656) :
    Calls Try.prog 12 #[v] w (IntsOut (numbC zs) w) := by
  have hsc := fun W h => impl_scale v zs W h hm
  have HI := Bx.mk h
  cases h1 : scaleB zs
  · obtain ⟨A, c, rfl⟩ := h.len
    clear h
    have HE : Bx (numbC zs = (0, 1)) := Bx.mk (by simp [numbC, h1])
    rw [h1] at hsc
    clear h1
    go_enter Try.func12, Try.ntmps12
    go_wp2_with (fail)
    refine (hsc _ HI.out).mono ?_
    rintro e w' ⟨rfl, k, rfl⟩
    go_wp2_with (fail)
    go_ret2
    exact io_mk HE.out (below_draws (Below.refl _ _) k)
  · have HE : Bx (numbC zs = (numO zs (zs.length - 1), 0)) := Bx.mk (by simp [numbC, h1])
    obtain ⟨⟨l1, l2⟩, hr, _⟩ := scale_yes h1
    obtain ⟨k0, e0, e1, e2, e3⟩ := masks_scale h1
    have HK := Bx.mk e0
    have HX := Bx.mk (fun b c W hc => impl_atmask b c (masksA zs.length) (maskN zs zs.length) k0 W hc (masks_len _ 2048) e1 e2 e3)
    have hma := fun W => impl_masks (zs.length : Int) W
    have hmk := fun W h => impl_mask v zs W h (by omega) (fun k hk => (rise_all hr k hk).1) hm
    have HP : Bx (0 < (masksA zs.length).length) := Bx.mk (by omega)
    rw [h1] at hsc
    obtain ⟨A, c, rfl⟩ := h.len
    clear h1 h hr e0 e1 e2 e3
    generalize masksA zs.length = ms at *
    generalize maskN zs zs.length = M at *
    go_enter Try.func12, Try.ntmps12
    go_wp2_with (fail)
    refine (hsc _ HI.out).mono ?_
    rintro e w' ⟨rfl, n0, rfl⟩
    go_wp2_with (fail)
    refine (hma _).mono ?_
    intro e w1 ho
    obtain ⟨v, rfl, hown, hb1⟩ := newmasks_parts ho
    obtain ⟨b, cc, rfl, hcell⟩ := masks_form hown HP.out
    have HC := Bx.mk hcell
    have HB : Bx (Below w.heap.size w w1) := Bx.mk (Below.of_drawsN n0 hb1)
    have HI1 := Bx.mk (HI.out.below HB.out)
    clear ho hown hma hsc hcell hb1
    go_wp2_with (fail)
    refine (hmk _ HI1.out).mono ?_
    rintro e w' ⟨rfl, rfl⟩
    go_wp2_with (fail)
    refine (HX.out b cc _ HC.out).mono ?_
    rintro e w' ⟨rfl, rfl⟩
    go_wp2_with (fail)
    go_ret2
    exact io_mk (by rw [HE.out, HK.out]) HB.out
theorem inB_nat (x : Int) (n : Nat) (h : 0 ≤ x ∧ x < n) : inB x 0 ((n : Int) - 1) = true := inB_mk (by omega)
set_option maxHeartbeats 1000000 in
theorem impl_numbered (n x : Int) (w : World) :
    Calls Try.prog 14 #[.int .i64 n, .int .i64 x] w (LCOut (numC n x) w) := by
  have hsz := fun W => impl_size n W
  cases h : inB n 5 12
  · have HE : Bx (numC n x = ([], 2)) := Bx.mk (by simp [numC, h])
    rw [h] at hsz
    clear h
    go_enter Try.func14, Try.ntmps14
    go_wp2_with (fail)
    refine (hsz _).mono ?_
    rintro e w' ⟨rfl, rfl⟩
    go_wp2_with (fail)
    go_ret2
    exact lc_nil HE.out (Below.refl _ _)
  · obtain ⟨n1, n2⟩ := inB_yes h
    have hcnt := masks_count n ⟨n1, n2⟩
    have hnum := fun k hk => masks_number ⟨n1, n2⟩ k hk
    have hma := fun W => impl_masks n W
    have HP0 : 0 ≤ x → x < ((masksA n).length : Int) → numC n x = (numG n 12 [0] x 1, 0) := fun a b => by
      unfold numC
      rw [if_pos ⟨h, by rw [← hcnt]; exact inB_nat x _ ⟨a, b⟩⟩]
    have HN0 : (x < 0 ∨ ((masksA n).length : Int) ≤ x) → numC n x = ([], 2) := fun a => by
      unfold numC
      rw [if_neg]
      rintro ⟨_, hb⟩
      rw [← hcnt] at hb
      have := inB_yes hb
      omega
    have hlen : (masksA n).length ≤ 2048 := masks_len n 2048
    rw [h] at hsz
    clear h hcnt
    generalize masksA n = ms at *
    by_cases hx0 : x < 0
    · have HE := Bx.mk (HN0 (.inl hx0))
      have d0 : decide (x < 0) = true := decide_eq_true hx0
      clear HN0 HP0 hnum
      go_enter Try.func14, Try.ntmps14
      go_wp2_with (fail)
      refine (hsz _).mono ?_
      rintro e w' ⟨rfl, rfl⟩
      go_wp2_with (fail)
      refine (hma _).mono ?_
      intro e w1 ho
      obtain ⟨v, rfl, hown, hb1⟩ := newmasks_parts ho
      have HB := Bx.mk hb1
      clear ho hown hma hsz hb1
      go_wp2_with (fail)
      go_ret2
      exact lc_nil HE.out HB.out
    · have d0 : decide (x < 0) = false := decide_eq_false hx0
      by_cases hx1 : x < (ms.length : Int)
      · have d1 : decide (x ≥ (ms.length : Int)) = false := decide_eq_false (by omega)
        have HE := Bx.mk (HP0 (by omega) hx1)
        obtain ⟨k, rfl⟩ := Int.eq_ofNat_of_zero_le (show 0 ≤ x by omega)
        have hk : k < ms.length := by omega
        obtain ⟨t1, t2⟩ := hnum k hk
        have HT := Bx.mk t1
        have hto := fun W => impl_tones (ms.getD k 0) W (by omega)
        have HL : Bx (0 < ms.length) := Bx.mk (by omega)
        clear HN0 HP0 hnum t1 t2
        go_enter Try.func14, Try.ntmps14
        go_wp2_with (fail)
        refine (hsz _).mono ?_
        rintro e w' ⟨rfl, rfl⟩
        go_wp2_with (fail)
        refine (hma _).mono ?_
        intro e w1 ho
        obtain ⟨v, rfl, hown, hb1⟩ := newmasks_parts ho
        obtain ⟨b, cc, rfl, hcell⟩ := masks_form hown HL.out
        have c0 := hcell k hk
        have HB := Bx.mk hb1
        have k0 : (0 : Int) ≤ (k : Int) := Int.natCast_nonneg _
        have k1 : (k : Int) < (ms.length : Int) := hx1
        clear ho hown hma hsz hcell hb1
        generalize ms.getD k 0 = M at *
        go_wp2_with (fail)
        refine (hto _).mono ?_
        intro e w2 ho2
        obtain ⟨v2, rfl, hown2, hb2⟩ := newrow_parts ho2
        have HO := Bx.mk hown2
        have HB2 := Bx.mk (HB.out.trans (hb2.mono HB.out.size))
        have HZ := Bx.mk HB.out.size
        clear ho2 hown2 hb2
        go_wp2_with (fail)
        go_ret2
        have ho3 := HO.out
        rw [HT.out] at ho3
        exact lc_some HE.out (own_up HZ.out ho3) HB2.out
      · have d1 : decide (x ≥ (ms.length : Int)) = true := decide_eq_true (by omega)
        have HE := Bx.mk (HN0 (.inr (by omega)))
        clear HN0 HP0 hnum
        go_enter Try.func14, Try.ntmps14
        go_wp2_with (fail)
        refine (hsz _).mono ?_
        rintro e w' ⟨rfl, rfl⟩
        go_wp2_with (fail)
        refine (hma _).mono ?_
        intro e w1 ho
        obtain ⟨v, rfl, hown, hb1⟩ := newmasks_parts ho
        obtain ⟨A, c, rfl⟩ : ∃ A c, v = .slice A ms.length c := by
          rcases hown.2 with ⟨hv, h0⟩ | ⟨g, cap, cur, hv, _⟩
          · exact ⟨none, 0, by rw [hv, h0]⟩
          · exact ⟨_, _, hv⟩
        have HB := Bx.mk hb1
        clear ho hown hma hsz hb1
        go_wp2_with (fail)
        go_ret2
        exact lc_nil HE.out HB.out
end Go.Proofs.Ytljegggpgafkiaa
