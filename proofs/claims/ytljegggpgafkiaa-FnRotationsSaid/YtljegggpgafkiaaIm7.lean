/- Scales: common tones, degrees and pitches, by the program. -/
import Derived.Test.YtljegggpgafkiaaIm6
namespace Go.Proofs.Ytljegggpgafkiaa
open Go.ChangeShapes Go.WideShapes Go.ChangeAt Go.RowKit
set_option linter.unusedVariables false
set_option linter.unusedSimpArgs false
set_option maxRecDepth 100000

theorem bits_and16 {a b : Nat} (ha : a < 4096) (hb : b < 4096) : bits BinOp.and IntKind.u16 (a : Int) (b : Int) = ((a &&& b : Nat) : Int) := u16_and_nat a b (by omega) (by omega)
set_option maxHeartbeats 1000000 in
theorem impl_common (va vb : Value) (xs zs : List Int) (w : World) (ha : IntsAt w va xs) (hb : IntsAt w vb zs) (hx : xs.length ≤ 281474976710656) (hz : zs.length ≤ 281474976710656) :
    Calls Try.prog 25 #[va, vb] w (LCOut (comC xs zs) w) := by
  have hsa := fun W h => impl_scale va xs W h hx
  have hsb := fun W h => impl_scale vb zs W h hz
  have HA := Bx.mk ha
  have HB := Bx.mk hb
  cases h1 : scaleB xs
  · have HE : Bx (comC xs zs = ([], 1)) := Bx.mk (by simp [comC, h1])
    rw [h1] at hsa
    clear h1 ha hb
    go_enter Try.func25, Try.ntmps25
    go_wp2_with (fail)
    refine (hsa _ HA.out).mono ?_
    rintro e w' ⟨rfl, n, rfl⟩
    go_wp2_with (fail)
    go_ret2
    exact lc_nil HE.out (below_draws (Below.refl _ _) n)
  · cases h2 : scaleB zs
    · have HE : Bx (comC xs zs = ([], 1)) := Bx.mk (by simp [comC, h2])
      rw [h1] at hsa
      rw [h2] at hsb
      clear h1 h2 ha hb
      go_enter Try.func25, Try.ntmps25
      go_wp2_with (fail)
      refine (hsa _ HA.out).mono ?_
      rintro e w' ⟨rfl, n, rfl⟩
      go_wp2_with (fail)
      refine (hsb _ (HB.out.draws n)).mono ?_
      rintro e w' ⟨rfl, n2, rfl⟩
      go_wp2_with (fail)
      go_ret2
      exact lc_nil HE.out (below_draws (Below.refl _ _) (n + n2))
    · have HE : Bx (comC xs zs = (comL xs zs xs.length, 0)) := Bx.mk (by simp [comC, h1, h2])
      obtain ⟨⟨l1, l2⟩, r1, _⟩ := scale_yes h1
      obtain ⟨⟨l3, l4⟩, r2, _⟩ := scale_yes h2
      have hma := fun W h => impl_mask va xs W h (by omega) (fun k hk => (rise_all r1 k hk).1) hx
      have hmb := fun W h => impl_mask vb zs W h (by omega) (fun k hk => (rise_all r2 k hk).1) hz
      have hA := bits_and16 (mask_lt xs xs.length (fun k hk => (rise_all r1 k hk).1)) (mask_lt zs zs.length (fun k hk => (rise_all r2 k hk).1))
      have HT := Bx.mk (tones_both r1 r2)
      have hto := fun W => impl_tones (maskN xs xs.length &&& maskN zs zs.length) W (Nat.lt_of_le_of_lt Nat.and_le_left (by have := mask_lt xs xs.length (fun k hk => (rise_all r1 k hk).1); omega))
      rw [h1] at hsa
      rw [h2] at hsb
      clear h1 h2 ha hb r1 r2
      generalize maskN xs xs.length = M at *
      generalize maskN zs zs.length = N at *
      generalize M &&& N = K at *
      go_enter Try.func25, Try.ntmps25
      go_wp2_with (fail)
      refine (hsa _ HA.out).mono ?_
      rintro e w' ⟨rfl, n, rfl⟩
      go_wp2_with (fail)
      refine (hsb _ (HB.out.draws n)).mono ?_
      rintro e w' ⟨rfl, n2, rfl⟩
      go_wp2_with (fail)
      refine (hma _ (HA.out.draws (n + n2))).mono ?_
      rintro e w' ⟨rfl, rfl⟩
      go_wp2_with (fail)
      refine (hmb _ (HB.out.draws (n + n2))).mono ?_
      rintro e w' ⟨rfl, rfl⟩
      go_wp2_with (fail)
      refine (hto _).mono ?_
      intro e w1 ho
      obtain ⟨v, rfl, hown, hb1⟩ := newrow_parts ho
      have HO := Bx.mk hown
      have HB1 := Bx.mk hb1
      clear ho hown hb1
      go_wp2_with (fail)
      go_ret2
      have ho2 := HO.out
      rw [HT.out] at ho2
      exact lc_mk (n + n2) HE.out ho2 HB1.out
set_option maxHeartbeats 1000000 in
theorem impl_degree (v : Value) (zs : List Int) (p : Int) (w : World) (h : IntsAt w v zs) (hm : zs.length ≤ 281474976710656) :
    Calls Try.prog 9 #[v, .int .i64 p] w (IntsRes (degZ zs p) w) := by
  have hsc := fun W h => impl_scale v zs W h hm
  have HI := Bx.mk h
  obtain ⟨A, c, rfl⟩ := h.len
  clear h
  cases h1 : scaleB zs
  · have HE : Bx (degZ zs p = (0, 1)) := Bx.mk (by simp [degZ, h1])
    rw [h1] at hsc
    clear h1
    rw [HE.out]
    go_enter Try.func9, Try.ntmps9
    go_wp2_with (fail)
    refine (hsc _ HI.out).mono ?_
    rintro e w' ⟨rfl, k, rfl⟩
    go_wp2_with (fail)
    go_ret2
    exact ⟨rfl, k, rfl⟩
  · obtain ⟨⟨l1, l2⟩, _, _⟩ := scale_yes h1
    have hpi := fun W => impl_ispitch p W
    cases h2 : inB p (-12) 23
    · have HE : Bx (degZ zs p = (0, 2)) := Bx.mk (by simp [degZ, h1, h2])
      rw [h1] at hsc
      rw [h2] at hpi
      clear h1 h2
      rw [HE.out]
      go_enter Try.func9, Try.ntmps9
      go_wp2_with (fail)
      refine (hsc _ HI.out).mono ?_
      rintro e w' ⟨rfl, k, rfl⟩
      go_wp2_with (fail)
      refine (hpi _).mono ?_
      rintro e w' ⟨rfl, rfl⟩
      go_wp2_with (fail)
      go_ret2
      exact ⟨rfl, k, rfl⟩
    · obtain ⟨p1, p2⟩ := inB_yes h2
      have hto := fun W => impl_toneof p W
      have hat := fun W h => impl_at (.slice A zs.length c) zs (p % 12) W h hm
      have hfl := fun W => impl_octave p W ⟨p1, p2⟩
      have hic := idx_cases zs (p % 12)
      have HE : Bx (degZ zs p = if idxZ zs (p % 12) < 0 then (0, 3) else (p / 12 * zs.length + idxZ zs (p % 12), 0)) := Bx.mk (by simp [degZ, h1, h2])
      rw [h1] at hsc
      rw [h2] at hpi
      clear h1 h2
      generalize idxZ zs (p % 12) = z at *
      rcases hic with ⟨rfl, _⟩ | ⟨j, rfl, hj, _, _⟩
      · have HE2 := Bx.mk (HE.out.trans (if_pos (by omega)))
        rw [HE2.out]
        clear HE
        go_enter Try.func9, Try.ntmps9
        go_wp2_with (fail)
        refine (hsc _ HI.out).mono ?_
        rintro e w' ⟨rfl, k, rfl⟩
        go_wp2_with (fail)
        refine (hpi _).mono ?_
        rintro e w' ⟨rfl, rfl⟩
        go_wp2_with (fail)
        refine (hto _).mono ?_
        rintro e w' ⟨rfl, rfl⟩
        go_wp2_with (fail)
        refine (hat _ (HI.out.draws k)).mono ?_
        rintro e w' ⟨rfl, rfl⟩
        go_wp2_with (fail)
        go_ret2
        exact ⟨rfl, k, rfl⟩
      · have HE2 := Bx.mk (HE.out.trans (if_neg (by omega)))
        rw [HE2.out]
        clear HE
        have q1 : -1 ≤ p / 12 ∧ p / 12 ≤ 1 := by omega
        obtain ⟨q1, q2⟩ := q1
        generalize hq : p / 12 = q at *
        clear hq
        have m1 : -12 ≤ q * (zs.length : Int) ∧ q * (zs.length : Int) ≤ 12 := by
          obtain rfl | rfl | rfl : q = -1 ∨ q = 0 ∨ q = 1 := by omega
          all_goals omega
        obtain ⟨m1, m2⟩ := m1
        have d1 : decide ((j : Int) < 0) = false := decide_eq_false (by omega)
        go_enter Try.func9, Try.ntmps9
        go_wp2_with (fail)
        refine (hsc _ HI.out).mono ?_
        rintro e w' ⟨rfl, k, rfl⟩
        go_wp2_with (fail)
        refine (hpi _).mono ?_
        rintro e w' ⟨rfl, rfl⟩
        go_wp2_with (fail)
        refine (hto _).mono ?_
        rintro e w' ⟨rfl, rfl⟩
        go_wp2_with (fail)
        refine (hat _ (HI.out.draws k)).mono ?_
        rintro e w' ⟨rfl, rfl⟩
        go_wp2_with (fail)
        refine (hfl _).mono ?_
        rintro e w' ⟨rfl, rfl⟩
        go_wp2_with (fail)
        go_ret2
        exact ⟨rfl, k, rfl⟩
theorem pit_shift (d n : Int) (hn : 0 < n) : -12 + 12 * ((d + n) / n) = 12 * (d / n) ∧ (d + n) % n = d % n := by
  constructor
  · have := Int.add_mul_ediv_right d 1 (show n ≠ 0 by omega)
    rw [Int.one_mul] at this
    omega
  · exact Int.add_emod_right d n
set_option maxHeartbeats 1000000 in
theorem impl_toneat (v : Value) (zs : List Int) (d : Int) (w : World) (h : IntsAt w v zs) (hm : zs.length ≤ 281474976710656) :
    Calls Try.prog 8 #[v, .int .i64 d] w (IntsRes (pitZ zs d) w) := by
  have hsc := fun W h => impl_scale v zs W h hm
  have HI := Bx.mk h
  cases h1 : scaleB zs
  · obtain ⟨A, c, rfl⟩ := h.len
    clear h
    have HE : Bx (pitZ zs d = (0, 1)) := Bx.mk (by simp [pitZ, h1])
    rw [h1] at hsc
    clear h1
    rw [HE.out]
    go_enter Try.func8, Try.ntmps8
    go_wp2_with (fail)
    refine (hsc _ HI.out).mono ?_
    rintro e w' ⟨rfl, k, rfl⟩
    go_wp2_with (fail)
    go_ret2
    exact ⟨rfl, k, rfl⟩
  · obtain ⟨⟨l1, l2⟩, _, _⟩ := scale_yes h1
    obtain ⟨b, o, c, rfl, hb, hc⟩ := h.form (by omega)
    clear h
    have E1 : IntKind.i64.wrap (-(zs.length : Int)) = -(zs.length : Int) := IntWalk.i64_in _ (by omega)
    have E2 : IntKind.i64.wrap (2 * (zs.length : Int)) = 2 * (zs.length : Int) := IntWalk.i64_in _ (by omega)
    by_cases hlo : d < -(zs.length : Int)
    · have HE : Bx (pitZ zs d = (0, 2)) := Bx.mk (by
        unfold pitZ; rw [if_pos h1, if_neg]; intro hh; have := inB_yes hh; omega)
      have d0 : decide (d < -(zs.length : Int)) = true := decide_eq_true hlo
      rw [h1] at hsc
      clear h1 hc
      rw [HE.out]
      go_enter Try.func8, Try.ntmps8
      go_wp2_with (fail)
      refine (hsc _ HI.out).mono ?_
      rintro e w' ⟨rfl, k, rfl⟩
      go_wp2_with (fail)
      go_ret2
      exact ⟨rfl, k, rfl⟩
    · have d0 : decide (d < -(zs.length : Int)) = false := decide_eq_false hlo
      by_cases hhi : 2 * (zs.length : Int) ≤ d
      · have HE : Bx (pitZ zs d = (0, 2)) := Bx.mk (by
          unfold pitZ; rw [if_pos h1, if_neg]; intro hh; have := inB_yes hh; omega)
        have d1 : decide (d ≥ 2 * (zs.length : Int)) = true := decide_eq_true hhi
        rw [h1] at hsc
        clear h1 hc
        rw [HE.out]
        go_enter Try.func8, Try.ntmps8
        go_wp2_with (fail)
        refine (hsc _ HI.out).mono ?_
        rintro e w' ⟨rfl, k, rfl⟩
        go_wp2_with (fail)
        go_ret2
        exact ⟨rfl, k, rfl⟩
      · have d1 : decide (d ≥ 2 * (zs.length : Int)) = false := decide_eq_false (by omega)
        have q0 : (0 : Int) < (zs.length : Int) := by omega
        obtain ⟨sh1, sh2⟩ := pit_shift d (zs.length : Int) q0
        have k1 := Int.emod_nonneg d (show (zs.length : Int) ≠ 0 by omega)
        have k2 := Int.emod_lt_of_pos d q0
        have hk := scale_in h1 (d % zs.length).toNat (by omega)
        have h0 := hc (d % zs.length).toNat (by omega)
        have hq : 0 ≤ (d + zs.length) / zs.length ∧ (d + zs.length) / zs.length ≤ 2 := by
          constructor
          · exact Int.ediv_nonneg (by omega) (by omega)
          · have := Int.ediv_lt_of_lt_mul q0 (show d + zs.length < 3 * (zs.length : Int) by omega); omega
        have HE : Bx (pitZ zs d = (-12 + 12 * ((d + zs.length) / zs.length) + zs.getD (d % zs.length).toNat 0, 0)) := Bx.mk (by
          unfold pitZ; rw [if_pos h1, if_pos (inB_mk (by omega)), sh1])
        have hs0 : (0 : Int) ≤ d + zs.length := by omega
        have hs1 : d + (zs.length : Int) ≤ 40 := by omega
        rw [← sh2] at h0 hk k1 k2 HE
        rw [h1] at hsc
        rw [HE.out]
        clear h1 sh1 sh2
        obtain ⟨hk1, hk2⟩ := hk
        obtain ⟨hq1, hq2⟩ := hq
        have Hd0 := Bx.mk d0
        have E3 : IntKind.i64.wrap (d + (zs.length : Int)) = d + (zs.length : Int) := IntWalk.i64_in _ (by omega)
        have z0 : ((zs.length : Int) == 0) = false := beq_eq_false_iff_ne.2 (by omega)
        clear HE hc
        have z1 : ¬ ((zs.length : Int) = 0) := by omega
        have z2 : ¬ (zs.length = 0) := by omega
        have z3 : ¬ (zs = []) := by rintro rfl; simp at l1
        have z4 : (zs.length == 0) = false := by simpa using z2
        have z5 : (decide (zs = [])) = false := by simpa using z3
        have z6 : (1 : Int) ≤ (zs.length : Int) := by omega
        have Q1 : (d + (zs.length : Int)).tdiv zs.length = (d + zs.length) / zs.length := Int.tdiv_eq_ediv_of_nonneg hs0
        have Q2 : (d + (zs.length : Int)).tmod zs.length = (d + zs.length) % zs.length := Int.tmod_eq_emod_of_nonneg hs0
        generalize (d + (zs.length : Int)) / zs.length = q at *
        generalize (d + (zs.length : Int)) % zs.length = r at *
        generalize zs.getD r.toNat 0 = z at *
        have W1 : IntKind.i64.wrap q = q := IntWalk.i64_in _ (by omega)
        have W2 : IntKind.i64.wrap (12 * q) = 12 * q := IntWalk.i64_in _ (by omega)
        have W3 : IntKind.i64.wrap (-12 + 12 * q) = -12 + 12 * q := IntWalk.i64_in _ (by omega)
        have W4 : IntKind.i64.wrap (-12 + 12 * q + z) = -12 + 12 * q + z := IntWalk.i64_in _ (by omega)
        go_enter Try.func8, Try.ntmps8
        go_wp2_with (fail)
        refine (hsc _ HI.out).mono ?_
        rintro e w' ⟨rfl, k, rfl⟩
        go_wp2_with (fail)
        go_quiet (fail)
        go_wp2_with (fail)
        go_ret2
        exact ⟨rfl, drew_more ⟨k, rfl⟩ _⟩
end Go.Proofs.Ytljegggpgafkiaa
