/- The program's PureBeats. -/
import Derived.Test.YtbnhcacjlkmfeaaTi5b
import Derived.Test.YtbnhcacjlkmfeaaTu14
import Derived.WalkMore
namespace Go.Proofs.Ytbnhcacjlkmfeaa
open Go.ChangeShapes Go.WideShapes Go.ChangeAt Go.RowKit
set_option linter.unusedVariables false
set_option linter.unusedSimpArgs false
set_option maxRecDepth 100000

theorem pbS_zero {x y : Int} {t : Int × Int × Int} {m n : Int} (h : t.2.2 = 0) : pbS x y t m n = t := by
  unfold pbS
  rw [if_neg]
  rw [h]; omega
theorem pbI_zero {x y : Int} {t : Int × Int × Int} {m : Int} (h : t.2.2 = 0) : ∀ i, pbI x y t m i = t
  | 0 => rfl
  | i + 1 => by rw [pbI, pbI_zero h i, pbS_zero h]
theorem pbI_from {x y : Int} {t : Int × Int × Int} {m : Int} {j : Nat} (h : (pbI x y t m j).2.2 = 0) : ∀ i, pbI x y t m (j + i) = pbI x y t m j
  | 0 => rfl
  | i + 1 => by rw [← Nat.add_assoc, pbI, pbI_from h i, pbS_zero h]
theorem pbO_from {x y : Int} {k : Nat} (h : (pbO x y k).2.2 = 0) : ∀ i, pbO x y (k + i) = pbO x y k
  | 0 => rfl
  | i + 1 => by rw [← Nat.add_assoc, pbO, pbO_from h i, pbI_zero h]
theorem pb_zero {x y : Int} {k j : Nat} (hk : k < 16) (hj : j < 16) (h : (pbI x y (pbO x y k) (1 + (k : Int)) j).2.2 = 0) : pbO x y 16 = pbI x y (pbO x y k) (1 + (k : Int)) j := by
  have e1 : pbO x y (k + 1) = pbI x y (pbO x y k) (1 + (k : Int)) j := by
    rw [pbO]
    have := pbI_from h (16 - j)
    rwa [show j + (16 - j) = 16 by omega] at this
  have h2 : (pbO x y (k + 1)).2.2 = 0 := by rw [e1]; exact h
  have := pbO_from h2 (16 - (k + 1))
  rw [show k + 1 + (16 - (k + 1)) = 16 by omega] at this
  rw [this, e1]
set_option maxHeartbeats 4000000 in
theorem impl_pure (s : ByteArray) (v : Value) (l : List (Int × Int)) (base a b : Int) (w : World) (h : PrsAt w v l) (hs : s.size ≤ maxLen) (hm : l.length ≤ 281474976710656) :
    Calls Try.prog 29 #[tun s v, .int .i64 base, .int .i64 a, .int .i64 b] w (FourOut (puE s.data.toList l base a b) w) := by
  have hk := fun W hW => impl_validtuning s v l W hW hs hm
  have hba := fun W => impl_isbase base W
  have hpa := fun W => impl_ispitch a W
  have hpb := fun W => impl_ispitch b W
  have HI := Bx.mk h
  obtain ⟨A, c, rfl⟩ := prs_len h
  simp only [tun] at *
  cases ht : tunB s.data.toList l
  · have HE : Bx (puE s.data.toList l base a b = ((0, 0, 0), 1)) := Bx.mk (by simp [puE, ht])
    rw [ht] at hk
    clear ht h hs hm
    go_enter Try.func29, Try.ntmps29
    go_wp2_with (fail)
    go_step3
    go_wp2_with (fail)
    refine (hk _ (HI.out.below ((Below.refl _ _).alloc (Nat.le_refl _) _))).mono ?_
    rintro e w1 ⟨rfl, hb1⟩
    have B1 : Bx (Below w.heap.size w w1) := Bx.mk (((Below.refl _ _).alloc (Nat.le_refl _) _).trans (hb1.mono (by go_size)))
    clear hb1
    go_wp2_with (fail)
    try rw [Exit.noGoto_ret]
    go_returns
    rw [FourOut, HE.out]
    exact ⟨rfl, B1.out⟩
  · rw [ht] at hk
    cases cba : inB base 10000 2000000
    · have HE : Bx (puE s.data.toList l base a b = ((0, 0, 0), 2)) := Bx.mk (by simp [puE, ht, cba])
      rw [cba] at hba
      clear ht h hs hm cba
      go_enter Try.func29, Try.ntmps29
      go_wp2_with (fail)
      go_step3
      go_wp2_with (fail)
      refine (hk _ (HI.out.below ((Below.refl _ _).alloc (Nat.le_refl _) _))).mono ?_
      rintro e w1 ⟨rfl, hb1⟩
      have B1 : Bx (Below w.heap.size w w1) := Bx.mk (((Below.refl _ _).alloc (Nat.le_refl _) _).trans (hb1.mono (by go_size)))
      clear hb1
      go_wp2_with ((go_at_call 45; (with_reducible refine (hba _).mono ?_); rintro e w' ⟨rfl, rfl⟩))
      try rw [Exit.noGoto_ret]
      go_returns
      rw [FourOut, HE.out]
      exact ⟨rfl, B1.out⟩
    · skip
      cases cpa : inB a (-12) 23
      · have HE : Bx (puE s.data.toList l base a b = ((0, 0, 0), 2)) := Bx.mk (by simp [puE, ht, cpa])
        rw [cba] at hba
        rw [cpa] at hpa
        clear ht h hs hm cba cpa
        go_enter Try.func29, Try.ntmps29
        go_wp2_with (fail)
        go_step3
        go_wp2_with (fail)
        refine (hk _ (HI.out.below ((Below.refl _ _).alloc (Nat.le_refl _) _))).mono ?_
        rintro e w1 ⟨rfl, hb1⟩
        have B1 : Bx (Below w.heap.size w w1) := Bx.mk (((Below.refl _ _).alloc (Nat.le_refl _) _).trans (hb1.mono (by go_size)))
        clear hb1
        go_wp2_with (first | (go_at_call 45; (with_reducible refine (hba _).mono ?_); rintro e w' ⟨rfl, rfl⟩) | (go_at_call 46; (with_reducible refine (hpa _).mono ?_); rintro e w' ⟨rfl, rfl⟩))
        try rw [Exit.noGoto_ret]
        go_returns
        rw [FourOut, HE.out]
        exact ⟨rfl, B1.out⟩
      · skip
        cases cpb : inB b (-12) 23
        · have HE : Bx (puE s.data.toList l base a b = ((0, 0, 0), 2)) := Bx.mk (by simp [puE, ht, cpb])
          rw [cba] at hba
          rw [cpa] at hpa
          rw [cpb] at hpb
          clear ht h hs hm cba cpa cpb
          go_enter Try.func29, Try.ntmps29
          go_wp2_with (fail)
          go_step3
          go_wp2_with (fail)
          refine (hk _ (HI.out.below ((Below.refl _ _).alloc (Nat.le_refl _) _))).mono ?_
          rintro e w1 ⟨rfl, hb1⟩
          have B1 : Bx (Below w.heap.size w w1) := Bx.mk (((Below.refl _ _).alloc (Nat.le_refl _) _).trans (hb1.mono (by go_size)))
          clear hb1
          go_wp2_with (first | (go_at_call 45; (with_reducible refine (hba _).mono ?_); rintro e w' ⟨rfl, rfl⟩) | (go_at_call 46; (with_reducible refine (hpa _).mono ?_); rintro e w' ⟨rfl, rfl⟩) | (go_at_call 46; (with_reducible refine (hpb _).mono ?_); rintro e w' ⟨rfl, rfl⟩))
          try rw [Exit.noGoto_ret]
          go_returns
          rw [FourOut, HE.out]
          exact ⟨rfl, B1.out⟩
        · skip
          have HE : Bx (puE s.data.toList l base a b = (pbO (freqT l base a) (freqT l base b) 16, 0)) := Bx.mk (by simp [puE, ht, cba, cpa, cpb])
          have hfa := fun W hW => impl_tfreq s (.slice A l.length c) l base a W hW ht (inB_yes cba) (inB_yes cpa)
          have hfb := fun W hW => impl_tfreq s (.slice A l.length c) l base b W hW ht (inB_yes cba) (inB_yes cpb)
          simp only [tun] at hfa hfb
          obtain ⟨p1, p2⟩ := freqT_bd ht (inB_yes cba) (inB_yes cpa)
          obtain ⟨p3, p4⟩ := freqT_bd ht (inB_yes cba) (inB_yes cpb)
          generalize freqT l base a = x at *
          generalize freqT l base b = y at *
          have hb0 := fun W => impl_beatsof x 1 y 1 W (by omega) (by omega) (by omega) (by omega)
          rw [Int.one_mul, Int.one_mul] at hb0
          rw [cba] at hba
          rw [cpa] at hpa
          rw [cpb] at hpb
          clear ht h hs hm cba cpa cpb
          go_enter Try.func29, Try.ntmps29
          go_wp2_with (fail)
          go_step3
          go_wp2_with (fail)
          refine (hk _ (HI.out.below ((Below.refl _ _).alloc (Nat.le_refl _) _))).mono ?_
          rintro e w1 ⟨rfl, hb1⟩
          have B1 : Bx (Below w.heap.size w w1) := Bx.mk (((Below.refl _ _).alloc (Nat.le_refl _) _).trans (hb1.mono (by go_size)))
          have K1 : Bx (BoxAt w1 w.heap.size (.string s) (.slice A l.length c) 29) := Bx.mk (BoxAt.below (BoxAt.at _ _ _ _ _ rfl) hb1)
          clear hb1
          have k10 := K1.out.c0
          have k11 := K1.out.c1
          have k1l := K1.out.lt
          go_wp2_with (first | (go_at_call 45; (with_reducible refine (hba _).mono ?_); rintro e w' ⟨rfl, rfl⟩) | (go_at_call 46; (with_reducible refine (hpa _).mono ?_); rintro e w' ⟨rfl, rfl⟩) | (go_at_call 46; (with_reducible refine (hpb _).mono ?_); rintro e w' ⟨rfl, rfl⟩))
          clear hk hba hpa hpb
          have SS0 : Bx (w1.cell? ⟨w.heap.size, 0, none⟩ = some (.string s) ∧ w1.cell? ⟨w.heap.size, 1, none⟩ = some (.slice A l.length c) ∧ w.heap.size < w1.heap.size ∧ Below w.heap.size w w1) := Bx.mk ⟨k10, k11, k1l, B1.out⟩
          clear k10 k11 k1l K1
          go_region_held3 (fun W => W.cell? ⟨w.heap.size, 0, none⟩ = some (.string s) ∧ W.cell? ⟨w.heap.size, 1, none⟩ = some (.slice A l.length c) ∧ w.heap.size < W.heap.size ∧ Below w.heap.size w W)
            (first | (with_reducible exact keepB (by assumption) hb4) | (with_reducible exact keepB (by assumption) (Below.refl _ _)) | (with_reducible exact keepB (by assumption) (Below.refl _ _).drew) | exact keepB SS0.out (Below.refl _ _).drew)
            (first | (go_at_call 47; (with_reducible refine (hfa _ (HI.out.below (bel4 (by assumption)))).mono ?_); rintro r w4 ⟨rfl, hb4⟩; have hS0 := keepB (w := w) (by assumption) hb4) | (go_at_call 47; (with_reducible refine (hfb _ (HI.out.below (bel4 (by assumption)))).mono ?_); rintro r w4 ⟨rfl, hb4⟩; have hS0 := keepB (w := w) (by assumption) hb4))
          obtain ⟨w3, hq, hb3⟩ : ∃ q, q = _ ∧ Below w.heap.size w q := ⟨_, rfl, bel4 (by assumption)⟩
          rw [← hq]
          have B3 := Bx.mk hb3
          clear hq hb3 SS0 hfa hfb B1
          go_wp2_with (fail)
          refine (hb0 _).mono ?_
          rintro e w4 ⟨rfl, hw4⟩
          have B4 : Bx (Below w.heap.size w w4) := Bx.mk (B3.out.trans ((below_dr hw4).mono B3.out.size))
          clear hw4 B3 hb0
          go_wp2_with (fail)
          go_step3
          go_wp2_with (fail)
          go_loopw [14, 15, 16, 17] (fun f g h i wr => ∃ k : Nat, k ≤ 16 ∧ f = .int .i64 (pbO x y k).1 ∧ g = .int .i64 (pbO x y k).2.1 ∧ h = .int .i64 (pbO x y k).2.2 ∧ i = .int .i64 (1 + (k : Int)) ∧ Bx (Below w.heap.size w wr)) (fun _ _ _ i _ => (17 - intOf i).toNat)
          case atStart => exact ⟨0, by omega, rfl, rfl, rfl, rfl, B4⟩
          case round =>
            clear B4
            obtain ⟨k, hk, rfl, rfl, rfl, rfl, B3⟩ := hrel
            by_cases hlt : k < 16
            · have x1 : decide (1 + (k : Int) ≤ 16) = true := decide_eq_true (by omega)
              have HO : Bx (pbO x y (k + 1) = pbI x y (pbO x y k) (1 + (k : Int)) 16) := Bx.mk (by rw [pbO])
              have HZ := Bx.mk (fun j hj hz => pb_zero (x := x) (y := y) (k := k) (j := j) hlt hj hz)
              generalize pbO x y k = t at *
              go_wp2_with (fail)
              go_loopw [14, 15, 16, 18] (fun f g h i wr => ∃ j : Nat, j ≤ 16 ∧ f = .int .i64 (pbI x y t (1 + (k : Int)) j).1 ∧ g = .int .i64 (pbI x y t (1 + (k : Int)) j).2.1 ∧ h = .int .i64 (pbI x y t (1 + (k : Int)) j).2.2 ∧ i = .int .i64 (1 + (j : Int)) ∧ Bx (Below w.heap.size w wr)) (fun _ _ _ i _ => (17 - intOf i).toNat)
              case atStart => exact ⟨0, by omega, rfl, rfl, rfl, rfl, B3⟩
              case round =>
                clear B3
                obtain ⟨j, hj, rfl, rfl, rfl, rfl, B3⟩ := hrel
                by_cases hlt2 : j < 16
                · have x2 : decide (1 + (j : Int) ≤ 16) = true := decide_eq_true (by omega)
                  by_cases hz : (pbI x y t (1 + (k : Int)) j).2.2 = 0
                  · have HF := Bx.mk (HZ.out j hlt2 hz)
                    have z1 : ((pbI x y t (1 + (k : Int)) j).2.2 == 0) = true := by simpa using hz
                    generalize pbI x y t (1 + (k : Int)) j = u at *
                    obtain ⟨u1, u2, u3⟩ := u
                    have hz3 : u3 = 0 := hz
                    subst hz3
                    clear HZ HO hz
                    go_wp2_with (fail)
                    try rw [Exit.noGoto_ret]
                    go_returns
                    rw [FourOut, HE.out, HF.out]
                    exact ⟨rfl, B3.out⟩
                  · have z1 : ((pbI x y t (1 + (k : Int)) j).2.2 == 0) = false := by simpa using hz
                    have HS : Bx (pbI x y t (1 + (k : Int)) (j + 1) = if max ((1 + (k : Int)) * x - (1 + (j : Int)) * y) (-((1 + (k : Int)) * x - (1 + (j : Int)) * y)) < (pbI x y t (1 + (k : Int)) j).2.2 then (1 + (k : Int), 1 + (j : Int), max ((1 + (k : Int)) * x - (1 + (j : Int)) * y) (-((1 + (k : Int)) * x - (1 + (j : Int)) * y))) else pbI x y t (1 + (k : Int)) j) := Bx.mk (by rw [pbI, pbS])
                    have hab2 := fun W => impl_beatsof x (1 + (k : Int)) y (1 + (j : Int)) W (by omega) (by omega) (by omega) (by omega)
                    generalize max ((1 + (k : Int)) * x - (1 + (j : Int)) * y) (-((1 + (k : Int)) * x - (1 + (j : Int)) * y)) = Z at *
                    by_cases hA : Z < (pbI x y t (1 + (k : Int)) j).2.2
                    · have HS2 := Bx.mk (HS.out.trans (if_pos hA))
                      have y1 : decide (Z < (pbI x y t (1 + (k : Int)) j).2.2) = true := decide_eq_true hA
                      clear HS hA hz HZ
                      go_wp2_with (fail)
                      refine (hab2 _).mono ?_
                      rintro e w5 ⟨rfl, hw5⟩
                      have B5 : Bx (Below w.heap.size w w5) := Bx.mk (B3.out.trans ((below_dr hw5).mono B3.out.size))
                      clear hw5 B3
                      go_wp2_with (fail)
                      go_roundw
                      case rel => exact ⟨j + 1, by omega, by rw [HS2.out], by rw [HS2.out], by rw [HS2.out], by go_num, B5⟩
                      case measure => simp [intOf]; omega
                    · have HS2 := Bx.mk (HS.out.trans (if_neg hA))
                      have y1 : decide (Z < (pbI x y t (1 + (k : Int)) j).2.2) = false := decide_eq_false hA
                      clear HS hA hz HZ
                      go_wp2_with (fail)
                      refine (hab2 _).mono ?_
                      rintro e w5 ⟨rfl, hw5⟩
                      have B5 : Bx (Below w.heap.size w w5) := Bx.mk (B3.out.trans ((below_dr hw5).mono B3.out.size))
                      clear hw5 B3
                      go_wp2_with (fail)
                      go_roundw
                      case rel => exact ⟨j + 1, by omega, by rw [HS2.out], by rw [HS2.out], by rw [HS2.out], by go_num, B5⟩
                      case measure => simp [intOf]; omega
                · obtain rfl : j = 16 := by omega
                  have x2 : decide (1 + ((16 : Nat) : Int) ≤ 16) = false := decide_eq_false (by omega)
                  clear HZ
                  go_wp2_with (fail)
                  go_roundw
                  case rel => exact ⟨k + 1, by omega, by rw [HO.out], by rw [HO.out], by rw [HO.out], by go_num, B3⟩
                  case measure => simp [intOf]; omega
            · obtain rfl : k = 16 := by omega
              have x1 : decide (1 + ((16 : Nat) : Int) ≤ 16) = false := decide_eq_false (by omega)
              go_wp2_with (fail)
              try rw [Exit.noGoto_ret]
              go_returns
              rw [FourOut, HE.out]
              exact ⟨rfl, B3.out⟩
end Go.Proofs.Ytbnhcacjlkmfeaa
