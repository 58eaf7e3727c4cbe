/- The program's BeatingOf. -/
import Derived.Test.YtbnhcacjlkmfeaaTi5
import Derived.Test.YtbnhcacjlkmfeaaTi5
namespace Go.Proofs.Ytbnhcacjlkmfeaa
open Go.ChangeShapes Go.WideShapes Go.ChangeAt Go.RowKit
set_option linter.unusedVariables false
set_option linter.unusedSimpArgs false
set_option maxRecDepth 100000

set_option maxHeartbeats 4000000 in
theorem impl_beating (s : ByteArray) (v : Value) (l : List (Int × Int)) (base a m b n : Int) (w : World) (h : PrsAt w v l) (hs : s.size ≤ maxLen) (hm : l.length ≤ 281474976710656) :
    Calls Try.prog 27 #[tun s v, .int .i64 base, .int .i64 a, .int .i64 m, .int .i64 b, .int .i64 n] w (TwoOut (beE s.data.toList l base a m b n) w) := by
  have hk := fun W hW => impl_validtuning s v l W hW hs hm
  have hba := fun W => impl_isbase base W
  have hpa := fun W => impl_ispitch a W
  have hha := fun W => impl_isharmonic m W
  have hpb := fun W => impl_ispitch b W
  have hhb := fun W => impl_isharmonic n W
  have HI := Bx.mk h
  obtain ⟨A, c, rfl⟩ := prs_len h
  simp only [tun] at *
  cases ht : tunB s.data.toList l
  · have HE : Bx (beE s.data.toList l base a m b n = (0, 1)) := Bx.mk (by simp [beE, ht])
    rw [ht] at hk
    clear ht h hs hm
    go_enter Try.func27, Try.ntmps27
    go_wp2_with (fail)
    refine (hk _ (HI.out.below ((Below.refl _ _).alloc (Nat.le_refl _) _))).mono ?_
    rintro e w1 ⟨rfl, hb1⟩
    have B1 : Bx (Below w.heap.size w w1) := Bx.mk (((Below.refl _ _).alloc (Nat.le_refl _) _).trans (hb1.mono (by go_size)))
    clear hb1
    go_wp2_with (fail)
    go_ret2
    rw [TwoOut, HE.out]
    exact ⟨rfl, B1.out⟩
  · rw [ht] at hk
    cases cba : inB base 10000 2000000
    · have HE : Bx (beE s.data.toList l base a m b n = (0, 2)) := Bx.mk (by simp [beE, ht, cba])
      rw [cba] at hba
      clear ht h hs hm cba
      go_enter Try.func27, Try.ntmps27
      go_wp2_with (fail)
      refine (hk _ (HI.out.below ((Below.refl _ _).alloc (Nat.le_refl _) _))).mono ?_
      rintro e w1 ⟨rfl, hb1⟩
      have B1 : Bx (Below w.heap.size w w1) := Bx.mk (((Below.refl _ _).alloc (Nat.le_refl _) _).trans (hb1.mono (by go_size)))
      clear hb1
      go_wp2_with ((go_at_call 45; (with_reducible refine (hba _).mono ?_); rintro e w' ⟨rfl, rfl⟩))
      go_ret2
      rw [TwoOut, HE.out]
      exact ⟨rfl, B1.out⟩
    · skip
      cases cpa : inB a (-12) 23
      · have HE : Bx (beE s.data.toList l base a m b n = (0, 2)) := Bx.mk (by simp [beE, ht, cpa])
        rw [cba] at hba
        rw [cpa] at hpa
        clear ht h hs hm cba cpa
        go_enter Try.func27, Try.ntmps27
        go_wp2_with (fail)
        refine (hk _ (HI.out.below ((Below.refl _ _).alloc (Nat.le_refl _) _))).mono ?_
        rintro e w1 ⟨rfl, hb1⟩
        have B1 : Bx (Below w.heap.size w w1) := Bx.mk (((Below.refl _ _).alloc (Nat.le_refl _) _).trans (hb1.mono (by go_size)))
        clear hb1
        go_wp2_with (first | (go_at_call 45; (with_reducible refine (hba _).mono ?_); rintro e w' ⟨rfl, rfl⟩) | (go_at_call 46; (with_reducible refine (hpa _).mono ?_); rintro e w' ⟨rfl, rfl⟩))
        go_ret2
        rw [TwoOut, HE.out]
        exact ⟨rfl, B1.out⟩
      · skip
        cases cha : inB m 1 16
        · have HE : Bx (beE s.data.toList l base a m b n = (0, 2)) := Bx.mk (by simp [beE, ht, cha])
          rw [cba] at hba
          rw [cpa] at hpa
          rw [cha] at hha
          clear ht h hs hm cba cpa cha
          go_enter Try.func27, Try.ntmps27
          go_wp2_with (fail)
          refine (hk _ (HI.out.below ((Below.refl _ _).alloc (Nat.le_refl _) _))).mono ?_
          rintro e w1 ⟨rfl, hb1⟩
          have B1 : Bx (Below w.heap.size w w1) := Bx.mk (((Below.refl _ _).alloc (Nat.le_refl _) _).trans (hb1.mono (by go_size)))
          clear hb1
          go_wp2_with (first | (go_at_call 45; (with_reducible refine (hba _).mono ?_); rintro e w' ⟨rfl, rfl⟩) | (go_at_call 46; (with_reducible refine (hpa _).mono ?_); rintro e w' ⟨rfl, rfl⟩) | (go_at_call 50; (with_reducible refine (hha _).mono ?_); rintro e w' ⟨rfl, rfl⟩))
          go_ret2
          rw [TwoOut, HE.out]
          exact ⟨rfl, B1.out⟩
        · skip
          cases cpb : inB b (-12) 23
          · have HE : Bx (beE s.data.toList l base a m b n = (0, 2)) := Bx.mk (by simp [beE, ht, cpb])
            rw [cba] at hba
            rw [cpa] at hpa
            rw [cha] at hha
            rw [cpb] at hpb
            clear ht h hs hm cba cpa cha cpb
            go_enter Try.func27, Try.ntmps27
            go_wp2_with (fail)
            refine (hk _ (HI.out.below ((Below.refl _ _).alloc (Nat.le_refl _) _))).mono ?_
            rintro e w1 ⟨rfl, hb1⟩
            have B1 : Bx (Below w.heap.size w w1) := Bx.mk (((Below.refl _ _).alloc (Nat.le_refl _) _).trans (hb1.mono (by go_size)))
            clear hb1
            go_wp2_with (first | (go_at_call 45; (with_reducible refine (hba _).mono ?_); rintro e w' ⟨rfl, rfl⟩) | (go_at_call 46; (with_reducible refine (hpa _).mono ?_); rintro e w' ⟨rfl, rfl⟩) | (go_at_call 50; (with_reducible refine (hha _).mono ?_); rintro e w' ⟨rfl, rfl⟩) | (go_at_call 46; (with_reducible refine (hpb _).mono ?_); rintro e w' ⟨rfl, rfl⟩))
            go_ret2
            rw [TwoOut, HE.out]
            exact ⟨rfl, B1.out⟩
          · skip
            cases chb : inB n 1 16
            · have HE : Bx (beE s.data.toList l base a m b n = (0, 2)) := Bx.mk (by simp [beE, ht, chb])
              rw [cba] at hba
              rw [cpa] at hpa
              rw [cha] at hha
              rw [cpb] at hpb
              rw [chb] at hhb
              clear ht h hs hm cba cpa cha cpb chb
              go_enter Try.func27, Try.ntmps27
              go_wp2_with (fail)
              refine (hk _ (HI.out.below ((Below.refl _ _).alloc (Nat.le_refl _) _))).mono ?_
              rintro e w1 ⟨rfl, hb1⟩
              have B1 : Bx (Below w.heap.size w w1) := Bx.mk (((Below.refl _ _).alloc (Nat.le_refl _) _).trans (hb1.mono (by go_size)))
              clear hb1
              go_wp2_with (first | (go_at_call 45; (with_reducible refine (hba _).mono ?_); rintro e w' ⟨rfl, rfl⟩) | (go_at_call 46; (with_reducible refine (hpa _).mono ?_); rintro e w' ⟨rfl, rfl⟩) | (go_at_call 50; (with_reducible refine (hha _).mono ?_); rintro e w' ⟨rfl, rfl⟩) | (go_at_call 46; (with_reducible refine (hpb _).mono ?_); rintro e w' ⟨rfl, rfl⟩) | (go_at_call 50; (with_reducible refine (hhb _).mono ?_); rintro e w' ⟨rfl, rfl⟩))
              go_ret2
              rw [TwoOut, HE.out]
              exact ⟨rfl, B1.out⟩
            · skip
              have HE : Bx (beE s.data.toList l base a m b n = (beatT l base a m b n, 0)) := Bx.mk (by simp [beE, ht, cba, cpa, cha, cpb, chb])
              have hfa := fun W hW => impl_tfreq s (.slice A l.length c) l base a W hW ht (inB_yes cba) (inB_yes cpa)
              have hfb := fun W hW => impl_tfreq s (.slice A l.length c) l base b W hW ht (inB_yes cba) (inB_yes cpb)
              simp only [tun] at hfa hfb
              have ya := freqT_bd ht (inB_yes cba) (inB_yes cpa)
              have yb := freqT_bd ht (inB_yes cba) (inB_yes cpb)
              have hbt := fun W => impl_beatsof (freqT l base a) m (freqT l base b) n W (inB_yes cha) (inB_yes chb) (by omega) (by omega)
              have HB : Bx (max (m * freqT l base a - n * freqT l base b) (-(m * freqT l base a - n * freqT l base b)) = beatT l base a m b n) := Bx.mk rfl
              rw [HB.out] at hbt
              clear HB ya yb
              generalize beatT l base a m b n = z at *
              generalize freqT l base a = fa at *
              generalize freqT l base b = fb at *
              rw [cba] at hba
              rw [cpa] at hpa
              rw [cha] at hha
              rw [cpb] at hpb
              rw [chb] at hhb
              clear ht h hs hm cba cpa cha cpb chb
              go_enter Try.func27, Try.ntmps27
              go_wp2_with (fail)
              refine (hk _ (HI.out.below ((Below.refl _ _).alloc (Nat.le_refl _) _))).mono ?_
              rintro e w1 ⟨rfl, hb1⟩
              have B1 : Bx (Below w.heap.size w w1) := Bx.mk (((Below.refl _ _).alloc (Nat.le_refl _) _).trans (hb1.mono (by go_size)))
              have K1 : Bx (BoxAt w1 w.heap.size (.string s) (.slice A l.length c) 29) := Bx.mk (BoxAt.below (BoxAt.at _ _ _ _ _ rfl) hb1)
              clear hb1
              have k10 := K1.out.c0
              have k11 := K1.out.c1
              have k1l := K1.out.lt
              go_wp2_with (first | (go_at_call 45; (with_reducible refine (hba _).mono ?_); rintro e w' ⟨rfl, rfl⟩) | (go_at_call 46; (with_reducible refine (hpa _).mono ?_); rintro e w' ⟨rfl, rfl⟩) | (go_at_call 50; (with_reducible refine (hha _).mono ?_); rintro e w' ⟨rfl, rfl⟩) | (go_at_call 46; (with_reducible refine (hpb _).mono ?_); rintro e w' ⟨rfl, rfl⟩) | (go_at_call 50; (with_reducible refine (hhb _).mono ?_); rintro e w' ⟨rfl, rfl⟩))
              have SS0 : Bx (w1.cell? ⟨w.heap.size, 0, none⟩ = some (.string s) ∧ w1.cell? ⟨w.heap.size, 1, none⟩ = some (.slice A l.length c) ∧ w.heap.size < w1.heap.size ∧ Below w.heap.size w w1) := Bx.mk ⟨k10, k11, k1l, B1.out⟩
              clear k10 k11 k1l K1
              go_region_held3 (fun W => W.cell? ⟨w.heap.size, 0, none⟩ = some (.string s) ∧ W.cell? ⟨w.heap.size, 1, none⟩ = some (.slice A l.length c) ∧ w.heap.size < W.heap.size ∧ Below w.heap.size w W)
                (first | (with_reducible exact keepB (by assumption) hb4) | (with_reducible exact keepB (by assumption) (Below.refl _ _)) | (with_reducible exact keepB (by assumption) (Below.refl _ _).drew) | exact keepB SS0.out (Below.refl _ _).drew)
                (first | (go_at_call 47; (with_reducible refine (hfa _ (HI.out.below (bel4 (by assumption)))).mono ?_); rintro r w4 ⟨rfl, hb4⟩; have hS0 := keepB (w := w) (by assumption) hb4) | (go_at_call 47; (with_reducible refine (hfb _ (HI.out.below (bel4 (by assumption)))).mono ?_); rintro r w4 ⟨rfl, hb4⟩; have hS0 := keepB (w := w) (by assumption) hb4) | (go_at_call 51; (with_reducible refine (hbt _).mono ?_); rintro r w5 ⟨rfl, hw5⟩; have hb4 := below_dr hw5; clear hw5; have hS0 := keepB (w := w) (by assumption) hb4))
              all_goals
                go_wp2_with (fail)
                go_ret2
                rw [TwoOut, HE.out]
                exact ⟨rfl, bel4 (by assumption)⟩
end Go.Proofs.Ytbnhcacjlkmfeaa
