/- Scales: the rotation to another, by the program. -/
import Derived.Test.YtljegggpgafkiaaIm10
namespace Go.Proofs.Ytljegggpgafkiaa
open Go.ChangeShapes Go.WideShapes Go.ChangeAt Go.RowKit
set_option linter.unusedVariables false
set_option linter.unusedSimpArgs false
set_option maxRecDepth 100000

theorem rotC_in {xs : List Int} (h1 : scaleB xs = true) (k : Nat) (hk : k < xs.length) : rotC xs (k : Int) = (rotL xs k xs.length, 0) := by
  unfold rotC; rw [if_pos h1, if_pos (inB_mk (by omega))]; rfl
set_option maxHeartbeats 2000000 in
theorem impl_rotationto (va vb : Value) (xs zs : List Int) (w : World) (ha : IntsAt w va xs) (hb : IntsAt w vb zs) (hx : xs.length ≤ 281474976710656) (hz : zs.length ≤ 281474976710656) :
    Calls Try.prog 23 #[va, vb] w (IntsOut (rotTo xs zs) w) := by
  have hsa := fun W h => impl_scale va xs W h hx
  have hsb := fun W h => impl_scale vb zs W h hz
  have HA := Bx.mk ha
  have HB := Bx.mk hb
  obtain ⟨A1, c1, rfl⟩ := ha.len
  obtain ⟨A2, c2, rfl⟩ := hb.len
  clear ha hb
  cases h1 : scaleB xs
  · have HE : Bx (rotTo xs zs = (0, 1)) := Bx.mk (by simp [rotTo, h1])
    rw [h1] at hsa
    clear h1
    go_enter Try.func23, Try.ntmps23
    go_wp2_with (fail)
    refine (hsa _ HA.out).mono ?_
    rintro e w' ⟨rfl, n, rfl⟩
    go_wp2_with (fail)
    go_ret2
    exact io_mk HE.out (below_draws (Below.refl _ _) n)
  · cases h2 : scaleB zs
    · have HE : Bx (rotTo xs zs = (0, 1)) := Bx.mk (by simp [rotTo, h2])
      rw [h1] at hsa
      rw [h2] at hsb
      clear h1 h2
      go_enter Try.func23, Try.ntmps23
      go_wp2_with (fail)
      refine (hsa _ HA.out).mono ?_
      rintro e w' ⟨rfl, n, rfl⟩
      go_wp2_with (fail)
      refine (hsb _ (HB.out.draws n)).mono ?_
      rintro e w' ⟨rfl, n2, rfl⟩
      go_wp2_with (fail)
      go_ret2
      exact io_mk HE.out (below_draws (Below.refl _ _) (n + n2))
    · have HH := Bx.mk (fun k hk h hn => rotTo_hit (xs := xs) (zs := zs) h1 h2 k hk h hn)
      have HM := Bx.mk (fun hn => rotTo_miss (xs := xs) (zs := zs) h1 h2 hn)
      obtain ⟨⟨l1, l2⟩, _, _⟩ := scale_yes h1
      have hro : ∀ k, k < xs.length → ∀ W, IntsAt W (.slice A1 xs.length c1) xs → Calls Try.prog 22 #[.slice A1 xs.length c1, .int .i64 (k : Int)] W (LCOut (rotL xs k xs.length, 0) W) := fun k hk W h => by
        rw [← rotC_in h1 k hk]; exact impl_rotate (.slice A1 xs.length c1) xs k W h hx
      have hsm := fun v ys W h h' hy => impl_same v (.slice A2 zs.length c2) ys zs W h h' hy hz
      rw [h1] at hsa
      rw [h2] at hsb
      clear h1 h2
      go_enter Try.func23, Try.ntmps23
      go_wp2_with (fail)
      refine (hsa _ HA.out).mono ?_
      rintro e w' ⟨rfl, n, rfl⟩
      go_wp2_with (fail)
      refine (hsb _ (HB.out.draws n)).mono ?_
      rintro e w' ⟨rfl, n2, rfl⟩
      go_wp2_with (fail)
      go_loopw [19] (fun i wr => ∃ k : Nat, k ≤ xs.length ∧ i = .int .i64 k ∧ Below w.heap.size w wr ∧ Bx (∀ i, i < k → rotL xs i xs.length ≠ zs)) (fun i _ => xs.length - (intOf i).toNat)
      case atStart => exact ⟨0, Nat.zero_le _, rfl, below_draws (Below.refl _ _) (n + n2), Bx.mk (fun i hi => by omega)⟩
      case round =>
        obtain ⟨k, hk, rfl, hbw, HK⟩ := hrel
        have hsz := hbw.size
        by_cases hlt : k < xs.length
        · have hr := fun W h => hro k hlt W h
          have HAr := Bx.mk (HA.out.below hbw)
          have HRl := Bx.mk (rotL_len xs k xs.length)
          clear hro hsa hsb
          by_cases he : rotL xs k xs.length = zs
          · have HE := Bx.mk (HH.out k hlt he HK.out)
            have HD : Bx (decide (rotL xs k xs.length = zs) = true) := Bx.mk (decide_eq_true he)
            clear he HK
            generalize rotL xs k xs.length = ys at *
            go_wp2_with (fail)
            refine (hr _ HAr.out).mono ?_
            intro e w4 ho0
            obtain ⟨v, rfl, ho, hb4⟩ := ho0
            have HY := Bx.mk (IntsAt.own ho)
            have hbw4 : Below w.heap.size w w4 := hbw.trans (hb4.mono hsz)
            have HB4 := Bx.mk (HB.out.below hbw4)
            have hs := hsm v ys w4 HY.out HB4.out (by have := HRl.out; omega)
            rw [HD.out] at hs
            clear ho hb4 hr hsm
            go_wp2_with (fail)
            refine hs.mono ?_
            rintro e w5 ⟨rfl, n5, rfl⟩
            go_wp2_with (fail)
            go_ret2
            exact io_mk HE.out (below_draws hbw4 n5)
          · have HK2 : Bx (∀ i, i < k + 1 → rotL xs i xs.length ≠ zs) := Bx.mk (fun i hi => by
              by_cases hij : i < k
              · exact HK.out i hij
              · obtain rfl : i = k := (by omega); exact he)
            have HD : Bx (decide (rotL xs k xs.length = zs) = false) := Bx.mk (decide_eq_false he)
            clear he HK
            generalize hys : rotL xs k xs.length = ys at hr HRl HD
            clear hys
            go_wp2_with (fail)
            refine (hr _ HAr.out).mono ?_
            intro e w4 ho0
            obtain ⟨v, rfl, ho, hb4⟩ := ho0
            have HY := Bx.mk (IntsAt.own ho)
            have hbw4 : Below w.heap.size w w4 := hbw.trans (hb4.mono hsz)
            have HB4 := Bx.mk (HB.out.below hbw4)
            have hs := hsm v ys w4 HY.out HB4.out (by have := HRl.out; omega)
            rw [HD.out] at hs
            clear ho hb4 hr hsm
            go_wp2_with (fail)
            refine hs.mono ?_
            rintro e w5 ⟨rfl, n5, rfl⟩
            go_wp2_with (fail)
            go_roundw
            case rel => exact ⟨k + 1, by omega, by go_num, below_draws hbw4 n5, HK2⟩
            case measure => simp [intOf]; omega
        · obtain rfl : k = xs.length := by omega
          have HE := Bx.mk (HM.out HK.out)
          go_wp2_with (fail)
          go_ret2
          exact io_mk HE.out hbw
end Go.Proofs.Ytljegggpgafkiaa
