/- The program's isTone and ValidScale, alone. -/
import Derived.Test.YtpbgjlmcafmejaaImS
import Derived.Test.YtpbgjlmcafmejaaSc2
namespace Go.Proofs.Ytpbgjlmcafmejaa
open Go.ChangeShapes Go.WideShapes Go.ChangeAt Go.RowKit
set_option linter.unusedVariables false
set_option linter.unusedSimpArgs false
set_option maxRecDepth 100000

theorem impl_istone (x : Int) (w : World) :
    Calls Try.prog 143 #[.int .i64 x] w fun e w' => e = .returned (.bool (inB x 0 11)) ∧ w = w' := by
  cases hb : inB x 0 11
  · have h := inB_no hb
    clear hb
    by_cases h1 : 0 ≤ x
    · have h2 : ¬ x < 12 := by omega
      clear h
      go_enter Try.func143, Try.ntmps143
      go_wp2
      go_ret
      exact ⟨rfl, rfl⟩
    · clear h
      go_enter Try.func143, Try.ntmps143
      go_wp2
      go_ret
      exact ⟨rfl, rfl⟩
  · obtain ⟨h1, h3⟩ := inB_yes hb
    have h2 : x < 12 := by omega
    clear hb
    go_enter Try.func143, Try.ntmps143
    go_wp2
    go_ret
    exact ⟨rfl, rfl⟩
theorem scale_mk {zs : List Int} (h5 : 5 ≤ zs.length) (h0 : zs.getD 0 0 = 0) (hr : ∀ i, i + 1 < zs.length → zs.getD i 0 < zs.getD (i + 1) 0) (hl : 0 ≤ zs.getD (zs.length - 1) 0 ∧ zs.getD (zs.length - 1) 0 ≤ 11) : scaleB zs = true := by
  have up : ∀ i, i < zs.length → 0 ≤ zs.getD i 0 := by
    intro i
    induction i with
    | zero => intro _; rw [h0]; exact Int.le_refl _
    | succ i ih => intro hi; have := ih (by omega); have := hr i hi; omega
  have dn : ∀ d i, i + d = zs.length - 1 → zs.getD i 0 ≤ 11 := by
    intro d
    induction d with
    | zero => intro i hi; rw [show i = zs.length - 1 by omega]; exact hl.2
    | succ d ih => intro i hi; have h1 := ih (i + 1) (by omega); have := hr i (by omega); omega
  have hri : riseB 0 11 zs = true := rise_yes (fun i hi => ⟨⟨up i hi, dn (zs.length - 1 - i) i (by omega)⟩, fun h => by
    obtain ⟨j, rfl⟩ : ∃ j, i = j + 1 := ⟨i - 1, by omega⟩
    exact hr j hi⟩)
  unfold scaleB
  rw [h0, hri]
  simpa using h5
set_option maxHeartbeats 1000000 in
theorem impl_scale (v : Value) (zs : List Int) (w : World) (h : IntsAt w v zs) (hm : zs.length ≤ 281474976710656) :
    Calls Try.prog 121 #[v] w fun e w' => e = .returned (.bool (scaleB zs)) ∧ ∃ n, w' = w.drewN n := by
  by_cases h5 : 5 ≤ zs.length
  · have hit := impl_istone
    obtain ⟨b, o, c, rfl, hb, hc⟩ := h.form (by omega)
    have h0 := hc 0 (by omega)
    rw [Nat.add_zero] at h0
    have HC := Bx.mk hc
    have x1 : decide ((zs.length : Int) < 5) = false := decide_eq_false (by omega)
    have x2 : (0 : Int) < (zs.length : Int) := by omega
    clear h hc
    by_cases hz : zs.getD 0 0 = 0
    · have HM := Bx.mk (fun hr hl => scale_mk h5 hz hr hl)
      have HN : Bx (∀ i, i + 1 < zs.length → ¬ zs.getD i 0 < zs.getD (i + 1) 0 → scaleB zs = false) := Bx.mk (fun i hi hn => by
        apply Bool.eq_false_iff.2
        intro hs
        exact hn ((rise_all (scale_yes hs).2.1 (i + 1) hi).2 (by omega)))
      have HL : Bx (inB (zs.getD (zs.length - 1) 0) 0 11 = false → scaleB zs = false) := Bx.mk (fun hn => by
        apply Bool.eq_false_iff.2
        intro hs
        rw [inB_mk (scale_in hs (zs.length - 1) (by omega))] at hn
        cases hn)
      have y1 : (zs.getD 0 0 != 0) = false := by simpa using hz
      rw [hz] at h0
      clear hz y1
      go_enter Try.func121, Try.ntmps121
      go_wp2_with (fail)
      go_loopw [16] (fun i wr => ∃ k n : Nat, k + 1 ≤ zs.length ∧ i = .int .i64 k ∧ Bx (∀ i, i < k → zs.getD i 0 < zs.getD (i + 1) 0) ∧ Bx (wr = w.drewN n)) (fun i _ => zs.length - (intOf i).toNat)
      case atStart => exact ⟨0, 0, by omega, rfl, Bx.mk (fun i hi => by omega), Bx.mk rfl⟩
      case round =>
        obtain ⟨k, n, hk, rfl, HK, HW⟩ := hrel
        by_cases hlt : k + 1 < zs.length
        · have h1 : wr.cell? ⟨b, o + k, none⟩ = some (.int .i64 (zs.getD k 0)) := by rw [HW.out]; exact HC.out k (by omega)
          have h2 : wr.cell? ⟨b, o + (k + 1), none⟩ = some (.int .i64 (zs.getD (k + 1) 0)) := by rw [HW.out]; exact HC.out (k + 1) hlt
          have k0 : (0 : Int) ≤ (k : Int) := by omega
          have k1 : (k : Int) < (zs.length : Int) := by omega
          have k2 : (0 : Int) ≤ (k : Int) + 1 := by omega
          have k3 : (k : Int) + 1 < (zs.length : Int) := by omega
          have k4 : ((k : Int) + 1).toNat = k + 1 := by omega
          have k5 : (k : Int) < (zs.length : Int) - 1 := by omega
          have E1 : IntKind.i64.wrap ((k : Int) + 1) = (k : Int) + 1 := IntWalk.i64_in _ (by omega)
          have E2 : IntKind.i64.wrap ((zs.length : Int) - 1) = (zs.length : Int) - 1 := IntWalk.i64_in _ (by omega)
          by_cases hr : zs.getD k 0 < zs.getD (k + 1) 0
          · have HS : Bx (∀ i, i < k + 1 → zs.getD i 0 < zs.getD (i + 1) 0) := Bx.mk (fun i hi => by
              by_cases hij : i < k
              · exact HK.out i hij
              · obtain rfl : i = k := (by omega); exact hr)
            have x7 : decide (zs.getD k 0 ≥ zs.getD (k + 1) 0) = false := decide_eq_false (by omega)
            clear HK HN HL HM
            generalize zs.getD (k + 1) 0 = y at *
            generalize zs.getD k 0 = x at *
            go_wp2_with (fail)
            go_quiet (fail)
            go_wp2_with (fail)
            go_roundw
            case rel => exact ⟨k + 1, _, by omega, by go_num, HS, Bx.mk (by rw [HW.out, World.drewN_drewN])⟩
            case measure => simp [intOf]; omega
          · have HF := Bx.mk (HN.out k hlt (by omega))
            have x7 : decide (zs.getD k 0 ≥ zs.getD (k + 1) 0) = true := decide_eq_true (by omega)
            clear HK HN HL HM hr
            generalize zs.getD (k + 1) 0 = y at *
            generalize zs.getD k 0 = x at *
            go_wp2_with (fail)
            go_quiet (fail)
            go_wp2_with (fail)
            go_ret
            exact ⟨ret_bool HF.out.symm, _, by rw [HW.out, World.drewN_drewN]⟩
        · obtain ⟨m, hm1⟩ : ∃ m : Nat, zs.length = m + 1 := ⟨zs.length - 1, by omega⟩
          obtain rfl : k = m := by omega
          have h1 : wr.cell? ⟨b, o + k, none⟩ = some (.int .i64 (zs.getD k 0)) := by rw [HW.out]; exact HC.out k (by omega)
          have k0 : (0 : Int) ≤ (k : Int) := by omega
          have k1 : (k : Int) < (zs.length : Int) := by omega
          have k5 : ¬ ((k : Int) < (zs.length : Int) - 1) := by omega
          have E2 : (zs.length : Int) - 1 = (k : Int) := by omega
          have HE2 := Bx.mk E2
          have HZ : Bx (zs.length - 1 = k) := Bx.mk (by omega)
          have E3 : IntKind.i64.wrap ((zs.length : Int) - 1) = (k : Int) := by rw [IntWalk.i64_in _ (by omega)]; exact E2
          have hti := fun W => hit (zs.getD k 0) W
          have HF : Bx (inB (zs.getD k 0) 0 11 = scaleB zs) := Bx.mk (by
            cases hi : inB (zs.getD k 0) 0 11
            · exact (HL.out (by rw [HZ.out]; exact hi)).symm
            · exact (HM.out (fun i hi => HK.out i (by omega)) (by rw [HZ.out]; exact inB_yes hi)).symm)
          rw [HF.out] at hti
          clear HK HN HL HM HF hit hlt hk h5 x2
          generalize zs.getD k 0 = x at *
          generalize ht : scaleB zs = t at hti
          have HT := Bx.mk ht
          clear ht
          go_wp2_with (fail)
          refine (hti _).mono ?_
          rintro e w' ⟨rfl, rfl⟩
          go_wp2_with (fail)
          go_ret
          exact ⟨ret_bool HT.out.symm, n, HW.out⟩
    · have HE : Bx (scaleB zs = false) := Bx.mk (by
        apply Bool.eq_false_iff.2
        intro hs
        exact hz (scale_yes hs).2.2)
      have y1 : (zs.getD 0 0 != 0) = true := by simpa using hz
      clear hz
      generalize zs.getD 0 0 = z at *
      go_enter Try.func121, Try.ntmps121
      go_wp2_with (fail)
      go_ret
      exact ⟨ret_bool HE.out.symm, 0, rfl⟩
  · have HE : Bx (scaleB zs = false) := Bx.mk (by simp [scaleB]; intro h; omega)
    obtain ⟨A, c, rfl⟩ := h.len
    have x1 : decide ((zs.length : Int) < 5) = true := decide_eq_true (by omega)
    clear h
    go_enter Try.func121, Try.ntmps121
    go_wp2_with (fail)
    go_ret
    exact ⟨ret_bool HE.out.symm, 0, rfl⟩
end Go.Proofs.Ytpbgjlmcafmejaa
