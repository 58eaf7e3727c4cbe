/- Phrases, by the model: where a phrase stands; BorderOf, FindPhrase, CountApart, MovePhrase. -/
import Derived.Test.YtpbgjlmcafmejaaPs
import Derived.Test.YtpbgjlmcafmejaaSc5
namespace Go.Proofs.Ytpbgjlmcafmejaa
open Go.ChangeShapes Go.WideShapes Go.ChangeAt Go.RowKit
set_option linter.unusedVariables false
set_option linter.unusedSimpArgs false
set_option maxRecDepth 100000

theorem occ_no {p t : List Int} {i : Nat} (k : Nat) (hk : k < p.length) (hne : p.getD k 0 ≠ t.getD (i + k) 0) : occB p t i = false := by
  apply Bool.eq_false_iff.2
  intro h
  exact hne (((occ_iff _ _ _).1 h).2 k hk)
set_option maxHeartbeats 2000000 in
theorem spec_occurs (vt vp : Value) (t p : List Int) (i : Nat) (w : World) (ht : IntsAt w vt t) (hp : IntsAt w vp p) (h1 : t.length ≤ 1048576) (h2 : p.length ≤ 1048576) (hi : i ≤ 1048576) :
    Calls Try.prog 135 #[vt, vp, .int .i64 i] w fun e w' => e = .returned (.bool (occB p t i)) ∧ ∃ n, w' = w.drewN n := by
  obtain ⟨A, c, rfl⟩ := ints_form ht
  obtain ⟨B, d, rfl⟩ := ints_form hp
  by_cases hf : t.length < i + p.length
  · have HE : Bx (occB p t i = false) := Bx.mk (occ_far hf)
    have d1 : decide ((i : Int) + (p.length : Int) > (t.length : Int)) = true := decide_eq_true (by omega)
    have x1 : IntKind.i64.wrap ((i : Int) + (p.length : Int)) = (i : Int) + (p.length : Int) := IntWalk.i64_in _ (by omega)
    clear ht hp hf
    go_enter Try.func135, Try.ntmps135
    go_wp2_with (fail)
    go_ret
    exact ⟨ret_bool HE.out.symm, 0, rfl⟩
  · have d1 : decide ((i : Int) + (p.length : Int) > (t.length : Int)) = false := decide_eq_false (by omega)
    have x1 : IntKind.i64.wrap ((i : Int) + (p.length : Int)) = (i : Int) + (p.length : Int) := IntWalk.i64_in _ (by omega)
    have HT := Bx.mk ht
    have HP := Bx.mk hp
    clear ht hp
    go_enter Try.func135, Try.ntmps135
    go_wp2_with (fail)
    clear x1 d1
    go_loopw [7] (fun j wr => ∃ k : Nat, k ≤ p.length ∧ j = .int .i64 k ∧ Bx (∀ j, j < k → p.getD j 0 = t.getD (i + j) 0) ∧ Bx (∃ n, wr = w.drewN n)) (fun j _ => p.length - (intOf j).toNat)
    case atStart => exact ⟨0, Nat.zero_le _, rfl, Bx.mk (fun i hi => absurd hi (Nat.not_lt_zero _)), Bx.mk ⟨0, rfl⟩⟩
    case round =>
      obtain ⟨k, hk, rfl, HK, HW⟩ := hrel
      by_cases hlt : k < p.length
      · obtain ⟨b1, o1, cc1, hv1, _, hc1⟩ := HT.out.form (by omega)
        obtain ⟨b2, o2, cc2, hv2, _, hc2⟩ := HP.out.form (by omega)
        injection hv1 with hA1 _ hC1
        injection hv2 with hA2 _ hC2
        subst hA1 hC1 hA2 hC2
        have x1 : wr.cell? ⟨b1, o1 + (i + k), none⟩ = some (.int .i64 (t.getD (i + k) 0)) := by obtain ⟨n, rfl⟩ := HW.out; exact hc1 (i + k) (by omega)
        have x2 : wr.cell? ⟨b2, o2 + k, none⟩ = some (.int .i64 (p.getD k 0)) := by obtain ⟨n, rfl⟩ := HW.out; exact hc2 k hlt
        have HN := Bx.mk (occ_no (t := t) (i := i) k hlt)
        have HS : Bx (p.getD k 0 = t.getD (i + k) 0 → ∀ j, j < k + 1 → p.getD j 0 = t.getD (i + j) 0) := Bx.mk (fun h j hj => by
          by_cases hik : j = k
          · subst hik; exact h
          · exact HK.out j (by omega))
        have k1 : (0 : Int) ≤ (k : Int) := by omega
        have k2 : (k : Int) < (p.length : Int) := by omega
        have d1 : decide ((k : Int) < (p.length : Int)) = true := decide_eq_true k2
        have y0 : IntKind.i64.wrap ((i : Int) + (k : Int)) = (i : Int) + (k : Int) := IntWalk.i64_in _ (by omega)
        have y1 : (0 : Int) ≤ (i : Int) + (k : Int) := by omega
        have y2 : (i : Int) + (k : Int) < (t.length : Int) := by omega
        have y3 : ((i : Int) + (k : Int)).toNat = i + k := by omega
        clear hc1 hc2 HT HP HK
        generalize t.getD (i + k) 0 = x at *
        generalize p.getD k 0 = y at *
        by_cases hxy : y = x
        · have HS2 := Bx.mk (HS.out hxy)
          have d3 : (x != y) = false := by simp [hxy]
          clear HN HS hxy
          go_wp2_with (fail)
          go_quiet (fail)
          go_wp2_with (fail)
          go_roundw
          case rel => exact ⟨k + 1, by omega, by go_num, HS2, Bx.mk (drmore HW.out _)⟩
          case measure => simp [intOf]; omega
        · have HN2 := Bx.mk (HN.out hxy)
          have d3 : (x != y) = true := bne_iff_ne.2 (fun e => hxy e.symm)
          clear HN HS hxy
          go_wp2_with (fail)
          go_quiet (fail)
          go_wp2_with (fail)
          go_ret
          exact ⟨ret_bool HN2.out.symm, drmore HW.out _⟩
      · obtain rfl : k = p.length := by omega
        have HE : Bx (occB p t i = true) := Bx.mk ((occ_iff _ _ _).2 ⟨by omega, HK.out⟩)
        have d1 : decide ((p.length : Int) < (p.length : Int)) = false := decide_eq_false (by omega)
        clear HK
        go_wp2_with (fail)
        go_ret
        exact ⟨ret_bool HE.out.symm, HW.out⟩
end Go.Proofs.Ytpbgjlmcafmejaa
