/- Phrases, by the program: phrases, slices.Compare, lists of phrases. -/
import Derived.Test.YtpbgjlmcafmejaaPh2
import Derived.Test.YtpbgjlmcafmejaaRg2
namespace Go.Proofs.Ytpbgjlmcafmejaa
open Go.ChangeShapes Go.WideShapes Go.ChangeAt Go.RowKit
set_option linter.unusedVariables false
set_option linter.unusedSimpArgs false
set_option maxRecDepth 100000

def turnB (n : Int) : Bool := decide (2 ≤ n) && decide (n ≤ 8)
theorem impl_isturn (n : Int) (w : World) : Calls Try.prog 105 #[.int .i64 n] w fun e w' => e = .returned (.bool (turnB n)) ∧ w = w' := by
  by_cases h1 : 2 ≤ n
  · have d1 : decide (2 ≤ n) = true := decide_eq_true h1
    by_cases h2 : n ≤ 8
    · have d2 : decide (n ≤ 8) = true := decide_eq_true h2
      have HE : Bx (turnB n = true) := Bx.mk (by unfold turnB; rw [d1, d2]; rfl)
      clear h1 h2
      go_enter Try.func105, Try.ntmps105
      go_wp2_with (fail)
      go_ret
      exact ⟨ret_bool HE.out.symm, rfl⟩
    · have d2 : decide (n ≤ 8) = false := decide_eq_false h2
      have HE : Bx (turnB n = false) := Bx.mk (by unfold turnB; rw [d1, d2]; rfl)
      clear h1 h2
      go_enter Try.func105, Try.ntmps105
      go_wp2_with (fail)
      go_ret
      exact ⟨ret_bool HE.out.symm, rfl⟩
  · have d1 : decide (2 ≤ n) = false := decide_eq_false h1
    have HE : Bx (turnB n = false) := Bx.mk (by unfold turnB; rw [d1]; rfl)
    clear h1
    go_enter Try.func105, Try.ntmps105
    go_wp2_with (fail)
    go_ret
    exact ⟨ret_bool HE.out.symm, rfl⟩
theorem ph_turn (zs : List Int) : phB zs = (turnB (zs.length : Int) && pitB zs) := by
  unfold phB turnB
  rw [Bool.eq_iff_iff]
  simp only [Bool.and_eq_true, decide_eq_true_eq]
  constructor
  · rintro ⟨a, b, c⟩
    exact ⟨⟨by omega, by omega⟩, a⟩
  · rintro ⟨⟨a, b⟩, c⟩
    exact ⟨c, by omega, by omega⟩
set_option maxHeartbeats 2000000 in
theorem std_cmpl (v1 v2 : Value) (a b : List Int) (w : World) (ha : IntsAt w v1 a) (hb : IntsAt w v2 b) (h1 : a.length ≤ 1048576) (h2 : b.length ≤ 1048576) :
    Calls Try.prog 136 #[v1, v2] w fun e w' => e = .returned (.int .i64 (lexC a b)) ∧ w = w' := by
  obtain ⟨A, c, rfl⟩ := ints_form ha
  obtain ⟨B, d, rfl⟩ := ints_form hb
  have HA := Bx.mk ha
  have HB := Bx.mk hb
  clear ha hb
  go_enter Try.func136, Try.ntmps136
  go_wp2_with (fail)
  go_loopw [11] (fun i wr => ∃ k : Nat, (k ≤ a.length ∧ k ≤ b.length) ∧ i = .int .i64 k ∧ Bx (lexC a b = lexC (a.drop k) (b.drop k)) ∧ wr = w) (fun i _ => a.length - (intOf i).toNat)
  case atStart => exact ⟨0, ⟨Nat.zero_le _, Nat.zero_le _⟩, rfl, Bx.mk rfl, rfl⟩
  case round =>
    obtain ⟨k, ⟨hk1, hk2⟩, rfl, HK, rfl⟩ := hrel
    by_cases hla : k < a.length
    · obtain ⟨b1, o1, cc1, hv1, _, hc1⟩ := HA.out.form (by omega)
      injection hv1 with hA1 _ hC1
      subst hA1 hC1
      have x1 := hc1 k hla
      have k1 : (0 : Int) ≤ (k : Int) := by omega
      have k2 : (k : Int) < (a.length : Int) := by omega
      have d1 : decide ((k : Int) < (a.length : Int)) = true := decide_eq_true k2
      by_cases hlb : k < b.length
      · obtain ⟨b2, o2, cc2, hv2, _, hc2⟩ := HB.out.form (by omega)
        injection hv2 with hA2 _ hC2
        subst hA2 hC2
        have x2 := hc2 k hlb
        have hq := fun W => std_cmp (a.getD k 0) (b.getD k 0) W
        have HN := Bx.mk (lexC_ne a b k hla hlb)
        have HQ := Bx.mk (lexC_eq a b k hla hlb)
        have k3 : (k : Int) < (b.length : Int) := by omega
        have d2 : decide ((k : Int) ≥ (b.length : Int)) = false := decide_eq_false (by omega)
        clear hc1 hc2 HA HB
        generalize a.getD k 0 = x at *
        generalize b.getD k 0 = y at *
        generalize cmpI x y = z at *
        by_cases hz : z = 0
        · have HN2 : Bx (lexC a b = lexC (a.drop (k + 1)) (b.drop (k + 1))) := Bx.mk (HK.out.trans (HQ.out hz))
          subst hz
          clear HN HQ HK
          go_wp2_with (fail)
          refine (hq _).mono ?_
          rintro r w1 ⟨rfl, rfl⟩
          go_wp2_with (fail)
          go_roundw
          case rel => exact ⟨k + 1, by omega, by go_num, HN2, by first | rfl | trivial⟩
          case measure => simp [intOf]; omega
        · have HN2 : Bx (lexC a b = z) := Bx.mk (HK.out.trans (HN.out hz))
          have d3 : (z != 0) = true := by simpa using hz
          clear HN HQ HK hz
          go_wp2_with (fail)
          refine (hq _).mono ?_
          rintro r w1 ⟨rfl, rfl⟩
          go_wp2_with (fail)
          go_ret
          exact ⟨ret_int HN2.out.symm, rfl⟩
      · have HE : Bx (lexC a b = 1) := Bx.mk (HK.out.trans (lexC_more a b k hla (by omega)))
        have d2 : decide ((k : Int) ≥ (b.length : Int)) = true := decide_eq_true (by omega)
        clear HK HA HB hc1
        generalize a.getD k 0 = x at *
        go_wp2_with (fail)
        go_ret
        exact ⟨ret_int HE.out.symm, rfl⟩
    · have HE : Bx (lexC a b = if a.length < b.length then -1 else 0) := Bx.mk (HK.out.trans (by rw [lexC_end a b k (by omega), show k = a.length by omega]))
      have d1 : decide ((k : Int) < (a.length : Int)) = false := decide_eq_false (by omega)
      clear HK HA HB
      by_cases hl : a.length < b.length
      · have d2 : decide ((a.length : Int) < (b.length : Int)) = true := decide_eq_true (by omega)
        have HE2 : Bx (lexC a b = -1) := Bx.mk (HE.out.trans (if_pos hl))
        go_wp2_with (fail)
        go_ret
        exact ⟨ret_int HE2.out.symm, rfl⟩
      · have d2 : decide ((a.length : Int) < (b.length : Int)) = false := decide_eq_false (by omega)
        have HE2 : Bx (lexC a b = 0) := Bx.mk (HE.out.trans (if_neg hl))
        go_wp2_with (fail)
        go_ret
        exact ⟨ret_int HE2.out.symm, rfl⟩
end Go.Proofs.Ytpbgjlmcafmejaa
