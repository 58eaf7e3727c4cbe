/- Phrases, by the model: phrases, the order of lists, lists of phrases. -/
import Derived.Test.YtpbgjlmcafmejaaPh2
import Derived.Test.YtpbgjlmcafmejaaRg2
namespace Go.Proofs.Ytpbgjlmcafmejaa
open Go.ChangeShapes Go.WideShapes Go.ChangeAt Go.RowKit
set_option linter.unusedVariables false
set_option linter.unusedSimpArgs false
set_option maxRecDepth 100000

theorem pairR {t : Int × Int} {a b : Int} (h : t = (a, b)) : Ending.returned (.tuple #[.int .i64 a, .int .i64 b]) = .returned (.tuple #[.int .i64 t.1, .int .i64 t.2]) := by
  subst h; rfl
theorem ph_split (zs : List Int) : phB zs = (pitB zs && (decide (2 ≤ zs.length) && decide (zs.length ≤ 8))) := by
  unfold phB
  rw [Bool.eq_iff_iff]
  simp only [Bool.and_eq_true, decide_eq_true_eq]
set_option maxHeartbeats 2000000 in
theorem spec_before (va vb : Value) (a b : List Int) (w : World) (ha : IntsAt w va a) (hb : IntsAt w vb b) (h1 : a.length ≤ 1048576) (h2 : b.length ≤ 1048576) :
    Calls Try.prog 102 #[va, vb] w fun e w' => e = .returned (.bool (lexB a b)) ∧ ∃ n, w' = w.drewN n := by
  obtain ⟨A, c, rfl⟩ := ints_form ha
  obtain ⟨B, d, rfl⟩ := ints_form hb
  have HA := Bx.mk ha
  have HB := Bx.mk hb
  clear ha hb
  go_enter Try.func102, Try.ntmps102
  go_wp2_with (fail)
  go_loopw [5] (fun i wr => ∃ k : Nat, (k ≤ a.length ∧ k ≤ b.length) ∧ i = .int .i64 k ∧ Bx (lexB a b = lexB (a.drop k) (b.drop k)) ∧ Bx (∃ n, wr = w.drewN n)) (fun i _ => a.length - (intOf i).toNat)
  case atStart => exact ⟨0, ⟨Nat.zero_le _, Nat.zero_le _⟩, rfl, Bx.mk rfl, Bx.mk ⟨0, rfl⟩⟩
  case round =>
    obtain ⟨k, ⟨hk1, hk2⟩, rfl, HK, HW⟩ := hrel
    by_cases hla : k < a.length
    · by_cases hlb : k < b.length
      · obtain ⟨b1, o1, cc1, hv1, _, hc1⟩ := HA.out.form (by omega)
        obtain ⟨b2, o2, cc2, hv2, _, hc2⟩ := HB.out.form (by omega)
        injection hv1 with hA1 _ hC1
        injection hv2 with hA2 _ hC2
        subst hA1 hC1 hA2 hC2
        have x1 : wr.cell? ⟨b1, o1 + k, none⟩ = some (.int .i64 (a.getD k 0)) := by obtain ⟨n, rfl⟩ := HW.out; exact hc1 k hla
        have x2 : wr.cell? ⟨b2, o2 + k, none⟩ = some (.int .i64 (b.getD k 0)) := by obtain ⟨n, rfl⟩ := HW.out; exact hc2 k hlb
        have HN := Bx.mk (lexB_ne a b k hla hlb)
        have HQ := Bx.mk (lexB_eq a b k hla hlb)
        have k1 : (0 : Int) ≤ (k : Int) := by omega
        have k2 : (k : Int) < (a.length : Int) := by omega
        have k3 : (k : Int) < (b.length : Int) := by omega
        have d1 : decide ((k : Int) < (a.length : Int)) = true := decide_eq_true k2
        have d2 : decide ((k : Int) < (b.length : Int)) = true := decide_eq_true k3
        clear hc1 hc2 HA HB
        generalize a.getD k 0 = x at *
        generalize b.getD k 0 = y at *
        by_cases hxy : x = y
        · have HN2 : Bx (lexB a b = lexB (a.drop (k + 1)) (b.drop (k + 1))) := Bx.mk (HK.out.trans (HQ.out hxy))
          have d3 : (x != y) = false := by simpa using hxy
          clear HN HQ HK hxy
          go_wp2_with (fail)
          go_quiet (fail)
          go_wp2_with (fail)
          go_roundw
          case rel => exact ⟨k + 1, by omega, by go_num, HN2, Bx.mk (drmore HW.out _)⟩
          case measure => simp [intOf]; omega
        · have HN2 : Bx (lexB a b = decide (x < y)) := Bx.mk (HK.out.trans (HN.out hxy))
          have d3 : (x != y) = true := by simpa using hxy
          clear HN HQ HK hxy
          go_wp2_with (fail)
          go_quiet (fail)
          go_wp2_with (fail)
          go_quiet (fail)
          go_wp2_with (fail)
          go_ret
          exact ⟨ret_bool HN2.out.symm, drmore (drmore HW.out _) _⟩
      · have HE : Bx (lexB a b = decide (a.length < b.length)) := Bx.mk (HK.out.trans (lexB_end a b k (by omega) hk1 hk2))
        have d1 : decide ((k : Int) < (a.length : Int)) = true := decide_eq_true (by omega)
        have d2 : decide ((k : Int) < (b.length : Int)) = false := decide_eq_false (by omega)
        clear HK HA HB
        go_wp2_with (fail)
        go_ret
        exact ⟨ret_bool (by rw [HE.out, decide_eq_decide]; try omega), HW.out⟩
    · have HE : Bx (lexB a b = decide (a.length < b.length)) := Bx.mk (HK.out.trans (lexB_end a b k (by omega) hk1 hk2))
      have d1 : decide ((k : Int) < (a.length : Int)) = false := decide_eq_false (by omega)
      clear HK HA HB
      go_wp2_with (fail)
      go_ret
      exact ⟨ret_bool (by rw [HE.out, decide_eq_decide]; try omega), HW.out⟩
end Go.Proofs.Ytpbgjlmcafmejaa
