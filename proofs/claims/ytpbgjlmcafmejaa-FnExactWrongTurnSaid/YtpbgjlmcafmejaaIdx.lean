/- slices.Index and slices.Contains at int64, alone. -/
import Derived.Test.YtpbgjlmcafmejaaSc2
namespace Go.Proofs.Ytpbgjlmcafmejaa
open Go.ChangeShapes Go.WideShapes Go.ChangeAt Go.RowKit
set_option linter.unusedVariables false
set_option linter.unusedSimpArgs false
set_option maxRecDepth 100000

set_option maxHeartbeats 1000000 in
theorem std_index (v : Value) (zs : List Int) (t : Int) (w : World) (h : IntsAt w v zs) (hm : zs.length ≤ 281474976710656) :
    Calls Try.prog 148 #[v, .int .i64 t] w fun e w' => e = .returned (.int .i64 (idxZ zs t)) ∧ w = w' := by
  rcases Nat.eq_zero_or_pos zs.length with h0 | h0
  · obtain ⟨A, c, rfl⟩ := h.len
    have HN : Bx (idxZ zs t = -1) := Bx.mk (by exact idx_miss (fun i hi => by omega))
    have x1 : (zs.length : Int) = 0 := by omega
    rw [h0]
    clear h
    go_enter Try.func148, Try.ntmps148
    go_wp2_with (fail)
    go_loop [8] (fun i => i = .int .i64 0) (fun _ => 0)
    case atStart => rfl
    case round =>
      obtain rfl := hrel
      go_wp2_with (fail)
      go_ret
      exact ⟨ret_int HN.out.symm, rfl⟩
  · obtain ⟨b, o, c, rfl, hb, hc⟩ := h.form h0
    have HC := Bx.mk hc
    clear h hc
    go_enter Try.func148, Try.ntmps148
    go_wp2_with (fail)
    go_loop [8] (fun i => ∃ k : Nat, k ≤ zs.length ∧ i = .int .i64 k ∧ Bx (∀ i, i < k → zs.getD i 0 ≠ t)) (fun i => zs.length - (intOf i).toNat)
    case atStart => exact ⟨0, Nat.zero_le _, rfl, Bx.mk (fun i hi => by omega)⟩
    case round =>
      obtain ⟨k, hk, rfl, HK⟩ := hrel
      by_cases hlt : k < zs.length
      · have h1 : w.cell? ⟨b, o + k, none⟩ = some (.int .i64 (zs.getD k 0)) := HC.out k hlt
        have x1 : (0 : Int) ≤ (k : Int) := by omega
        have x2 : (k : Int) < (zs.length : Int) := by omega
        by_cases he : zs.getD k 0 = t
        · have HN : Bx (idxZ zs t = k) := Bx.mk (by exact idx_hit k hlt he HK.out)
          have y1 : (t == zs.getD k 0) = true := by simpa using he.symm
          clear HK he
          generalize zs.getD k 0 = z at *
          go_wp2_with (fail)
          go_ret
          exact ⟨ret_int HN.out.symm, rfl⟩
        · have HS : Bx (∀ i, i < k + 1 → zs.getD i 0 ≠ t) := Bx.mk (fun i hi => by
            by_cases hij : i < k
            · exact HK.out i hij
            · obtain rfl : i = k := (by omega); exact he)
          have y1 : (t == zs.getD k 0) = false := by simpa using fun e => he (Eq.symm e)
          clear HK he
          generalize zs.getD k 0 = z at *
          go_wp2_with (fail)
          go_round
          case rel => exact ⟨k + 1, by omega, by go_num, HS⟩
          case measure => simp [intOf]; omega
      · obtain rfl : k = zs.length := by omega
        have HN : Bx (idxZ zs t = -1) := Bx.mk (by exact idx_miss HK.out)
        go_wp2_with (fail)
        go_ret
        exact ⟨ret_int HN.out.symm, rfl⟩
theorem std_contains (v : Value) (zs : List Int) (t : Int) (w : World) (h : IntsAt w v zs) (hm : zs.length ≤ 281474976710656) :
    Calls Try.prog 146 #[v, .int .i64 t] w fun e w' => e = .returned (.bool (hasB zs t)) ∧ w = w' := by
  have hq := std_index v zs t w h hm
  have HE : Bx (hasB zs t = decide (idxZ zs t ≥ 0)) := Bx.mk rfl
  obtain ⟨A, c, rfl⟩ := h.len
  generalize idxZ zs t = z at *
  generalize hasB zs t = b at *
  clear h
  go_enter Try.func146, Try.ntmps146
  go_wp2_with (fail)
  refine hq.mono ?_
  rintro r w1 ⟨rfl, rfl⟩
  go_wp2_with (fail)
  go_ret
  exact ⟨ret_bool HE.out.symm, rfl⟩
end Go.Proofs.Ytpbgjlmcafmejaa
