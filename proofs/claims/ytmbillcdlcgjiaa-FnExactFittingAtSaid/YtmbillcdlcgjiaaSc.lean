/- Scales: the model's small functions. -/
import Derived.Test.YtmbillcdlcgjiaaNum
import Derived.Test.YtmbillcdlcgjiaaRow
import Derived.LoopTactic
import Derived.BigRegion
import Derived.Handy
namespace Go.Proofs.Ytmbillcdlcgjiaa
open Go.ChangeShapes Go.WideShapes Go.ChangeAt Go.RowKit
set_option linter.unusedVariables false
set_option linter.unusedSimpArgs false
set_option maxRecDepth 100000

theorem IntsAt.form {w : World} {v : Value} {zs : List Int} (h : IntsAt w v zs) (hl : 0 < zs.length) : ∃ b o c, v = .slice (some ⟨b, o, none⟩) zs.length c ∧ b < w.heap.size ∧ ∀ k, k < zs.length → w.cell? ⟨b, o + k, none⟩ = some (.int .i64 (zs.getD k 0)) := by
  rcases h with ⟨rfl, _⟩ | h
  · cases hl
  · exact h
theorem IntsAt.len {w : World} {v : Value} {zs : List Int} (h : IntsAt w v zs) : ∃ A c, v = .slice A zs.length c := by
  rcases h with ⟨rfl, A, c, h⟩ | ⟨b, o, c, h, _⟩
  · exact ⟨A, c, h⟩
  · exact ⟨_, c, h⟩
theorem tone_rng (p : Int) : 0 ≤ p % 12 ∧ p % 12 < 12 := ⟨Int.emod_nonneg _ (by decide), Int.emod_lt_of_pos _ (by decide)⟩
theorem tmod12 (p : Int) : -11 ≤ p.tmod 12 ∧ p.tmod 12 ≤ 11 ∧ (p.tmod 12 + 12) % 12 = p % 12 := by
  rcases Int.lt_or_le p 0 with h | h
  · have e : p.tmod 12 = -((-p) % 12) := by
      have := Int.neg_tmod (-p) 12
      rw [Int.neg_neg] at this
      rw [this, Int.tmod_eq_emod_of_nonneg (by omega)]
    rw [e]; omega
  · rw [Int.tmod_eq_emod_of_nonneg h]; omega
/-- rising numbers within bounds -/
def riseB (lo hi : Int) (zs : List Int) : Bool := decide (∀ i, i < zs.length → (lo ≤ zs.getD i 0 ∧ zs.getD i 0 ≤ hi) ∧ (0 < i → zs.getD (i - 1) 0 < zs.getD i 0))
theorem rise_no {lo hi : Int} {zs : List Int} (i : Nat) (h : i < zs.length) (hn : ¬ ((lo ≤ zs.getD i 0 ∧ zs.getD i 0 ≤ hi) ∧ (0 < i → zs.getD (i - 1) 0 < zs.getD i 0))) : riseB lo hi zs = false := by
  unfold riseB
  exact decide_eq_false (fun hh => hn (hh i h))
theorem rise_yes {lo hi : Int} {zs : List Int} (h : ∀ i, i < zs.length → (lo ≤ zs.getD i 0 ∧ zs.getD i 0 ≤ hi) ∧ (0 < i → zs.getD (i - 1) 0 < zs.getD i 0)) : riseB lo hi zs = true := decide_eq_true h
theorem drew_more {w wr : World} (h : ∃ n, wr = w.drewN n) (m : Nat) : ∃ n, wr.drewN m = w.drewN n := by
  obtain ⟨n, rfl⟩ := h
  exact ⟨n + m, World.drewN_drewN ..⟩
theorem quiet_m {P : Program} {f : FuncId} {args : Array Value} {w : World} {n : Nat} {v : Value}
    (h : Calls P f args (w.drewN n) fun e w' => e = .returned v ∧ ∃ m, w' = (w.drewN n).drewN m) : Calls P f args (w.drewN n) fun e w'' => e = .returned v ∧ ∃ m, w'' = w.drewN m :=
  h.mono fun _ _ ⟨he, m, hm⟩ => ⟨he, n + m, by rw [hm]; exact World.drewN_drewN ..⟩
theorem quiet_n' {P : Program} {f : FuncId} {args : Array Value} {w : World} {n : Nat} {v : Value}
    (h : Calls P f args (w.drewN n) fun e w' => e = .returned v ∧ w.drewN n = w') : Calls P f args (w.drewN n) fun e w'' => e = .returned v ∧ ∃ m, w'' = w.drewN m :=
  h.mono fun _ _ ⟨he, hm⟩ => ⟨he, n, hm.symm⟩
set_option maxHeartbeats 1000000 in
theorem spec_rises (v : Value) (zs : List Int) (lo hi : Int) (w : World) (h : IntsAt w v zs) (hl : 0 < zs.length) (hm : zs.length ≤ 281474976710656) :
    Calls Try.prog 102 #[v, .int .i64 lo, .int .i64 hi] w fun e w' => e = .returned (.bool (riseB lo hi zs)) ∧ ∃ n, w' = w.drewN n := by
  obtain ⟨b, o, c, rfl, hb, hc⟩ := h.form hl
  have HC := Bx.mk hc
  clear h hc
  go_enter Try.func102, Try.ntmps102
  have hin := fun z W => in_any z lo hi W
  have hlc : (0 : Int) ≤ (zs.length : Int) := by omega
  go_wp2_with (fail)
  go_loopw [7] (fun i wr => ∃ k : Nat, k ≤ zs.length ∧ i = .int .i64 k ∧ Bx (∀ i, i < k → (lo ≤ zs.getD i 0 ∧ zs.getD i 0 ≤ hi) ∧ (0 < i → zs.getD (i - 1) 0 < zs.getD i 0)) ∧ ∃ n, wr = w.drewN n) (fun i _ => zs.length - (intOf i).toNat)
  case atStart => exact ⟨0, Nat.zero_le _, rfl, Bx.mk (fun i hi => by omega), 0, rfl⟩
  case round =>
    obtain ⟨k, hk, rfl, HK, hw⟩ := hrel
    have HW := Bx.mk hw
    have hcw : ∀ k, k < zs.length → wr.cell? ⟨b, o + k, none⟩ = some (.int .i64 (zs.getD k 0)) := by obtain ⟨n, rfl⟩ := hw; exact HC.out
    clear hw
    have HCW := Bx.mk hcw
    clear hcw
    by_cases hlt : k < zs.length
    · have h1 : wr.cell? ⟨b, o + k, none⟩ = some (.int .i64 (zs.getD k 0)) := HCW.out k hlt
      have x1 : (0 : Int) ≤ (k : Int) := by omega
      have x2 : (k : Int) < (zs.length : Int) := by omega
      cases hr : inB (zs.getD k 0) lo hi
      · have HN : Bx (riseB lo hi zs = false) := Bx.mk (rise_no k hlt (fun hh => by have := inB_mk hh.1; rw [hr] at this; cases this))
        have hin2 := fun W => hin (zs.getD k 0) W
        rw [hr] at hin2
        clear hr HK hin
        generalize zs.getD k 0 = z at *
        go_wp2_with (fail)
        go_quiet ((go_at_call 70; exact quiet_eq (hin2 _)))
        go_wp2_with (fail)
        go_ret
        exact ⟨ret_bool HN.out.symm, drew_more HW.out _⟩
      · have hin2 := fun W => hin (zs.getD k 0) W
        rw [hr] at hin2
        have HR := Bx.mk (inB_yes hr)
        clear hr hin
        cases k with
        | zero =>
          have HS : Bx (∀ i, i < 1 → (lo ≤ zs.getD i 0 ∧ zs.getD i 0 ≤ hi) ∧ (0 < i → zs.getD (i - 1) 0 < zs.getD i 0)) := Bx.mk (fun i hi => by obtain rfl : i = 0 := (by omega); exact ⟨HR.out, fun h => by omega⟩)
          clear HR HK
          generalize zs.getD 0 0 = z at h1 hin2
          simp only [Nat.add_zero] at h1
          go_wp2_with (fail)
          go_quiet ((go_at_call 70; exact quiet_eq (hin2 _)))
          go_wp2_with (fail)
          go_roundw
          case rel => exact ⟨1, by omega, by go_num, HS, drew_more HW.out _⟩
          case measure => simp [intOf]; omega
        | succ j =>
          have h0 : wr.cell? ⟨b, o + j, none⟩ = some (.int .i64 (zs.getD j 0)) := HCW.out j (by omega)
          have y1 : (0 : Int) ≤ (j : Int) + 1 := by omega
          have y2 : (j : Int) + 1 < (zs.length : Int) := by omega
          have y3 : ((j : Int) + 1).toNat = j + 1 := by omega
          have x3 : decide ((j : Int) + 1 > 0) = true := decide_eq_true (by omega)
          have x4 : IntKind.i64.wrap ((j : Int) + 1 - 1) = (j : Int) := by rw [show (j : Int) + 1 - 1 = j by omega]; exact IntWalk.i64_in _ (by omega)
          have x5 : (0 : Int) ≤ (j : Int) := by omega
          have x6 : (j : Int) < (zs.length : Int) := by omega
          by_cases hlt2 : zs.getD j 0 < zs.getD (j + 1) 0
          · have HS : Bx (∀ i, i < j + 1 + 1 → (lo ≤ zs.getD i 0 ∧ zs.getD i 0 ≤ hi) ∧ (0 < i → zs.getD (i - 1) 0 < zs.getD i 0)) := Bx.mk (fun i hi => by
              by_cases hij : i < j + 1
              · exact HK.out i hij
              · obtain rfl : i = j + 1 := (by omega)
                exact ⟨HR.out, fun _ => hlt2⟩)
            clear HR HK
            generalize zs.getD (j + 1) 0 = z at *
            generalize zs.getD j 0 = y at *
            have x7 : decide (y ≥ z) = false := decide_eq_false (by omega)
            go_wp2_with (fail)
            go_quiet ((go_at_call 70; exact quiet_eq (hin2 _)))
            go_wp2_with (fail)
            go_roundw
            case rel => exact ⟨j + 1 + 1, by omega, by go_num, HS, drew_more HW.out _⟩
            case measure => simp [intOf]; omega
          · have HN : Bx (riseB lo hi zs = false) := Bx.mk (rise_no (j + 1) hlt (fun hh => hlt2 (by simpa using hh.2 (by omega))))
            clear HR HK
            generalize zs.getD (j + 1) 0 = z at *
            generalize zs.getD j 0 = y at *
            have x7 : decide (y ≥ z) = true := decide_eq_true (by omega)
            go_wp2_with (fail)
            go_quiet ((go_at_call 70; exact quiet_eq (hin2 _)))
            go_wp2_with (fail)
            go_ret
            exact ⟨ret_bool HN.out.symm, drew_more HW.out _⟩
    · obtain rfl : k = zs.length := by omega
      have HN : Bx (riseB lo hi zs = true) := Bx.mk (rise_yes HK.out)
      go_wp2_with (fail)
      go_ret
      exact ⟨ret_bool HN.out.symm, HW.out⟩
end Go.Proofs.Ytmbillcdlcgjiaa
