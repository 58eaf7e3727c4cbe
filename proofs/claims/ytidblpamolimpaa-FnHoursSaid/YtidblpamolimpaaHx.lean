/- The hours' law: plain facts, and the laws' own b10Has and b10Rises. -/
import Derived.Test.YtidblpamolimpaaHo3
import Derived.Test.YtidblpamolimpaaHk
namespace Go.Proofs.Ytidblpamolimpaa
open Go.ChangeShapes Go.WideShapes Go.ChangeAt Go.RowKit
set_option linter.unusedVariables false
set_option linter.unusedSimpArgs false
set_option maxRecDepth 100000

theorem next_least {x : It} {mi b : Int} (hx : OkI x) (hmi : 0 ≤ mi ∧ mi ≤ 1439) (hw : winB x mi = false) (hb : 0 ≤ b ∧ b < (x.f - mi + 1440) % 1440) : winB x ((mi + b) % 1440) = false := by
  obtain ⟨_, hf, hu, _, _, _, _⟩ := hx
  unfold winB at hw ⊢
  simp only [decide_eq_false_iff_not] at hw ⊢
  omega
theorem fit_has (B : Nat → Bool) (n : Nat) (k : Nat) : hasB (fitN B n) (k : Int) = (decide (k < n) && B k) := by
  rw [Bool.eq_iff_iff, hmem, Bool.and_eq_true, decide_eq_true_eq]
  induction n with
  | zero => simp [fitN]
  | succ n ih =>
    unfold fitN
    split
    · rename_i hB
      rw [List.mem_append, ih, List.mem_singleton]
      constructor
      · rintro (⟨h1, h2⟩ | h)
        · exact ⟨by omega, h2⟩
        · obtain rfl : k = n := by omega
          exact ⟨by omega, hB⟩
      · rintro ⟨h1, h2⟩
        by_cases h : k < n
        · exact .inl ⟨h, h2⟩
        · exact .inr (by omega)
    · rename_i hB
      rw [ih]
      constructor
      · rintro ⟨h1, h2⟩; exact ⟨by omega, h2⟩
      · rintro ⟨h1, h2⟩
        refine ⟨?_, h2⟩
        by_cases h : k = n
        · subst h; exact absurd h2 hB
        · omega
theorem fit_sorted (B : Nat → Bool) (n : Nat) : (fitN B n).Pairwise (· < ·) ∧ ∀ z ∈ fitN B n, 0 ≤ z ∧ z < (n : Int) := by
  induction n with
  | zero => exact ⟨by simp [fitN], by simp [fitN]⟩
  | succ n ih =>
    unfold fitN
    split
    · refine ⟨?_, ?_⟩
      · rw [List.pairwise_append]
        refine ⟨ih.1, by simp, fun a ha b hb => ?_⟩
        rw [List.mem_singleton] at hb
        have := ih.2 a ha
        omega
      · intro z hz
        rcases List.mem_append.1 hz with h | h
        · have := ih.2 z h; omega
        · rw [List.mem_singleton] at h; omega
    · exact ⟨ih.1, fun z hz => by have := ih.2 z hz; omega⟩
theorem fit_at (B : Nat → Bool) (n : Nat) (i : Nat) (hi : i < (fitN B n).length) : 0 ≤ (fitN B n).getD i 0 ∧ (fitN B n).getD i 0 < (n : Int) := by
  have := (fit_sorted B n).2 _ (List.getElem_mem hi)
  simpa [List.getD, hi] using this
theorem fit_up (B : Nat → Bool) (n : Nat) (i : Nat) (hi : i + 1 < (fitN B n).length) : (fitN B n).getD i 0 < (fitN B n).getD (i + 1) 0 := by
  have h1 : i < (fitN B n).length := by omega
  have := (List.pairwise_iff_getElem.1 (fit_sorted B n).1) i (i + 1) h1 hi (by omega)
  simpa [List.getD, hi, h1] using this
set_option maxHeartbeats 1000000 in
theorem b10_has (v : Value) (zs : List Int) (t : Int) (w : World) (h : IntsAt w v zs) (hm : zs.length ≤ 281474976710656) :
    Calls Try.prog 12 #[v, .int .i64 t] w fun e w' => e = .returned (.bool (hasB zs t)) ∧ w = w' := by
  rcases Nat.eq_zero_or_pos zs.length with h0 | h0
  · obtain ⟨A, c, rfl⟩ := h.len
    have HN : Bx (hasB zs t = false) := Bx.mk (by exact has_miss (fun i hi => by omega))
    have x1 : (zs.length : Int) = 0 := by omega
    rw [h0]
    clear h
    go_enter Try.func12, Try.ntmps12
    go_wp2_with (fail)
    go_loop [5] (fun i => i = .int .i64 0) (fun _ => 0)
    case atStart => rfl
    case round =>
      obtain rfl := hrel
      go_wp2_with (fail)
      go_ret
      exact ⟨ret_bool HN.out.symm, rfl⟩
  · obtain ⟨b, o, c, rfl, hb, hc⟩ := h.form h0
    have HC := Bx.mk hc
    clear h hc
    go_enter Try.func12, Try.ntmps12
    go_wp2_with (fail)
    go_loop [5] (fun i => ∃ k : Nat, k ≤ zs.length ∧ i = .int .i64 k ∧ Bx (∀ i, i < k → zs.getD i 0 ≠ t)) (fun i => zs.length - (intOf i).toNat)
    case atStart => exact ⟨0, Nat.zero_le _, rfl, Bx.mk (fun i hi => by omega)⟩
    case round =>
      obtain ⟨k, hk, rfl, HK⟩ := hrel
      by_cases hlt : k < zs.length
      · have h1 : w.cell? ⟨b, o + k, none⟩ = some (.int .i64 (zs.getD k 0)) := HC.out k hlt
        have x1 : (0 : Int) ≤ (k : Int) := by omega
        have x2 : (k : Int) < (zs.length : Int) := by omega
        by_cases he : zs.getD k 0 = t
        · have HN : Bx (hasB zs t = true) := Bx.mk (by exact has_hit k hlt he HK.out)
          have y1 : (zs.getD k 0 == t) = true := by simpa using he
          clear HK he
          generalize zs.getD k 0 = z at *
          go_wp2_with (fail)
          go_ret
          exact ⟨ret_bool HN.out.symm, rfl⟩
        · have HS : Bx (∀ i, i < k + 1 → zs.getD i 0 ≠ t) := Bx.mk (fun i hi => by
            by_cases hij : i < k
            · exact HK.out i hij
            · obtain rfl : i = k := (by omega); exact he)
          have y1 : (zs.getD k 0 == t) = false := by simpa using he
          clear HK he
          generalize zs.getD k 0 = z at *
          go_wp2_with (fail)
          go_round
          case rel => exact ⟨k + 1, by omega, by go_num, HS⟩
          case measure => simp [intOf]; omega
      · obtain rfl : k = zs.length := by omega
        have HN : Bx (hasB zs t = false) := Bx.mk (by exact has_miss HK.out)
        go_wp2_with (fail)
        go_ret
        exact ⟨ret_bool HN.out.symm, rfl⟩

set_option maxHeartbeats 1000000 in
theorem b10_rises (v : Value) (zs : List Int) (n : Nat) (w : World) (h : IntsAt w v zs) (hm : zs.length ≤ 1048576) (hr : Bx (∀ i, i < zs.length → 0 ≤ zs.getD i 0 ∧ zs.getD i 0 < (n : Int))) (hu : Bx (∀ i, i + 1 < zs.length → zs.getD i 0 < zs.getD (i + 1) 0)) :
    Calls Try.prog 13 #[v, .int .i64 (n : Int)] w fun e w' => e = .returned (.bool true) ∧ Below w.heap.size w w' := by
  obtain ⟨A, c, rfl⟩ := h.len
  have HI := Bx.mk h
  clear h
  go_enter Try.func13, Try.ntmps13
  go_wp2_with (fail)
  go_loopw [5] (fun i wr => ∃ k : Nat, k ≤ zs.length ∧ i = .int .i64 k ∧ ∃ m, wr = w.drewN m) (fun i _ => zs.length - (intOf i).toNat)
  case atStart => exact ⟨0, Nat.zero_le _, rfl, 0, rfl⟩
  case round =>
    obtain ⟨k, hk, rfl, hw⟩ := hrel
    by_cases hlt : k < zs.length
    · have HIw : Bx (IntsAt wr (.slice A zs.length c) zs) := Bx.mk (by obtain ⟨m, rfl⟩ := hw; exact HI.out)
      obtain ⟨b, o, c', e, hb, hc⟩ := HIw.out.form (by omega)
      injection e with e1 e2 e3
      subst e1 e3
      have h1 := hc k hlt
      have x1 : (0 : Int) ≤ (k : Int) := by omega
      have x2 : (k : Int) < (zs.length : Int) := by omega
      have dlt : decide ((k : Int) < (zs.length : Int)) = true := decide_eq_true x2
      have hrk := hr.out k hlt
      cases k with
      | zero =>
        have h1' : wr.cell? ⟨b, o, none⟩ = some (.int .i64 (zs.getD 0 0)) := h1
        generalize zs.getD 0 0 = z at *
        have d1 : decide (z < 0) = false := decide_eq_false (by omega)
        have d2 : decide (z ≥ (n : Int)) = false := decide_eq_false (by omega)
        have d3 : decide ((0 : Int) > 0) = false := by decide
        clear hc HI HIw
        go_wp2_with (fail)
        try go_quiet (fail)
        try go_wp2_with (fail)
        go_roundw
        case rel => exact ⟨1, by omega, by go_num, drmore hw _⟩
        case measure => simp [intOf]; omega
      | succ j =>
        have h2 := hc j (by omega)
        have hj := hu.out j hlt
        have x4' : IntKind.i64.wrap (j : Int) = (j : Int) := IntWalk.i64_in _ (by omega)
        have x4 : IntKind.i64.wrap ((j : Int) + 1 - 1) = (j : Int) := by rw [show (j : Int) + 1 - 1 = j by omega]; exact x4'
        have z1 : (0 : Int) ≤ (j : Int) + 1 := by omega
        have z2 : (j : Int) + 1 < (zs.length : Int) := by omega
        have z3 : ((j : Int) + 1).toNat = j + 1 := by omega
        have x5 : (0 : Int) ≤ (j : Int) := by omega
        have x6 : (j : Int) < (zs.length : Int) := by omega
        have d3 : decide ((j : Int) + 1 > 0) = true := decide_eq_true (by omega)
        generalize zs.getD (j + 1) 0 = z at *
        generalize zs.getD j 0 = y at *
        have d1 : decide (z < 0) = false := decide_eq_false (by omega)
        have d2 : decide (z ≥ (n : Int)) = false := decide_eq_false (by omega)
        have d4 : decide (y ≥ z) = false := decide_eq_false (by omega)
        clear hc HI HIw
        go_wp2_with (fail)
        try go_quiet (fail)
        try go_wp2_with (fail)
        go_roundw
        case rel => exact ⟨j + 1 + 1, by omega, by go_num, drmore hw _⟩
        case measure => simp [intOf]; omega
    · obtain rfl : k = zs.length := by omega
      have dlt : decide ((zs.length : Int) < (zs.length : Int)) = false := decide_eq_false (by omega)
      go_wp2_with (fail)
      go_ret
      exact ⟨rfl, quietB hw⟩
end Go.Proofs.Ytidblpamolimpaa
