/- RangeOf: the program. -/
import Derived.Test.YtendfnimhmnioaaNi3
namespace Go.Proofs.Ytendfnimhmnioaa
open Go.ChangeShapes Go.WideShapes Go.ChangeAt Go.RowKit
set_option linter.unusedVariables false
set_option linter.unusedSimpArgs false
set_option maxRecDepth 100000

theorem lowNs (zs : List Int) (k : Nat) : lowN zs (k + 1) = min (lowN zs k) (zs.getD (k + 1) 0) := rfl
theorem topNs (zs : List Int) (k : Nat) : topN zs (k + 1) = max (topN zs k) (zs.getD (k + 1) 0) := rfl
set_option maxHeartbeats 2000000 in
theorem std_min9 (v : Value) (zs : List Int) (w : World) (h : IntsAt w v zs) (h0 : 0 < zs.length) (hm : zs.length ≤ 1048576) :
    Calls Try.prog 63 #[v] w fun e w' => e = .returned (.int .i64 (lowN zs (zs.length - 1))) ∧ w = w' := by
  obtain ⟨b, o, c, rfl, hb, hc⟩ := h.form h0
  have h1 := hc 0 h0
  have HC := Bx.mk hc
  have HZ : Bx (lowN zs 0 = zs.getD 0 0) := Bx.mk rfl
  have d0 : decide ((zs.length : Int) < 1) = false := decide_eq_false (by omega)
  have d0n : ¬ ((zs.length : Int) < 1) := by omega
  have x0 : (0 : Int) < (zs.length : Int) := by omega
  rw [Nat.add_zero] at h1
  rw [← HZ.out] at h1
  clear hc h
  go_enter Try.func63, Try.ntmps63
  go_wp2_with (fail)
  go_loopw [3, 4] (fun lo i wr => ∃ k : Nat, k + 1 ≤ zs.length ∧ i = .int .i64 ((k : Int) + 1) ∧ lo = .int .i64 (lowN zs k) ∧ wr = w) (fun _ i _ => zs.length - (intOf i).toNat)
  case atStart => exact ⟨0, by omega, rfl, rfl, rfl⟩
  case round =>
    obtain ⟨k, hk, rfl, rfl, rfl⟩ := hrel
    by_cases hlt : k + 1 < zs.length
    · have c1 := HC.out (k + 1) hlt
      have k1 : (0 : Int) ≤ (k : Int) + 1 := by omega
      have k2 : (k : Int) + 1 < (zs.length : Int) := by omega
      have k3 : ((k : Int) + 1).toNat = k + 1 := by omega
      have y1 : IntKind.i64.wrap ((k : Int) + 1 + 1) = (k : Int) + 1 + 1 := IntWalk.i64_in _ (by omega)
      have HL := Bx.mk (lowNs zs k)
      clear HC h1 HZ
      generalize zs.getD (k + 1) 0 = p at *
      generalize lowN zs k = lo at *
      go_wp2_with (fail)
      go_roundw
      case rel => exact ⟨k + 1, by omega, by go_num, by rw [HL.out]; congr 1; split <;> omega, by first | rfl | trivial⟩
      case measure => simp [intOf]; omega
    · obtain rfl : k = zs.length - 1 := by omega
      have k2 : ¬ (((zs.length - 1 : Nat) : Int) + 1 < (zs.length : Int)) := by omega
      go_wp2_with (fail)
      go_ret
      exact ⟨rfl, rfl⟩
set_option maxHeartbeats 2000000 in
theorem std_max9 (v : Value) (zs : List Int) (w : World) (h : IntsAt w v zs) (h0 : 0 < zs.length) (hm : zs.length ≤ 1048576) :
    Calls Try.prog 64 #[v] w fun e w' => e = .returned (.int .i64 (topN zs (zs.length - 1))) ∧ w = w' := by
  obtain ⟨b, o, c, rfl, hb, hc⟩ := h.form h0
  have h1 := hc 0 h0
  have HC := Bx.mk hc
  have HZ : Bx (topN zs 0 = zs.getD 0 0) := Bx.mk rfl
  have d0 : decide ((zs.length : Int) < 1) = false := decide_eq_false (by omega)
  have d0n : ¬ ((zs.length : Int) < 1) := by omega
  have x0 : (0 : Int) < (zs.length : Int) := by omega
  rw [Nat.add_zero] at h1
  rw [← HZ.out] at h1
  clear hc h
  go_enter Try.func64, Try.ntmps64
  go_wp2_with (fail)
  go_loopw [3, 4] (fun lo i wr => ∃ k : Nat, k + 1 ≤ zs.length ∧ i = .int .i64 ((k : Int) + 1) ∧ lo = .int .i64 (topN zs k) ∧ wr = w) (fun _ i _ => zs.length - (intOf i).toNat)
  case atStart => exact ⟨0, by omega, rfl, rfl, rfl⟩
  case round =>
    obtain ⟨k, hk, rfl, rfl, rfl⟩ := hrel
    by_cases hlt : k + 1 < zs.length
    · have c1 := HC.out (k + 1) hlt
      have k1 : (0 : Int) ≤ (k : Int) + 1 := by omega
      have k2 : (k : Int) + 1 < (zs.length : Int) := by omega
      have k3 : ((k : Int) + 1).toNat = k + 1 := by omega
      have y1 : IntKind.i64.wrap ((k : Int) + 1 + 1) = (k : Int) + 1 + 1 := IntWalk.i64_in _ (by omega)
      have HL := Bx.mk (topNs zs k)
      clear HC h1 HZ
      generalize zs.getD (k + 1) 0 = p at *
      generalize topN zs k = lo at *
      go_wp2_with (fail)
      go_roundw
      case rel => exact ⟨k + 1, by omega, by go_num, by rw [HL.out]; congr 1; split <;> omega, by first | rfl | trivial⟩
      case measure => simp [intOf]; omega
    · obtain rfl : k = zs.length - 1 := by omega
      have k2 : ¬ (((zs.length - 1 : Nat) : Int) + 1 < (zs.length : Int)) := by omega
      go_wp2_with (fail)
      go_ret
      exact ⟨rfl, rfl⟩
set_option maxHeartbeats 2000000 in
theorem impl_rangeof (v : Value) (l : List (Int × Int)) (w : World) (h : PrsAt w v l) (hm : l.length ≤ 1048576) :
    Calls Try.prog 37 #[v] w fun e w' => e = .returned (.tuple #[.int .i64 (rngE l).1, .int .i64 (rngE l).2.1, .int .i64 (rngE l).2.2]) ∧ Below w.heap.size w w' := by
  have hq := fun W h => impl_validmelody v l W h hm
  have hp := fun W h => impl_pits9 v l W h hm
  have h' := h
  obtain ⟨A, c, rfl⟩ := prs_len h'
  have HI := Bx.mk h
  clear h hm h'
  cases hok : okM l
  · have HE : Bx (rngE l = (0, 0, 1)) := Bx.mk (by simp [rngE, hok])
    rw [hok] at hq
    rw [HE.out]
    clear hok
    go_enter Try.func37, Try.ntmps37
    go_wp2_with (fail)
    refine (hq _ HI.out).mono ?_
    rintro r w1 ⟨rfl, hb1⟩
    have B1 := Bx.mk hb1
    clear hb1
    go_wp2_with (fail)
    go_ret3
    exact ⟨rfl, B1.out⟩
  · have hm := (okM_yes hok).1
    rw [hok] at hq
    rcases Nat.eq_zero_or_pos l.length with h0 | h0
    · have HE : Bx (rngE l = (0, 0, 6)) := Bx.mk (by simp [rngE, hok, h0])
      rw [HE.out]
      have e0 : ((l.length : Int) == 0) = true := by simp [h0]
      clear hok h0
      go_enter Try.func37, Try.ntmps37
      go_wp2_with (fail)
      refine (hq _ HI.out).mono ?_
      rintro r w1 ⟨rfl, hb1⟩
      have B1 := Bx.mk hb1
      clear hb1
      go_wp2_with (fail)
      go_ret3
      exact ⟨rfl, B1.out⟩
    · have HE : Bx (rngE l = (lowN (pits l) (l.length - 1), topN (pits l) (l.length - 1), 0)) := Bx.mk (by simp [rngE, hok, show ¬ l.length = 0 by omega])
      rw [HE.out]
      have e0 : ((l.length : Int) == 0) = false := beq_false_of_ne (by omega)
      have hl := pits_len l
      have HLn := Bx.mk hl
      clear hok hl
      go_enter Try.func37, Try.ntmps37
      go_wp2_with (fail)
      refine (hq _ HI.out).mono ?_
      rintro r w1 ⟨rfl, hb1⟩
      have B1 := Bx.mk hb1
      clear hb1
      go_wp2_with (fail)
      refine (hp _ (HI.out.below B1.out)).mono ?_
      rintro r w2 ⟨v2, rfl, ho, hb2⟩
      have B2 := Bx.mk (B1.out.trans (hb2.mono B1.out.size))
      have HO := Bx.mk ho
      clear ho hb2
      have q1 := std_min9 v2 (pits l) w2 (IntsAt.own HO.out) (by rw [HLn.out]; exact h0) (by rw [HLn.out]; omega)
      have q2 := std_max9 v2 (pits l) w2 (IntsAt.own HO.out) (by rw [HLn.out]; exact h0) (by rw [HLn.out]; omega)
      rw [HLn.out] at q1 q2
      obtain ⟨A2, c2, rfl⟩ := own_len HO.out
      go_wp2_with (fail)
      refine q1.mono ?_
      rintro r w3 ⟨rfl, rfl⟩
      go_wp2_with (fail)
      refine q2.mono ?_
      rintro r w3 ⟨rfl, rfl⟩
      go_wp2_with (fail)
      go_ret3
      exact ⟨rfl, B2.out⟩
end Go.Proofs.Ytendfnimhmnioaa
