/- RangeOf and ContourOf: the model. -/
import Derived.Test.YtendfnimhmnioaaNe3
namespace Go.Proofs.Ytendfnimhmnioaa
open Go.ChangeShapes Go.WideShapes Go.ChangeAt Go.RowKit
set_option linter.unusedVariables false
set_option linter.unusedSimpArgs false
set_option maxRecDepth 100000

theorem spec_min9 (a b : Int) (w : World) : Calls Try.prog 61 #[.int .i64 a, .int .i64 b] w fun e w' => e = .returned (.int .i64 (min a b)) ∧ w = w' := by
  by_cases h : a < b
  · have HE : Bx (min a b = a) := Bx.mk (by omega)
    have d1 : decide (a < b) = true := decide_eq_true h
    clear h
    go_enter Try.func61, Try.ntmps61
    go_wp2_with (fail)
    go_ret
    exact ⟨ret_int HE.out.symm, rfl⟩
  · have HE : Bx (min a b = b) := Bx.mk (by omega)
    have d1 : decide (a < b) = false := decide_eq_false h
    clear h
    go_enter Try.func61, Try.ntmps61
    go_wp2_with (fail)
    go_ret
    exact ⟨ret_int HE.out.symm, rfl⟩
theorem spec_max9 (a b : Int) (w : World) : Calls Try.prog 62 #[.int .i64 a, .int .i64 b] w fun e w' => e = .returned (.int .i64 (max a b)) ∧ w = w' := by
  by_cases h : a > b
  · have HE : Bx (max a b = a) := Bx.mk (by omega)
    have d1 : decide (a > b) = true := decide_eq_true h
    clear h
    go_enter Try.func62, Try.ntmps62
    go_wp2_with (fail)
    go_ret
    exact ⟨ret_int HE.out.symm, rfl⟩
  · have HE : Bx (max a b = b) := Bx.mk (by omega)
    have d1 : decide (a > b) = false := decide_eq_false h
    clear h
    go_enter Try.func62, Try.ntmps62
    go_wp2_with (fail)
    go_ret
    exact ⟨ret_int HE.out.symm, rfl⟩
set_option maxHeartbeats 2000000 in
theorem spec_rangeof (v : Value) (l : List (Int × Int)) (w : World) (h : PrsAt w v l) (hm : l.length ≤ 1048576) :
    Calls Try.prog 36 #[v] w fun e w' => e = .returned (.tuple #[.int .i64 (rngE l).1, .int .i64 (rngE l).2.1, .int .i64 (rngE l).2.2]) ∧ Below w.heap.size w w' := by
  have hq := fun W h => spec_okm v l W h hm
  have h' := h
  obtain ⟨A, c, rfl⟩ := prs_len h'
  have HI := Bx.mk h
  clear h hm h'
  cases hok : okM l
  · have HE : Bx (rngE l = (0, 0, 1)) := Bx.mk (by simp [rngE, hok])
    rw [hok] at hq
    rw [HE.out]
    clear hok
    go_enter Try.func36, Try.ntmps36
    go_wp2_with (fail)
    refine (hq _ HI.out).mono ?_
    rintro r w1 ⟨rfl, rfl⟩
    go_wp2_with (fail)
    go_ret3
    exact ⟨rfl, Below.refl _ _⟩
  · have hm := (okM_yes hok).1
    rw [hok] at hq
    rcases Nat.eq_zero_or_pos l.length with h0 | h0
    · have HE : Bx (rngE l = (0, 0, 6)) := Bx.mk (by simp [rngE, hok, h0])
      rw [HE.out]
      have e0 : ((l.length : Int) == 0) = true := by simp [h0]
      clear hok h0
      go_enter Try.func36, Try.ntmps36
      go_wp2_with (fail)
      refine (hq _ HI.out).mono ?_
      rintro r w1 ⟨rfl, rfl⟩
      go_wp2_with (fail)
      go_ret3
      exact ⟨rfl, Below.refl _ _⟩
    · have HE : Bx (rngE l = (lowN (pits l) (l.length - 1), topN (pits l) (l.length - 1), 0)) := Bx.mk (by simp [rngE, hok, show ¬ l.length = 0 by omega])
      rw [HE.out]
      have e0 : ((l.length : Int) == 0) = false := beq_false_of_ne (by omega)
      obtain ⟨b, o, rfl, hb, hc⟩ := prs_form HI.out h0
      have h1 := (hc 0 h0).1
      have HC := Bx.mk hc
      have HZ := Bx.mk (pits_at l 0 h0)
      have x0 : (0 : Int) < (l.length : Int) := by omega
      have qmin := fun a b W => spec_min9 a b W
      have qmax := fun a b W => spec_max9 a b W
      rw [show o + 0 * 2 = o by omega] at h1
      clear hok hc
      go_enter Try.func36, Try.ntmps36
      go_wp2_with (fail)
      refine (hq _ HI.out).mono ?_
      rintro r w1 ⟨rfl, rfl⟩
      go_wp2_with (fail)
      go_loopw [5, 6, 7] (fun lo hi i wr => ∃ k : Nat, k + 1 ≤ l.length ∧ i = .int .i64 ((k : Int) + 1) ∧ lo = .int .i64 (lowN (pits l) k) ∧ hi = .int .i64 (topN (pits l) k) ∧ wr = w) (fun _ _ i _ => l.length - (intOf i).toNat)
      case atStart => exact ⟨0, by omega, rfl, by rw [lowN, HZ.out], by rw [topN, HZ.out], rfl⟩
      case round =>
        obtain ⟨k, hk, rfl, rfl, rfl, rfl⟩ := hrel
        by_cases hlt : k + 1 < l.length
        · have c1 := (HC.out (k + 1) hlt).1
          have k1 : (0 : Int) ≤ (k : Int) + 1 := by omega
          have k2 : (k : Int) + 1 < (l.length : Int) := by omega
          have k3 : ((k : Int) + 1).toNat = k + 1 := by omega
          have y1 : IntKind.i64.wrap ((k : Int) + 1 + 1) = (k : Int) + 1 + 1 := IntWalk.i64_in _ (by omega)
          have HL : Bx (lowN (pits l) (k + 1) = min (lowN (pits l) k) (pat l (k + 1)).1) := Bx.mk (by rw [lowN, pits_at l (k + 1) hlt])
          have HT : Bx (topN (pits l) (k + 1) = max (topN (pits l) k) (pat l (k + 1)).1) := Bx.mk (by rw [topN, pits_at l (k + 1) hlt])
          clear HC HI h1
          generalize (pat l (k + 1)).1 = p at *
          generalize lowN (pits l) k = lo at *
          generalize topN (pits l) k = hi at *
          go_wp2_with (fail)
          refine (qmin _ _ _).mono ?_
          rintro r w1 ⟨rfl, rfl⟩
          go_wp2_with (fail)
          refine (qmax _ _ _).mono ?_
          rintro r w1 ⟨rfl, rfl⟩
          go_wp2_with (fail)
          go_roundw
          case rel => exact ⟨k + 1, by omega, by go_num, by rw [HL.out], by rw [HT.out], by first | rfl | trivial⟩
          case measure => simp [intOf]; omega
        · obtain rfl : k = l.length - 1 := by omega
          have k2 : ¬ (((l.length - 1 : Nat) : Int) + 1 < (l.length : Int)) := by omega
          go_wp2_with (fail)
          go_ret3
          exact ⟨rfl, Below.refl _ _⟩
end Go.Proofs.Ytendfnimhmnioaa
