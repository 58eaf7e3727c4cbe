/- MelodyText: the program. -/
import Derived.Test.YtendfnimhmnioaaDoorNm
import Derived.Test.YtendfnimhmnioaaDoorNi
import Derived.Test.YtendfnimhmnioaaDoorRImT
import Derived.Test.YtendfnimhmnioaaDoorTxt
namespace Go.Proofs.YtendfnimhmnioaaDoor
open Go.ChangeShapes Go.WideShapes Go.ChangeAt Go.RowKit
set_option linter.unusedVariables false
set_option linter.unusedSimpArgs false
set_option maxRecDepth 100000

theorem impl_tonename9 (t : Int) (w : World) (h : 0 ≤ t ∧ t ≤ 11) : Calls Tryd.prog 72 #[.int .i64 t] w fun e w' => e = .returned (.string (toneS t)) ∧ w = w' := by
  have hin := fun W => impl_istone t W
  rw [inB_mk h] at hin
  have HE : Bx (toneS t = ⟨#[nameL.getD t.toNat 0]⟩) := Bx.mk (by simp [toneS, inB_mk h])
  obtain ⟨t1, t2⟩ := h
  obtain rfl | rfl | rfl | rfl | rfl | rfl | rfl | rfl | rfl | rfl | rfl | rfl : t = 0 ∨ t = 1 ∨ t = 2 ∨ t = 3 ∨ t = 4 ∨ t = 5 ∨ t = 6 ∨ t = 7 ∨ t = 8 ∨ t = 9 ∨ t = 10 ∨ t = 11 := by omega
  all_goals
    go_enter Tryd.func72, Tryd.ntmps72
    go_wp2_with (fail)
    refine (hin _).mono ?_
    rintro e w' ⟨rfl, rfl⟩
    go_wp2_with (fail)
    go_ret
    exact ⟨by rw [HE.out]; rfl, rfl⟩
theorem nt_pre (p n : Int) (T M : ByteArray) (h : nmS p = M) : (n = 1 → ntS (p, n) = M) ∧ (n ≠ 1 → ntS (p, n) = M ++ ⟨(Lib.itoa n).toArray⟩) := by
  subst h
  constructor
  · intro h; unfold ntS; rw [if_pos h]
  · intro h; unfold ntS; rw [if_neg h]
theorem tone_one (t : Int) : (toneS t).size ≤ 1 := by
  unfold toneS; split
  · exact Nat.le_refl _
  · exact Nat.zero_le _
set_option maxHeartbeats 4000000 in
theorem impl_notetext (p n : Int) (w : World) (hp : -12 ≤ p ∧ p ≤ 23) (hn : 1 ≤ n ∧ n ≤ 64) (htab : Bx (Lib.TabIs Tryd.prog w "internal/strconv.uint64pow10" .u64 Lib.pow10Tab)) :
    Calls Tryd.prog 58 #[nt p n] w fun e w' => e = .returned (.string (ntS (p, n))) ∧ Below w.heap.size w w' := by
  have ht := fun W => impl_toneof p W
  have hna := fun W => impl_tonename9 (p % 12) W (by omega)
  have hl := tone_one (p % 12)
  have hi2 := Lib.itoa_length_le n (by omega) (by omega)
  have hb0 : Below w.heap.size w (w.alloc (.cells #[.int .i64 p, .int .i64 n] 45)) := (Below.refl _ _).alloc (Nat.le_refl _) _
  have hdc := impl_dec9 n (w.alloc (.cells #[.int .i64 p, .int .i64 n] 45)) (Bx.mk (by omega)) (Bx.mk (tab_below hb0 htab.out))
  have HB := Bx.mk hb0
  have HM : Bx (nmS p = if p < 0 then toneS (p % 12) ++ ⟨#[44]⟩ else if 12 ≤ p then toneS (p % 12) ++ ⟨#[39]⟩ else toneS (p % 12)) := Bx.mk rfl
  have HPRE := Bx.mk (nt_pre p n (toneS (p % 12)))
  clear hb0 htab
  unfold nt
  generalize toneS (p % 12) = T at *
  generalize Lib.itoa n = D at *
  rcases Int.lt_or_le p 0 with hlo | hlo
  · have HT := HPRE.out _ (HM.out.trans (if_pos hlo))
    have d1 : decide (p < 0) = true := decide_eq_true hlo
    clear HPRE HM
    by_cases h1 : n = 1
    · rw [HT.1 h1]
      subst h1
      clear HT hdc
      have E1 : (9223372036854775807 < T.size + 1) = False := eq_false (by omega)
      go_enter Tryd.func58, Tryd.ntmps58
      go_wp2_with (fail)
      refine (ht _).mono ?_
      rintro e w' ⟨rfl, rfl⟩
      go_wp2_with (fail)
      refine (hna _).mono ?_
      rintro e w' ⟨rfl, rfl⟩
      go_wp2_with (fail)
      go_ret
      exact ⟨rfl, HB.out⟩
    · rw [HT.2 h1]
      have d3 : (n != 1) = true := by simpa using h1
      clear HT
      have E1 : (9223372036854775807 < T.size + 1) = False := eq_false (by omega)
      have E2 : (9223372036854775807 < T.size + 1 + D.length) = False := eq_false (by omega)
      go_enter Tryd.func58, Tryd.ntmps58
      go_wp2_with (fail)
      refine (ht _).mono ?_
      rintro e w' ⟨rfl, rfl⟩
      go_wp2_with (fail)
      refine (hna _).mono ?_
      rintro e w' ⟨rfl, rfl⟩
      go_wp2_with (fail)
      refine hdc.mono ?_
      rintro e w5 ⟨rfl, hb5⟩
      have HW5 := Bx.mk (HB.out.trans (hb5.mono HB.out.size))
      clear hb5
      go_wp2_with (fail)
      go_ret
      exact ⟨rfl, HW5.out⟩
  · have d1 : decide (p < 0) = false := decide_eq_false (by omega)
    rcases Int.lt_or_le p 12 with hhi | hhi
    · have HT := HPRE.out _ (HM.out.trans ((if_neg (by omega)).trans (if_neg (by omega))))
      have d2 : decide (12 ≤ p) = false := decide_eq_false (by omega)
      clear HPRE HM
      by_cases h1 : n = 1
      · rw [HT.1 h1]
        subst h1
        clear HT hdc
        go_enter Tryd.func58, Tryd.ntmps58
        go_wp2_with (fail)
        refine (ht _).mono ?_
        rintro e w' ⟨rfl, rfl⟩
        go_wp2_with (fail)
        refine (hna _).mono ?_
        rintro e w' ⟨rfl, rfl⟩
        go_wp2_with (fail)
        go_ret
        exact ⟨rfl, HB.out⟩
      · rw [HT.2 h1]
        have d3 : (n != 1) = true := by simpa using h1
        clear HT
        have E2 : (9223372036854775807 < T.size + D.length) = False := eq_false (by omega)
        go_enter Tryd.func58, Tryd.ntmps58
        go_wp2_with (fail)
        refine (ht _).mono ?_
        rintro e w' ⟨rfl, rfl⟩
        go_wp2_with (fail)
        refine (hna _).mono ?_
        rintro e w' ⟨rfl, rfl⟩
        go_wp2_with (fail)
        refine hdc.mono ?_
        rintro e w5 ⟨rfl, hb5⟩
        have HW5 := Bx.mk (HB.out.trans (hb5.mono HB.out.size))
        clear hb5
        go_wp2_with (fail)
        go_ret
        exact ⟨rfl, HW5.out⟩
    · have HT := HPRE.out _ (HM.out.trans ((if_neg (by omega)).trans (if_pos hhi)))
      have d2 : decide (12 ≤ p) = true := decide_eq_true (by omega)
      clear HPRE HM
      by_cases h1 : n = 1
      · rw [HT.1 h1]
        subst h1
        clear HT hdc
        have E1 : (9223372036854775807 < T.size + 1) = False := eq_false (by omega)
        go_enter Tryd.func58, Tryd.ntmps58
        go_wp2_with (fail)
        refine (ht _).mono ?_
        rintro e w' ⟨rfl, rfl⟩
        go_wp2_with (fail)
        refine (hna _).mono ?_
        rintro e w' ⟨rfl, rfl⟩
        go_wp2_with (fail)
        go_ret
        exact ⟨rfl, HB.out⟩
      · rw [HT.2 h1]
        have d3 : (n != 1) = true := by simpa using h1
        clear HT
        have E1 : (9223372036854775807 < T.size + 1) = False := eq_false (by omega)
        have E2 : (9223372036854775807 < T.size + 1 + D.length) = False := eq_false (by omega)
        go_enter Tryd.func58, Tryd.ntmps58
        go_wp2_with (fail)
        refine (ht _).mono ?_
        rintro e w' ⟨rfl, rfl⟩
        go_wp2_with (fail)
        refine (hna _).mono ?_
        rintro e w' ⟨rfl, rfl⟩
        go_wp2_with (fail)
        refine hdc.mono ?_
        rintro e w5 ⟨rfl, hb5⟩
        have HW5 := Bx.mk (HB.out.trans (hb5.mono HB.out.size))
        clear hb5
        go_wp2_with (fail)
        go_ret
        exact ⟨rfl, HW5.out⟩
end Go.Proofs.YtendfnimhmnioaaDoor
