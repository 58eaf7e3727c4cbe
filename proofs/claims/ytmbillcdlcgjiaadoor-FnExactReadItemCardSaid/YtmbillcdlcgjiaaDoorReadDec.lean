/- ReadDecimal on both sides: the number with a decimal form. -/
import Derived.Test.YtmbillcdlcgjiaaDoorName
import Derived.Test.YtmbillcdlcgjiaaDoorReadMath
namespace Go.Proofs.YtmbillcdlcgjiaaDoor
open Go.ChangeShapes Go.WideShapes Go.ChangeAt Go.RowKit
set_option linter.unusedVariables false
set_option linter.unusedSimpArgs false
set_option maxRecDepth 100000

def resN (o : Option Int) : Value := .tuple #[.int .i64 (o.getD 0), .bool o.isSome]
theorem ret_none {o : Option Int} (h : o = none) : Ending.returned (.tuple #[.int .i64 0, .bool false]) = .returned (resN o) := by rw [h]; rfl
theorem ret_some {o : Option Int} {v : Int} (h : o = some v) : Ending.returned (.tuple #[.int .i64 v, .bool true]) = .returned (resN o) := by rw [h]; rfl

theorem num_drop (l : List UInt8) (A : Nat) (h : (A = 1 ∧ l.head? = some 45) ∨ (A = 0 ∧ l.head? ≠ some 45)) :
    numZ l = if l.drop A = [] ∨ 18 < (l.drop A).length ∨ ((l.drop A).head? = some 48 ∧ 1 < l.length) ∨ (l.drop A).all isD = false then none
      else some (if A = 1 then -(valFrom 0 (l.drop A) : Int) else (valFrom 0 (l.drop A) : Int)) := by
  rcases h with ⟨rfl, h⟩ | ⟨rfl, h⟩
  · unfold numZ; simp only [if_pos h, List.drop_one, if_true]
  · unfold numZ; simp [if_neg h]
theorem byte_get (s : ByteArray) (k : Nat) (h : k < s.size) : s.data.toList[k]? = some s[k] := by
  rw [List.getElem?_eq_getElem (by simpa using h)]; rfl
theorem head_of (s : ByteArray) (A : Nat) (h : A < s.size) : (s.data.toList.drop A).head? = some s[A] := by
  rw [List.head?_drop]; exact byte_get s A h
theorem len_of (s : ByteArray) : s.data.toList.length = s.size := Array.length_toList
theorem drop_take_succ (s : ByteArray) (A j : Nat) (h1 : A ≤ j) (h2 : j < s.size) : (s.data.toList.drop A).take (j + 1 - A) = (s.data.toList.drop A).take (j - A) ++ [s[j]] := by
  rw [show j + 1 - A = (j - A) + 1 by omega, List.take_add_one, List.getElem?_drop, show A + (j - A) = j by omega, byte_get s j h2]; rfl
theorem isD_dg (c : UInt8) : isD c = dgB ((c.toNat : Nat) : Int) := by
  unfold isD dgB; congr 1; simp; omega
theorem val_take_lt (r : List UInt8) (h : r.all isD = true) (hl : r.length ≤ 17) : valFrom 0 r ≤ 99999999999999999 := by
  have h1 := val_lt r h
  have h2 : 10 ^ r.length ≤ 10 ^ 17 := Nat.pow_le_pow_right (by omega) hl
  omega

set_option maxHeartbeats 1000000 in
theorem spec_num0 (s : ByteArray) (w : World) (hs : s.size ≤ maxLen) (hc : ∀ h : 0 < s.size, s[0].toNat ≠ 45) :
    Calls Tryd.prog 44 #[.string s] w fun e w' => e = .returned (resN (numZ s.data.toList)) ∧ w = w' := by
  unfold maxLen at hs
  have HH : Bx (s.data.toList.head? ≠ some 45) := Bx.mk (by
    rcases Nat.eq_zero_or_pos s.size with h | h
    · have : s.data.toList = [] := List.eq_nil_of_length_eq_zero (by rw [len_of]; exact h)
      rw [this]; simp
    · have h2 := head_of s 0 h; rw [List.drop_zero] at h2; rw [h2]; intro e; exact hc h (by injection e with e; rw [e]; rfl))
  have HD := Bx.mk (num_drop s.data.toList 0 (.inr ⟨rfl, HH.out⟩))
  have HL := Bx.mk (len_of s)
  by_cases hz : s.size = 0
  · have HN : Bx (numZ s.data.toList = none) := Bx.mk (by rw [HD.out, if_pos (.inl (List.eq_nil_of_length_eq_zero (by rw [List.length_drop, HL.out]; omega)))])
    have hzi : (s.size : Int) = 0 := by omega
    clear HD hc
    go_enter Tryd.func44, Tryd.ntmps44
    go_wp2_with ((go_at_call 36; refine (spec_digit _ _).mono ?_; rintro e w' ⟨rfl, rfl⟩))
    go_ret2
    exact ⟨ret_none HN.out, rfl⟩
  have h0 : 0 < s.size := by omega
  have hc0 := hc h0
  clear hc
  have hce : (((s[0].toNat : Nat) : Int) == 45) = false := beq_eq_false_iff_ne.2 (by omega)
  have hzi : (s.size : Int) ≠ 0 := by omega
  have hze : ((s.size : Int) == 0) = false := beq_eq_false_iff_ne.2 (by omega)
  by_cases hg : 18 < s.size - 0
  · have HN : Bx (numZ s.data.toList = none) := Bx.mk (by rw [HD.out, if_pos (.inr (.inl (by rw [List.length_drop, HL.out]; omega)))])
    have hgi : (18 : Int) < (s.size : Int) - 0 := by omega
    clear HD
    go_enter Tryd.func44, Tryd.ntmps44
    go_wp2_with ((go_at_call 36; refine (spec_digit _ _).mono ?_; rintro e w' ⟨rfl, rfl⟩))
    go_ret2
    exact ⟨ret_none HN.out, rfl⟩
  have hgi : (s.size : Int) - 0 ≤ 18 := by omega
  have hA : 0 < s.size := by omega
  by_cases h48 : s[0].toNat = 48 ∧ 1 < s.size
  · have HN : Bx (numZ s.data.toList = none) := Bx.mk (by
      rw [HD.out, if_pos (.inr (.inr (.inl ⟨by rw [head_of s 0 hA]; congr 1; exact UInt8.toNat_inj.1 (by simpa using h48.1), by rw [HL.out]; exact h48.2⟩)))])
    have h48e : (((s[0].toNat : Nat) : Int) == 48) = true := by rw [beq_iff_eq]; omega
    have h1 : (1 : Int) < s.size := by omega
    clear HD h48
    go_enter Tryd.func44, Tryd.ntmps44
    go_wp2_with ((go_at_call 36; refine (spec_digit _ _).mono ?_; rintro e w' ⟨rfl, rfl⟩))
    go_ret2
    exact ⟨ret_none HN.out, rfl⟩
  have H48 : Bx (¬ ((s.data.toList.drop 0).head? = some 48 ∧ 1 < s.data.toList.length)) := Bx.mk (by
    rw [head_of s 0 hA, HL.out]; rintro ⟨e, h⟩; exact h48 ⟨by injection e with e; rw [e]; rfl, h⟩)
  by_cases h4 : s[0].toNat = 48
  · have h48e : (((s[0].toNat : Nat) : Int) == 48) = true := by rw [beq_iff_eq]; omega
    have h1 : ¬ (1 : Int) < s.size := by omega
    clear h48
    go_enter Tryd.func44, Tryd.ntmps44
    go_wp2
    go_loop [5, 6] (fun n i => ∃ j : Nat, 0 ≤ j ∧ j ≤ s.size ∧ i = .int .i64 j ∧ n = .int .i64 (valFrom 0 ((s.data.toList.drop 0).take (j - 0)) : Nat) ∧ Bx (((s.data.toList.drop 0).take (j - 0)).all isD = true)) (fun _ i => s.size - (intOf i).toNat)
    case atStart => exact ⟨0, Nat.le_refl _, by omega, by first | rfl | go_num, by first | rfl | (rw [Nat.sub_self, List.take_zero]; rfl), Bx.mk (by rw [Nat.sub_self, List.take_zero]; rfl)⟩
    case round =>
      obtain ⟨j, hj0, hj, rfl, rfl, HK⟩ := hrel
      by_cases hlt : j < s.size
      · have HS := Bx.mk (drop_take_succ s 0 j hj0 hlt)
        have hcd := isD_dg s[j]
        cases hdg : dgB ((s[j].toNat : Nat) : Int)
        · have hx : (s.data.toList.drop 0).all isD = false := by
            rw [List.all_eq_false]
            refine ⟨s[j], ?_, by rw [hcd, hdg]; simp⟩
            have : s[j] ∈ (s.data.toList.drop 0).take (j + 1 - 0) := by rw [HS.out]; simp
            exact List.mem_of_mem_take this
          have HN : Bx (numZ s.data.toList = none) := Bx.mk (by rw [HD.out, if_pos (.inr (.inr (.inr hx)))])
          clear hx
          clear HD HS hcd HK
          go_wp2_with ((go_at_call 36; refine (spec_digit _ _).mono ?_; rintro e w' ⟨rfl, rfl⟩))
          go_ret2
          exact ⟨ret_none HN.out, rfl⟩
        · have hd2 : 48 ≤ ((s[j].toNat : Nat) : Int) ∧ ((s[j].toNat : Nat) : Int) ≤ 57 := by simpa [dgB] using hdg
          obtain ⟨hd3, hd4⟩ := hd2
          have hvb := val_take_lt _ HK.out (by rw [List.length_take]; omega)
          have HV : Bx (10 * valFrom 0 ((s.data.toList.drop 0).take (j - 0)) + (s[j].toNat - 48) = valFrom 0 ((s.data.toList.drop 0).take (j + 1 - 0))) := Bx.mk (by rw [HS.out, val_snoc])
          have HK2 : Bx (((s.data.toList.drop 0).take (j + 1 - 0)).all isD = true) := Bx.mk (by rw [HS.out, List.all_append, HK.out]; simp [hcd, hdg])
          generalize valFrom 0 ((s.data.toList.drop 0).take (j - 0)) = V at hvb HV
          have hvi : (V : Int) ≤ 99999999999999999 := by omega
          clear HS HK hcd hvb
          go_wp2_with ((go_at_call 36; refine (spec_digit _ _).mono ?_; rintro e w' ⟨rfl, rfl⟩))
          go_round
          case rel => exact ⟨j + 1, by omega, by omega, by go_num, by rw [← HV.out]; congr 1; omega, HK2⟩
          case measure => simp [intOf]; omega
      · obtain rfl : j = s.size := by omega
        have hall : (s.data.toList.drop 0).take (s.size - 0) = s.data.toList.drop 0 := List.take_of_length_le (by rw [List.length_drop, HL.out]; omega)
        rw [hall] at HK ⊢
        have HN : Bx (numZ s.data.toList = some ((valFrom 0 (s.data.toList.drop 0) : Int))) := Bx.mk (by
          rw [HD.out, if_neg]
          · simp
          · rintro (h | h | h | h)
            · have := congrArg List.length h; rw [List.length_drop, HL.out, List.length_nil] at this; omega
            · rw [List.length_drop, HL.out] at h; omega
            · exact H48.out h
            · rw [HK.out] at h; cases h)
        have hvb : valFrom 0 (s.data.toList.drop 0) < 10 ^ 18 := Nat.lt_of_lt_of_le (val_lt _ HK.out) (Nat.pow_le_pow_right (by omega) (by rw [List.length_drop, HL.out]; omega))
        have hvi : (valFrom 0 (s.data.toList.drop 0) : Int) ≤ 1000000000000000000 := by omega
        generalize valFrom 0 (s.data.toList.drop 0) = V at hvi HN hvb ⊢
        clear HD HK hall H48 hvb
        go_wp2
        go_ret2
        exact ⟨ret_some HN.out, rfl⟩
  · have h48e : (((s[0].toNat : Nat) : Int) == 48) = false := beq_eq_false_iff_ne.2 (by omega)
    clear h48
    go_enter Tryd.func44, Tryd.ntmps44
    go_wp2
    go_loop [5, 6] (fun n i => ∃ j : Nat, 0 ≤ j ∧ j ≤ s.size ∧ i = .int .i64 j ∧ n = .int .i64 (valFrom 0 ((s.data.toList.drop 0).take (j - 0)) : Nat) ∧ Bx (((s.data.toList.drop 0).take (j - 0)).all isD = true)) (fun _ i => s.size - (intOf i).toNat)
    case atStart => exact ⟨0, Nat.le_refl _, by omega, by first | rfl | go_num, by first | rfl | (rw [Nat.sub_self, List.take_zero]; rfl), Bx.mk (by rw [Nat.sub_self, List.take_zero]; rfl)⟩
    case round =>
      obtain ⟨j, hj0, hj, rfl, rfl, HK⟩ := hrel
      by_cases hlt : j < s.size
      · have HS := Bx.mk (drop_take_succ s 0 j hj0 hlt)
        have hcd := isD_dg s[j]
        cases hdg : dgB ((s[j].toNat : Nat) : Int)
        · have hx : (s.data.toList.drop 0).all isD = false := by
            rw [List.all_eq_false]
            refine ⟨s[j], ?_, by rw [hcd, hdg]; simp⟩
            have : s[j] ∈ (s.data.toList.drop 0).take (j + 1 - 0) := by rw [HS.out]; simp
            exact List.mem_of_mem_take this
          have HN : Bx (numZ s.data.toList = none) := Bx.mk (by rw [HD.out, if_pos (.inr (.inr (.inr hx)))])
          clear hx
          clear HD HS hcd HK
          go_wp2_with ((go_at_call 36; refine (spec_digit _ _).mono ?_; rintro e w' ⟨rfl, rfl⟩))
          go_ret2
          exact ⟨ret_none HN.out, rfl⟩
        · have hd2 : 48 ≤ ((s[j].toNat : Nat) : Int) ∧ ((s[j].toNat : Nat) : Int) ≤ 57 := by simpa [dgB] using hdg
          obtain ⟨hd3, hd4⟩ := hd2
          have hvb := val_take_lt _ HK.out (by rw [List.length_take]; omega)
          have HV : Bx (10 * valFrom 0 ((s.data.toList.drop 0).take (j - 0)) + (s[j].toNat - 48) = valFrom 0 ((s.data.toList.drop 0).take (j + 1 - 0))) := Bx.mk (by rw [HS.out, val_snoc])
          have HK2 : Bx (((s.data.toList.drop 0).take (j + 1 - 0)).all isD = true) := Bx.mk (by rw [HS.out, List.all_append, HK.out]; simp [hcd, hdg])
          generalize valFrom 0 ((s.data.toList.drop 0).take (j - 0)) = V at hvb HV
          have hvi : (V : Int) ≤ 99999999999999999 := by omega
          clear HS HK hcd hvb
          go_wp2_with ((go_at_call 36; refine (spec_digit _ _).mono ?_; rintro e w' ⟨rfl, rfl⟩))
          go_round
          case rel => exact ⟨j + 1, by omega, by omega, by go_num, by rw [← HV.out]; congr 1; omega, HK2⟩
          case measure => simp [intOf]; omega
      · obtain rfl : j = s.size := by omega
        have hall : (s.data.toList.drop 0).take (s.size - 0) = s.data.toList.drop 0 := List.take_of_length_le (by rw [List.length_drop, HL.out]; omega)
        rw [hall] at HK ⊢
        have HN : Bx (numZ s.data.toList = some ((valFrom 0 (s.data.toList.drop 0) : Int))) := Bx.mk (by
          rw [HD.out, if_neg]
          · simp
          · rintro (h | h | h | h)
            · have := congrArg List.length h; rw [List.length_drop, HL.out, List.length_nil] at this; omega
            · rw [List.length_drop, HL.out] at h; omega
            · exact H48.out h
            · rw [HK.out] at h; cases h)
        have hvb : valFrom 0 (s.data.toList.drop 0) < 10 ^ 18 := Nat.lt_of_lt_of_le (val_lt _ HK.out) (Nat.pow_le_pow_right (by omega) (by rw [List.length_drop, HL.out]; omega))
        have hvi : (valFrom 0 (s.data.toList.drop 0) : Int) ≤ 1000000000000000000 := by omega
        generalize valFrom 0 (s.data.toList.drop 0) = V at hvi HN hvb ⊢
        clear HD HK hall H48 hvb
        go_wp2
        go_ret2
        exact ⟨ret_some HN.out, rfl⟩

set_option maxHeartbeats 1000000 in
theorem spec_num1 (s : ByteArray) (w : World) (hs : s.size ≤ maxLen) (h0 : 0 < s.size) (hc : s[0].toNat = 45) :
    Calls Tryd.prog 44 #[.string s] w fun e w' => e = .returned (resN (numZ s.data.toList)) ∧ w = w' := by
  unfold maxLen at hs
  have HH : Bx (s.data.toList.head? = some 45) := Bx.mk (by have := head_of s 0 h0; rw [List.drop_zero] at this; rw [this]; congr 1; exact UInt8.toNat_inj.1 (by simpa using hc))
  have hc45 : ((s[0].toNat : Nat) : Int) = 45 := by omega
  have hce : (((s[0].toNat : Nat) : Int) == 45) = true := by simp [hc45]
  have HD := Bx.mk (num_drop s.data.toList 1 (.inl ⟨rfl, HH.out⟩))
  have HL := Bx.mk (len_of s)
  by_cases hz : s.size = 1
  · have HN : Bx (numZ s.data.toList = none) := Bx.mk (by rw [HD.out, if_pos (.inl (List.eq_nil_of_length_eq_zero (by rw [List.length_drop, HL.out]; omega)))])
    have hze : ((s.size : Int) == 1) = true := by rw [beq_iff_eq]; omega
    clear HD
    go_enter Tryd.func44, Tryd.ntmps44
    go_wp2_with ((go_at_call 36; refine (spec_digit _ _).mono ?_; rintro e w' ⟨rfl, rfl⟩))
    go_ret2
    exact ⟨ret_none HN.out, rfl⟩
  have hzi : (s.size : Int) ≠ 1 := by omega
  have hze : ((s.size : Int) == 1) = false := beq_eq_false_iff_ne.2 (by omega)
  by_cases hg : 18 < s.size - 1
  · have HN : Bx (numZ s.data.toList = none) := Bx.mk (by rw [HD.out, if_pos (.inr (.inl (by rw [List.length_drop, HL.out]; omega)))])
    have hgi : (18 : Int) < (s.size : Int) - 1 := by omega
    clear HD
    go_enter Tryd.func44, Tryd.ntmps44
    go_wp2_with ((go_at_call 36; refine (spec_digit _ _).mono ?_; rintro e w' ⟨rfl, rfl⟩))
    go_ret2
    exact ⟨ret_none HN.out, rfl⟩
  have hgi : (s.size : Int) - 1 ≤ 18 := by omega
  have hA : 1 < s.size := by omega
  by_cases h48 : s[1].toNat = 48 ∧ 1 < s.size
  · have HN : Bx (numZ s.data.toList = none) := Bx.mk (by
      rw [HD.out, if_pos (.inr (.inr (.inl ⟨by rw [head_of s 1 hA]; congr 1; exact UInt8.toNat_inj.1 (by simpa using h48.1), by rw [HL.out]; exact h48.2⟩)))])
    have h48e : (((s[1].toNat : Nat) : Int) == 48) = true := by rw [beq_iff_eq]; omega
    have h1 : (1 : Int) < s.size := by omega
    clear HD h48
    go_enter Tryd.func44, Tryd.ntmps44
    go_wp2_with ((go_at_call 36; refine (spec_digit _ _).mono ?_; rintro e w' ⟨rfl, rfl⟩))
    go_ret2
    exact ⟨ret_none HN.out, rfl⟩
  have H48 : Bx (¬ ((s.data.toList.drop 1).head? = some 48 ∧ 1 < s.data.toList.length)) := Bx.mk (by
    rw [head_of s 1 hA, HL.out]; rintro ⟨e, h⟩; exact h48 ⟨by injection e with e; rw [e]; rfl, h⟩)
  by_cases h4 : s[1].toNat = 48
  · exact absurd ⟨h4, hA⟩ h48
  · have h48e : (((s[1].toNat : Nat) : Int) == 48) = false := beq_eq_false_iff_ne.2 (by omega)
    clear h48
    go_enter Tryd.func44, Tryd.ntmps44
    go_wp2
    go_loop [5, 6] (fun n i => ∃ j : Nat, 1 ≤ j ∧ j ≤ s.size ∧ i = .int .i64 j ∧ n = .int .i64 (valFrom 0 ((s.data.toList.drop 1).take (j - 1)) : Nat) ∧ Bx (((s.data.toList.drop 1).take (j - 1)).all isD = true)) (fun _ i => s.size - (intOf i).toNat)
    case atStart => exact ⟨1, Nat.le_refl _, by omega, by first | rfl | go_num, by first | rfl | (rw [Nat.sub_self, List.take_zero]; rfl), Bx.mk (by rw [Nat.sub_self, List.take_zero]; rfl)⟩
    case round =>
      obtain ⟨j, hj0, hj, rfl, rfl, HK⟩ := hrel
      by_cases hlt : j < s.size
      · have HS := Bx.mk (drop_take_succ s 1 j hj0 hlt)
        have hcd := isD_dg s[j]
        cases hdg : dgB ((s[j].toNat : Nat) : Int)
        · have hx : (s.data.toList.drop 1).all isD = false := by
            rw [List.all_eq_false]
            refine ⟨s[j], ?_, by rw [hcd, hdg]; simp⟩
            have : s[j] ∈ (s.data.toList.drop 1).take (j + 1 - 1) := by rw [HS.out]; simp
            exact List.mem_of_mem_take this
          have HN : Bx (numZ s.data.toList = none) := Bx.mk (by rw [HD.out, if_pos (.inr (.inr (.inr hx)))])
          clear hx
          clear HD HS hcd HK
          go_wp2_with ((go_at_call 36; refine (spec_digit _ _).mono ?_; rintro e w' ⟨rfl, rfl⟩))
          go_ret2
          exact ⟨ret_none HN.out, rfl⟩
        · have hd2 : 48 ≤ ((s[j].toNat : Nat) : Int) ∧ ((s[j].toNat : Nat) : Int) ≤ 57 := by simpa [dgB] using hdg
          obtain ⟨hd3, hd4⟩ := hd2
          have hvb := val_take_lt _ HK.out (by rw [List.length_take]; omega)
          have HV : Bx (10 * valFrom 0 ((s.data.toList.drop 1).take (j - 1)) + (s[j].toNat - 48) = valFrom 0 ((s.data.toList.drop 1).take (j + 1 - 1))) := Bx.mk (by rw [HS.out, val_snoc])
          have HK2 : Bx (((s.data.toList.drop 1).take (j + 1 - 1)).all isD = true) := Bx.mk (by rw [HS.out, List.all_append, HK.out]; simp [hcd, hdg])
          generalize valFrom 0 ((s.data.toList.drop 1).take (j - 1)) = V at hvb HV
          have hvi : (V : Int) ≤ 99999999999999999 := by omega
          clear HS HK hcd hvb
          go_wp2_with ((go_at_call 36; refine (spec_digit _ _).mono ?_; rintro e w' ⟨rfl, rfl⟩))
          go_round
          case rel => exact ⟨j + 1, by omega, by omega, by go_num, by rw [← HV.out]; congr 1; omega, HK2⟩
          case measure => simp [intOf]; omega
      · obtain rfl : j = s.size := by omega
        have hall : (s.data.toList.drop 1).take (s.size - 1) = s.data.toList.drop 1 := List.take_of_length_le (by rw [List.length_drop, HL.out]; omega)
        rw [hall] at HK ⊢
        have HN : Bx (numZ s.data.toList = some (-(valFrom 0 (s.data.toList.drop 1) : Int))) := Bx.mk (by
          rw [HD.out, if_neg]
          · simp
          · rintro (h | h | h | h)
            · have := congrArg List.length h; rw [List.length_drop, HL.out, List.length_nil] at this; omega
            · rw [List.length_drop, HL.out] at h; omega
            · exact H48.out h
            · rw [HK.out] at h; cases h)
        have hvb : valFrom 0 (s.data.toList.drop 1) < 10 ^ 18 := Nat.lt_of_lt_of_le (val_lt _ HK.out) (Nat.pow_le_pow_right (by omega) (by rw [List.length_drop, HL.out]; omega))
        have hvi : (valFrom 0 (s.data.toList.drop 1) : Int) ≤ 1000000000000000000 := by omega
        generalize valFrom 0 (s.data.toList.drop 1) = V at hvi HN hvb ⊢
        clear HD HK hall H48 hvb
        go_wp2
        go_ret2
        exact ⟨ret_some HN.out, rfl⟩

theorem spec_num (s : ByteArray) (w : World) (hs : s.size ≤ maxLen) :
    Calls Tryd.prog 44 #[.string s] w fun e w' => e = .returned (resN (numZ s.data.toList)) ∧ w = w' := by
  by_cases h : ∃ h0 : 0 < s.size, s[0].toNat = 45
  · obtain ⟨h0, hc⟩ := h
    exact spec_num1 s w hs h0 hc
  · exact spec_num0 s w hs (fun h0 hc => h ⟨h0, hc⟩)
/-- .. its results written out -/
theorem spec_num_t (s : ByteArray) (w : World) (hs : s.size ≤ maxLen) :
    Calls Tryd.prog 44 #[.string s] w fun e w' => e = .returned (.tuple #[.int .i64 ((numZ s.data.toList).getD 0), .bool (numZ s.data.toList).isSome]) ∧ w = w' := spec_num s w hs
end Go.Proofs.YtmbillcdlcgjiaaDoor
