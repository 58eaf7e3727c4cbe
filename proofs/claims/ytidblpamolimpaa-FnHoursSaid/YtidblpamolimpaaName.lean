/- Contracts of the name tests on both sides. -/
import Derived.Test.YtidblpamolimpaaKit
import Derived.LoopTactic
namespace Go.Proofs.Ytidblpamolimpaa
open Go.ChangeShapes Go.WideShapes Go.ChangeAt Go.RowKit
set_option linter.unusedVariables false
set_option linter.unusedSimpArgs false
set_option maxRecDepth 100000

def smB (c : Int) : Bool := decide (97 ≤ c ∧ c ≤ 122)
def dgB (c : Int) : Bool := decide (48 ≤ c ∧ c ≤ 57)
def okc (c : UInt8) : Bool := smB (c.toNat : Int) || dgB (c.toNat : Int)
def nmB (l : List UInt8) : Bool := match l with
  | [] => false
  | c :: r => decide ((c :: r).length ≤ 10) && smB (c.toNat : Int) && (c :: r).all okc

theorem spec_small (c : Int) (w : World) : Calls Try.prog 47 #[.int .u8 c] w fun e w' => e = .returned (.bool (smB c)) ∧ w = w' := by
  cases hb : smB c
  · by_cases h1 : 97 ≤ c
    · have h2 : ¬ c ≤ 122 := by simp [smB] at hb; omega
      clear hb
      go_enter Try.func47, Try.ntmps47
      go_wp2
      go_ret
      exact ⟨rfl, rfl⟩
    · clear hb
      go_enter Try.func47, Try.ntmps47
      go_wp2
      go_ret
      exact ⟨rfl, rfl⟩
  · obtain ⟨h1, h2⟩ : 97 ≤ c ∧ c ≤ 122 := by simpa [smB] using hb
    clear hb
    go_enter Try.func47, Try.ntmps47
    go_wp2
    go_ret
    exact ⟨rfl, rfl⟩
theorem spec_digit (c : Int) (w : World) : Calls Try.prog 48 #[.int .u8 c] w fun e w' => e = .returned (.bool (dgB c)) ∧ w = w' := by
  cases hb : dgB c
  · by_cases h1 : 48 ≤ c
    · have h2 : ¬ c ≤ 57 := by simp [dgB] at hb; omega
      clear hb
      go_enter Try.func48, Try.ntmps48
      go_wp2
      go_ret
      exact ⟨rfl, rfl⟩
    · clear hb
      go_enter Try.func48, Try.ntmps48
      go_wp2
      go_ret
      exact ⟨rfl, rfl⟩
  · obtain ⟨h1, h2⟩ : 48 ≤ c ∧ c ≤ 57 := by simpa [dgB] using hb
    clear hb
    go_enter Try.func48, Try.ntmps48
    go_wp2
    go_ret
    exact ⟨rfl, rfl⟩
theorem impl_small (c : Int) (w : World) : Calls Try.prog 45 #[.int .u8 c] w fun e w' => e = .returned (.bool (smB c)) ∧ w = w' := by
  cases hb : smB c
  · by_cases h1 : 97 ≤ c
    · have h2 : ¬ c ≤ 122 := by simp [smB] at hb; omega
      clear hb
      go_enter Try.func45, Try.ntmps45
      go_wp2
      go_ret
      exact ⟨rfl, rfl⟩
    · clear hb
      go_enter Try.func45, Try.ntmps45
      go_wp2
      go_ret
      exact ⟨rfl, rfl⟩
  · obtain ⟨h1, h2⟩ : 97 ≤ c ∧ c ≤ 122 := by simpa [smB] using hb
    clear hb
    go_enter Try.func45, Try.ntmps45
    go_wp2
    go_ret
    exact ⟨rfl, rfl⟩
theorem impl_digit (c : Int) (w : World) : Calls Try.prog 46 #[.int .u8 c] w fun e w' => e = .returned (.bool (dgB c)) ∧ w = w' := by
  cases hb : dgB c
  · by_cases h1 : 48 ≤ c
    · have h2 : ¬ c ≤ 57 := by simp [dgB] at hb; omega
      clear hb
      go_enter Try.func46, Try.ntmps46
      go_wp2
      go_ret
      exact ⟨rfl, rfl⟩
    · clear hb
      go_enter Try.func46, Try.ntmps46
      go_wp2
      go_ret
      exact ⟨rfl, rfl⟩
  · obtain ⟨h1, h2⟩ : 48 ≤ c ∧ c ≤ 57 := by simpa [dgB] using hb
    clear hb
    go_enter Try.func46, Try.ntmps46
    go_wp2
    go_ret
    exact ⟨rfl, rfl⟩

theorem nm_long (s : ByteArray) (h : 10 < s.size) : nmB s.data.toList = false := by
  have h' : 10 < s.data.toList.length := by simpa using h
  unfold nmB; split
  · rfl
  · rename_i c r e; rw [← e]; simp; omega
theorem nm_first (s : ByteArray) (h0 : 0 < s.size) (h : smB ((s[0].toNat : Nat) : Int) = false) : nmB s.data.toList = false := by
  unfold nmB; split
  · rfl
  · rename_i c r e
    have : s[0] = c := by
      have h2 : s.data.toList[0]'(by simpa using h0) = c := by simp [e]
      rw [← h2]; rfl
    rw [this] at h
    simp [h]
theorem nm_rest (s : ByteArray) (h0 : 0 < s.size) (h1 : s.size ≤ 10) (h : smB ((s[0].toNat : Nat) : Int) = true) : nmB s.data.toList = s.data.toList.all okc := by
  have hl : s.data.toList.length ≤ 10 := by simpa using h1
  unfold nmB; split
  · rename_i e; exfalso; have : s.data.toList.length = 0 := by rw [e]; rfl
    have e2 : s.data.toList.length = s.size := Array.length_toList
    omega
  · rename_i c r e
    have : s[0] = c := by
      have h2 : s.data.toList[0]'(by simpa using h0) = c := by simp [e]
      rw [← h2]; rfl
    rw [this] at h
    rw [h]
    rw [e] at hl ⊢
    rw [decide_eq_true hl]; rfl
theorem take_byte (s : ByteArray) (k : Nat) (h : k < s.size) : s.data.toList.take (k + 1) = s.data.toList.take k ++ [s[k]] := by
  rw [List.take_succ_eq_append_getElem (by simpa using h)]; rfl
theorem all_no (s : ByteArray) (k : Nat) (h : k < s.size) (hk : okc s[k] = false) : s.data.toList.all okc = false := by
  rw [List.all_eq_false]
  exact ⟨s[k], by
    have : s[k] = s.data.toList[k]'(by simpa using h) := rfl
    rw [this]; exact List.getElem_mem _, by simp [hk]⟩

theorem spec_name (s : ByteArray) (w : World) (hs : s.size ≤ maxLen) :
    Calls Try.prog 40 #[.string s] w fun e w' => e = .returned (.bool (nmB s.data.toList)) ∧ w = w' := by
  unfold maxLen at hs
  by_cases h0 : s.data.toList = []
  · have H : Hid (nmB s.data.toList = false) := Lib.hid (by rw [h0]; rfl)
    have hE : s.toList = [] := by rw [ByteArray.toList_eq]; exact h0
    clear h0
    go_enter Try.func40, Try.ntmps40
    go_wp2
    go_ret
    exact ⟨ret_bool H.out.symm, rfl⟩
  · have hE : s.toList.isEmpty = false := by rw [ByteArray.toList_eq]; simpa using h0
    have hp : 0 < s.size := by
      rcases Nat.eq_zero_or_pos s.size with h | h
      · exfalso; apply h0; apply List.eq_nil_of_length_eq_zero; simpa using h
      · exact h
    by_cases h10 : 10 < s.size
    · have H : Hid (nmB s.data.toList = false) := Lib.hid (nm_long s h10)
      go_enter Try.func40, Try.ntmps40
      go_wp2
      go_ret
      exact ⟨ret_bool H.out.symm, rfl⟩
    · cases hf : smB ((s[0].toNat : Nat) : Int)
      · have H : Hid (nmB s.data.toList = false) := Lib.hid (nm_first s hp hf)
        go_enter Try.func40, Try.ntmps40
        go_wp2_with ((go_at_call 47; refine (spec_small _ _).mono ?_; rintro e w' ⟨rfl, rfl⟩))
        go_ret
        exact ⟨ret_bool H.out.symm, rfl⟩
      · have H : Hid (nmB s.data.toList = s.data.toList.all okc) := Lib.hid (nm_rest s hp (by omega) hf)
        go_enter Try.func40, Try.ntmps40
        go_wp2_with ((go_at_call 47; refine (spec_small _ _).mono ?_; rintro e w' ⟨rfl, rfl⟩))
        go_loop [3] (fun i => ∃ k : Nat, k ≤ s.size ∧ i = .int .i64 k ∧ Hid ((s.data.toList.take k).all okc = true)) (fun i => s.size - (intOf i).toNat)
        case atStart => exact ⟨0, Nat.zero_le _, rfl, Lib.hid rfl⟩
        case round =>
          obtain ⟨k, hk, rfl, HK⟩ := hrel
          by_cases hlt : k < s.size
          · cases hsm : smB ((s[k].toNat : Nat) : Int)
            · cases hdg : dgB ((s[k].toNat : Nat) : Int)
              · have H2 : Hid (s.data.toList.all okc = false) := Lib.hid (all_no s k hlt (by simp [okc, hsm, hdg]))
                go_wp2_with (first | (go_at_call 47; refine (spec_small _ _).mono ?_; rintro e w' ⟨rfl, rfl⟩) | (go_at_call 48; refine (spec_digit _ _).mono ?_; rintro e w' ⟨rfl, rfl⟩))
                go_ret
                exact ⟨ret_bool (by rw [H.out, H2.out]), rfl⟩
              · have H2 : Hid ((s.data.toList.take (k+1)).all okc = true) := Lib.hid (by rw [take_byte s k hlt, List.all_append, HK.out]; simp [okc, hsm, hdg])
                go_wp2_with (first | (go_at_call 47; refine (spec_small _ _).mono ?_; rintro e w' ⟨rfl, rfl⟩) | (go_at_call 48; refine (spec_digit _ _).mono ?_; rintro e w' ⟨rfl, rfl⟩))
                go_round
                case rel => exact ⟨k + 1, by omega, by go_num, H2⟩
                case measure => simp [intOf]; omega
            · have H2 : Hid ((s.data.toList.take (k+1)).all okc = true) := Lib.hid (by rw [take_byte s k hlt, List.all_append, HK.out]; simp [okc, hsm])
              go_wp2_with (first | (go_at_call 47; refine (spec_small _ _).mono ?_; rintro e w' ⟨rfl, rfl⟩) | (go_at_call 48; refine (spec_digit _ _).mono ?_; rintro e w' ⟨rfl, rfl⟩))
              go_round
              case rel => exact ⟨k + 1, by omega, by go_num, H2⟩
              case measure => simp [intOf]; omega
          · go_wp2
            go_ret
            exact ⟨ret_bool (by rw [H.out, ← HK.out, List.take_of_length_le (by simp; omega)]), rfl⟩
theorem impl_name (s : ByteArray) (w : World) (hs : s.size ≤ maxLen) :
    Calls Try.prog 36 #[.string s] w fun e w' => e = .returned (.bool (nmB s.data.toList)) ∧ w = w' := by
  unfold maxLen at hs
  by_cases h0 : s.data.toList = []
  · have H : Hid (nmB s.data.toList = false) := Lib.hid (by rw [h0]; rfl)
    have hE : s.toList = [] := by rw [ByteArray.toList_eq]; exact h0
    clear h0
    go_enter Try.func36, Try.ntmps36
    go_wp2
    go_ret
    exact ⟨ret_bool H.out.symm, rfl⟩
  · have hE : s.toList.isEmpty = false := by rw [ByteArray.toList_eq]; simpa using h0
    have hp : 0 < s.size := by
      rcases Nat.eq_zero_or_pos s.size with h | h
      · exfalso; apply h0; apply List.eq_nil_of_length_eq_zero; simpa using h
      · exact h
    by_cases h10 : 10 < s.size
    · have H : Hid (nmB s.data.toList = false) := Lib.hid (nm_long s h10)
      go_enter Try.func36, Try.ntmps36
      go_wp2
      go_ret
      exact ⟨ret_bool H.out.symm, rfl⟩
    · cases hf : smB ((s[0].toNat : Nat) : Int)
      · have H : Hid (nmB s.data.toList = false) := Lib.hid (nm_first s hp hf)
        go_enter Try.func36, Try.ntmps36
        go_wp2_with ((go_at_call 45; refine (impl_small _ _).mono ?_; rintro e w' ⟨rfl, rfl⟩))
        go_ret
        exact ⟨ret_bool H.out.symm, rfl⟩
      · have H : Hid (nmB s.data.toList = s.data.toList.all okc) := Lib.hid (nm_rest s hp (by omega) hf)
        go_enter Try.func36, Try.ntmps36
        go_wp2_with ((go_at_call 45; refine (impl_small _ _).mono ?_; rintro e w' ⟨rfl, rfl⟩))
        go_loop [19] (fun i => ∃ k : Nat, k ≤ s.size ∧ i = .int .i64 k ∧ Hid ((s.data.toList.take k).all okc = true)) (fun i => s.size - (intOf i).toNat)
        case atStart => exact ⟨0, Nat.zero_le _, rfl, Lib.hid rfl⟩
        case round =>
          obtain ⟨k, hk, rfl, HK⟩ := hrel
          by_cases hlt : k < s.size
          · cases hsm : smB ((s[k].toNat : Nat) : Int)
            · cases hdg : dgB ((s[k].toNat : Nat) : Int)
              · have H2 : Hid (s.data.toList.all okc = false) := Lib.hid (all_no s k hlt (by simp [okc, hsm, hdg]))
                go_wp2_with (first | (go_at_call 45; refine (impl_small _ _).mono ?_; rintro e w' ⟨rfl, rfl⟩) | (go_at_call 46; refine (impl_digit _ _).mono ?_; rintro e w' ⟨rfl, rfl⟩))
                go_ret
                exact ⟨ret_bool (by rw [H.out, H2.out]), rfl⟩
              · have H2 : Hid ((s.data.toList.take (k+1)).all okc = true) := Lib.hid (by rw [take_byte s k hlt, List.all_append, HK.out]; simp [okc, hsm, hdg])
                go_wp2_with (first | (go_at_call 45; refine (impl_small _ _).mono ?_; rintro e w' ⟨rfl, rfl⟩) | (go_at_call 46; refine (impl_digit _ _).mono ?_; rintro e w' ⟨rfl, rfl⟩))
                go_round
                case rel => exact ⟨k + 1, by omega, by go_num, H2⟩
                case measure => simp [intOf]; omega
            · have H2 : Hid ((s.data.toList.take (k+1)).all okc = true) := Lib.hid (by rw [take_byte s k hlt, List.all_append, HK.out]; simp [okc, hsm])
              go_wp2_with (first | (go_at_call 45; refine (impl_small _ _).mono ?_; rintro e w' ⟨rfl, rfl⟩) | (go_at_call 46; refine (impl_digit _ _).mono ?_; rintro e w' ⟨rfl, rfl⟩))
              go_round
              case rel => exact ⟨k + 1, by omega, by go_num, H2⟩
              case measure => simp [intOf]; omega
          · go_wp2
            go_ret
            exact ⟨ret_bool (by rw [H.out, ← HK.out, List.take_of_length_le (by simp; omega)]), rfl⟩
end Go.Proofs.Ytidblpamolimpaa
