/- Square roots, rounded down: both sides. -/
import Derived.Test.YtfogcabhafhlmaaDoorKit
import Derived.Test.YtfogcabhafhlmaaDoorShelf
import Derived.LoopTactic
import Derived.Lib.BitFns
import Derived.Laws.BitsAllLaws
import Derived.Laws.BitsLemmas
namespace Go.Proofs.YtfogcabhafhlmaaDoor
open Go.ChangeShapes Go.WideShapes Go.ChangeAt Go.RowKit
set_option linter.unusedVariables false

/-- r is the root of n, rounded down -/
def IsRoot (n r : Int) : Prop := 0 ≤ r ∧ r * r ≤ n ∧ n < (r + 1) * (r + 1)
theorem root_one (n r s : Int) (h : IsRoot n r) (k : IsRoot n s) : r = s := by
  obtain ⟨a, b, c⟩ := h
  obtain ⟨d, e, f⟩ := k
  rcases Int.lt_trichotomy r s with hl | hl | hl
  · have : (r + 1) * (r + 1) ≤ s * s := Int.mul_le_mul (by omega) (by omega) (by omega) (by omega)
    omega
  · exact hl
  · have : (s + 1) * (s + 1) ≤ r * r := Int.mul_le_mul (by omega) (by omega) (by omega) (by omega)
    omega

theorem lt_bitLenAux : ∀ (f x : Nat), x < 2 ^ f → x < 2 ^ Lib.bitLenAux f x
  | 0, x, h => by simp at h; subst h; simp [Lib.bitLenAux]
  | f + 1, x, h => by
    unfold Lib.bitLenAux
    split
    · subst_vars; simp
    · have := lt_bitLenAux f (x / 2) (by rw [Nat.pow_succ] at h; omega)
      rw [Nat.add_comm, Nat.pow_succ]; omega
theorem lt_bitLen (x : Nat) (h : x < 2 ^ 63) : x < 2 ^ Lib.bitLen x ∧ Lib.bitLen x ≤ 63 :=
  ⟨lt_bitLenAux 64 x (by omega), Lib.bitLen_le x 63 (by omega) h⟩

theorem sq_in (m : Int) (h1 : 0 ≤ m) (h2 : m ≤ 3037000499) : 0 ≤ m * m ∧ m * m ≤ 9223372030926249001 := by
  have := Int.mul_le_mul h2 h2 h1 (by omega)
  exact ⟨Int.mul_nonneg h1 h1, by omega⟩

/-- what a round of the bits' loop keeps -/
def Bits (n : Int) (R k : Nat) : Prop := 2 ^ k ∣ R ∧ R + 2 ^ k ≤ 4294967296 ∧ (R : Int) * R ≤ n ∧ n < ((R + 2 ^ k : Nat) : Int) * ((R + 2 ^ k : Nat) : Int)
theorem pow_le32 (k : Nat) (h : k ≤ 32) : 2 ^ k ≤ 4294967296 := Nat.pow_le_pow_right (n := 2) (by omega) h
theorem bits_start (n : Int) (L : Nat) (hn : 0 ≤ n) (hL : L ≤ 63) (h : n.toNat < 2 ^ L) : Bits n 0 ((L + 1) / 2) := by
  have hp := pow_le32 ((L + 1) / 2) (by omega)
  refine ⟨Nat.dvd_zero _, by omega, by simpa using hn, ?_⟩
  have h2 : 2 ^ L ≤ 2 ^ ((L + 1) / 2) * 2 ^ ((L + 1) / 2) := by
    rw [← Nat.pow_add]; exact Nat.pow_le_pow_right (by omega) (by omega)
  have h3 : n.toNat < 2 ^ ((L + 1) / 2) * 2 ^ ((L + 1) / 2) := by omega
  rw [Nat.zero_add]
  have e : ((2 ^ ((L + 1) / 2) : Nat) : Int) * ((2 ^ ((L + 1) / 2) : Nat) : Int) = ((2 ^ ((L + 1) / 2) * 2 ^ ((L + 1) / 2) : Nat) : Int) := by simp
  rw [e]; omega
theorem half_pow (k : Nat) (h : 1 ≤ k) : 2 ^ k = 2 ^ (k - 1) + 2 ^ (k - 1) := by
  obtain ⟨j, rfl⟩ : ∃ j, k = j + 1 := ⟨k - 1, by omega⟩
  rw [Nat.add_sub_cancel, Nat.pow_succ]; omega
theorem bits_keep (n : Int) (R k : Nat) (h : Bits n R k) (hk : 1 ≤ k) (ht : n < ((R + 2 ^ (k - 1) : Nat) : Int) * ((R + 2 ^ (k - 1) : Nat) : Int)) : Bits n R (k - 1) := by
  obtain ⟨h1, h2, h3, h4⟩ := h
  have e := half_pow k hk
  exact ⟨Nat.dvd_trans (Nat.pow_dvd_pow 2 (by omega)) h1, by omega, h3, ht⟩
theorem bits_take (n : Int) (R k : Nat) (h : Bits n R k) (hk : 1 ≤ k) (ht : ((R + 2 ^ (k - 1) : Nat) : Int) * ((R + 2 ^ (k - 1) : Nat) : Int) ≤ n) : Bits n (R + 2 ^ (k - 1)) (k - 1) := by
  obtain ⟨h1, h2, h3, h4⟩ := h
  have e := half_pow k hk
  refine ⟨Nat.dvd_add (Nat.dvd_trans (Nat.pow_dvd_pow 2 (by omega)) h1) (Nat.dvd_refl _), by omega, ht, ?_⟩
  rw [Nat.add_assoc, ← e]; exact h4
theorem bits_end (n : Int) (R : Nat) (h : Bits n R 0) : IsRoot n (R : Int) := by
  obtain ⟨h1, h2, h3, h4⟩ := h
  exact ⟨by omega, h3, by simpa using h4⟩
theorem ofInt_u64 (a : Nat) (ha : a < 18446744073709551616) : (BitVec.ofInt 64 (a : Int)).toNat = a := by
  rw [BitVec.ofInt_natCast, BitVec.toNat_ofNat]; exact Nat.mod_eq_of_lt (by omega)
theorem or_try (n : Int) (R k : Nat) (h : Bits n R k) (hk : 1 ≤ k) (hk2 : k ≤ 32) : bits BinOp.or IntKind.u64 (R : Int) (IntKind.u64.wrap (2 ^ (k - 1))) = ((R + 2 ^ (k - 1) : Nat) : Int) := by
  obtain ⟨⟨q, hq⟩, h2, h3, h4⟩ := h
  have e := half_pow k hk
  have hp := pow_le32 k hk2
  have ho : R ||| 2 ^ (k - 1) = R + 2 ^ (k - 1) := by rw [hq, Nat.two_pow_add_eq_or_of_lt (Nat.pow_lt_pow_right (by omega) (by omega))]
  clear hq
  have e2 : ((2 : Int) ^ (k - 1)) = ((2 ^ (k - 1) : Nat) : Int) := by simp
  rw [e2]
  generalize 2 ^ (k - 1) = p at *
  rw [IntWalk.u64_in (p : Int) (by omega)]
  show IntKind.u64.wrap ((BitVec.ofInt 64 (R : Int) ||| BitVec.ofInt 64 (p : Int)).toNat : Int) = _
  rw [BitVec.toNat_or, ofInt_u64 R (by omega), ofInt_u64 _ (by omega), ho, IntWalk.u64_in _ (by omega)]
theorem sq_in32 (T : Nat) (h2 : T ≤ 4294967295) : 0 ≤ (T : Int) * T ∧ (T : Int) * T ≤ 18446744065119617025 := by
  have h : (T : Int) ≤ 4294967295 := by omega
  have := Int.mul_le_mul h h (by omega) (by omega)
  exact ⟨Int.mul_nonneg (by omega) (by omega), by omega⟩

theorem impl_root (n : Int) (w : World) (hn : 0 ≤ n) (hm : Hid (n ≤ 9223372036854775807)) :
    Calls Tryd.prog 12 #[.int .i64 n] w fun e w' => (∃ r, e = .returned (.int .i64 r) ∧ IsRoot n r) ∧ w = w' := by
  have hn1 := hm.out
  obtain ⟨b1, b2⟩ := lt_bitLen n.toNat (by omega)
  have E : Hid (Bits n 0 ((Lib.bitLen n.toNat + 1) / 2)) := Lib.hid (bits_start n _ hn b2 b1)
  clear b1
  go_enter Tryd.func12, Tryd.ntmps12
  go_wp2_with ((go_at_call 39; refine (Tryd.bits_Len64 _ _ (by omega) (by omega)).mono ?_; rintro e w' ⟨rfl, rfl⟩))
  go_loop [4, 5] (fun r b => ∃ (R k : Nat), k ≤ 32 ∧ R < 4294967296 ∧ r = .int .u64 R ∧ b = .int .i64 ((k : Int) - 1) ∧ Hid (Bits n R k)) (fun r b => (intOf b + 1).toNat)
  case atStart => exact ⟨0, (Lib.bitLen n.toNat + 1) / 2, by omega, by omega, rfl, by go_num, E⟩
  case round =>
    obtain ⟨R, k, h1, h2, rfl, rfl, HK⟩ := hrel
    by_cases hk : 1 ≤ k
    · have HT : Hid (bits BinOp.or IntKind.u64 (R : Int) (IntKind.u64.wrap (2 ^ (k - 1))) = ((R + 2 ^ (k - 1) : Nat) : Int)) := Lib.hid (or_try n R k HK.out hk h1)
      have HB : Hid (R + 2 ^ (k - 1) ≤ 4294967295) := Lib.hid (by have := HK.out.2.1; have := half_pow k hk; have : 0 < 2 ^ (k - 1) := Nat.two_pow_pos _; omega)
      have HX := Lib.hid (bits_take n R k HK.out hk)
      have HY := Lib.hid (bits_keep n R k HK.out hk)
      generalize R + 2 ^ (k - 1) = T at HT HB HX HY
      have hB := HB.out
      have hT := HT.out
      obtain ⟨q1, q2⟩ := sq_in32 T hB
      by_cases ht : (T : Int) * T ≤ n
      · have H2 : Hid (Bits n T (k - 1)) := Lib.hid (HX.out ht)
        go_wp2
        go_round
        case rel => exact ⟨T, k - 1, by omega, by omega, rfl, by go_num, H2⟩
        case measure => simp [intOf]; omega
      · have H2 : Hid (Bits n R (k - 1)) := Lib.hid (HY.out (by omega))
        go_wp2
        go_round
        case rel => exact ⟨R, k - 1, by omega, by omega, rfl, by go_num, H2⟩
        case measure => simp [intOf]; omega
    · obtain rfl : k = 0 := by omega
      have H2 : Hid (IsRoot n R) := Lib.hid (bits_end n R HK.out)
      go_wp2
      go_ret
      exact ⟨⟨_, rfl, H2.out⟩, rfl⟩
theorem impl_root_neg (n : Int) (w : World) (hn : n < 0) :
    Calls Tryd.prog 12 #[.int .i64 n] w fun e w' => e = .returned (.int .i64 0) ∧ w = w' := by
  go_enter Tryd.func12, Tryd.ntmps12
  go_wp2
  go_ret
  exact ⟨rfl, rfl⟩
end Go.Proofs.YtfogcabhafhlmaaDoor
