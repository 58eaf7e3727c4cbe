/- Crc16 on both sides: one step a bit, on numbers below 65536. -/
import Derived.Test.YtfogcabhafhlmaaNum
import Derived.LoopTactic
import Derived.Laws.BitsAllLaws
import Derived.Laws.BitsLemmas
namespace Go.Proofs.Ytfogcabhafhlmaa
open Go.ChangeShapes Go.WideShapes Go.ChangeAt Go.RowKit
set_option linter.unusedVariables false

def crcBit (c : Nat) : Nat := if 65535 < c * 2 then ((c * 2) &&& 65535) ^^^ 4129 else c * 2
def crcBits : Nat → Nat → Nat
  | 0, c => c
  | k + 1, c => crcBit (crcBits k c)
def crcByte (c : Nat) (b : UInt8) : Nat := crcBits 8 (c ^^^ (b.toNat * 256))
def crcAll (l : List UInt8) (c : Nat) : Nat := l.foldl crcByte c

theorem bit_lt (c : Nat) : crcBit c < 65536 := by
  unfold crcBit; split
  · exact Nat.xor_lt_two_pow (n := 16) (Nat.lt_of_le_of_lt Nat.and_le_right (by omega)) (by omega)
  · omega
theorem bits_lt (k c : Nat) (h : c < 65536) : crcBits k c < 65536 := by
  cases k with
  | zero => exact h
  | succ k => exact bit_lt _
theorem mix_lt (c : Nat) (b : UInt8) (h : c < 65536) : c ^^^ (b.toNat * 256) < 65536 :=
  Nat.xor_lt_two_pow (n := 16) h (by have := b.toNat_lt; omega)
theorem byte_lt (c : Nat) (b : UInt8) (h : c < 65536) : crcByte c b < 65536 := by
  unfold crcByte
  have h1 := mix_lt c b h
  generalize c ^^^ (b.toNat * 256) = x at *
  exact bits_lt 8 x h1
theorem all_lt (l : List UInt8) (c : Nat) (h : c < 65536) : crcAll l c < 65536 := by
  unfold crcAll
  induction l generalizing c with
  | nil => exact h
  | cons b l ih => rw [List.foldl_cons]; exact ih _ (byte_lt c b h)
theorem all_snoc (l : List UInt8) (b : UInt8) (c : Nat) : crcAll (l ++ [b]) c = crcByte (crcAll l c) b := by
  unfold crcAll; rw [List.foldl_append, List.foldl_cons, List.foldl_nil]

theorem ofInt64 (a : Nat) (ha : a < 9223372036854775808) : (BitVec.ofInt 64 (a : Int)).toNat = a := by
  rw [BitVec.ofInt_natCast, BitVec.toNat_ofNat]; exact Nat.mod_eq_of_lt (by omega)
theorem and64 (a b : Nat) (ha : a < 9223372036854775808) (hb : b < 9223372036854775808) : bits .and .i64 (a : Int) (b : Int) = ((a &&& b : Nat) : Int) := by
  have hx : a &&& b < 2 ^ 63 := Nat.and_lt_two_pow _ (by omega)
  show IntKind.i64.wrap ((BitVec.ofInt 64 (a : Int) &&& BitVec.ofInt 64 (b : Int)).toNat : Int) = _
  rw [BitVec.toNat_and, ofInt64 a ha, ofInt64 b hb, IntKind.wrap_i64]
  omega
theorem xor64 (a b : Nat) (ha : a < 9223372036854775808) (hb : b < 9223372036854775808) : bits .xor .i64 (a : Int) (b : Int) = ((a ^^^ b : Nat) : Int) := by
  have hx : a ^^^ b < 2 ^ 63 := Nat.xor_lt_two_pow (by omega) (by omega)
  show IntKind.i64.wrap ((BitVec.ofInt 64 (a : Int) ^^^ BitVec.ofInt 64 (b : Int)).toNat : Int) = _
  rw [BitVec.toNat_xor, ofInt64 a ha, ofInt64 b hb, IntKind.wrap_i64]
  omega

theorem take_byte (s : ByteArray) (k : Nat) (h : k < s.size) : s.data.toList.take (k + 1) = s.data.toList.take k ++ [s[k]] := by
  rw [List.take_succ_eq_append_getElem (by simpa using h)]; rfl
theorem mix64 (D : Nat) (b : UInt8) (h : D < 65536) : bits BinOp.xor IntKind.i64 (D : Int) ((b.toNat : Int) * 256) = ((D ^^^ (b.toNat * 256) : Nat) : Int) := by
  have hb := b.toNat_lt
  have := xor64 D (b.toNat * 256) (by omega) (by omega)
  rw [← this]; congr 1
theorem step64 (C : Nat) (h : C < 65536) (ht : 65535 < C * 2) : bits BinOp.xor IntKind.i64 (bits BinOp.and IntKind.i64 ((C : Int) * 2) 65535) 4129 = (crcBit C : Int) := by
  have h1 : (C * 2) &&& 65535 < 9223372036854775808 := Nat.lt_of_le_of_lt Nat.and_le_right (by omega)
  have e : bits BinOp.and IntKind.i64 ((C : Int) * 2) 65535 = (((C * 2) &&& 65535 : Nat) : Int) := by
    rw [← and64 (C * 2) 65535 (by omega) (by omega)]; congr 1
  rw [e, show (4129 : Int) = ((4129 : Nat) : Int) from rfl, xor64 _ 4129 h1 (by omega)]
  unfold crcBit; rw [if_pos ht]
theorem bits_succ (k c : Nat) : crcBits (k + 1) c = crcBit (crcBits k c) := rfl

theorem spec_crc (s : ByteArray) (c : Nat) (w : World) (hs : s.size ≤ maxLen) (hc : Bx (c < 65536)) :
    Calls Try.prog 22 #[.string s, .int .i64 c] w fun e w' => e = .returned (.int .i64 (crcAll s.data.toList c : Nat)) ∧ w = w' := by
  unfold maxLen at hs
  go_enter Try.func22, Try.ntmps22
  go_wp2
  go_loop [1, 5, 6] (fun c' i j => ∃ (k : Nat) (D : Nat), k ≤ s.size ∧ i = .int .i64 k ∧ c' = .int .i64 D ∧ Bx (D = crcAll (s.data.toList.take k) c)) (fun _ i _ => s.size - (intOf i).toNat)
  case atStart => exact ⟨0, c, Nat.zero_le _, rfl, rfl, Bx.mk rfl⟩
  case round =>
    obtain ⟨k, D, hk, rfl, rfl, HK⟩ := hrel
    by_cases hlt : k < s.size
    · have hD : D < 65536 := by rw [HK.out]; exact all_lt _ _ hc.out
      have hb : (s[k].toNat : Int) ≤ 255 := by have := s[k].toNat_lt; omega
      have hM := Bx.mk (mix64 D s[k] hD)
      have hM2 := mix_lt D s[k] hD
      have hD1 : (D : Int) ≤ 65535 := by omega
      have HN : Bx (crcBits 8 (D ^^^ s[k].toNat * 256) = crcAll (s.data.toList.take (k + 1)) c) := Bx.mk (by
        rw [take_byte s k hlt, all_snoc, ← HK.out]; unfold crcByte; with_reducible rfl)
      generalize D ^^^ s[k].toNat * 256 = M at hM hM2 HN
      have hM2 := Bx.mk hM2
      clear hD
      go_wp2
      go_loop [1, 6] (fun c' j => ∃ (q : Nat) (C : Nat), q ≤ 8 ∧ j = .int .i64 q ∧ c' = .int .i64 C ∧ Bx (C = crcBits q M)) (fun _ j => 8 - (intOf j).toNat)
      case atStart => exact ⟨0, M, by omega, rfl, congrArg (Value.int .i64) hM.out, Bx.mk rfl⟩
      case round =>
        obtain ⟨q, C, hq, rfl, rfl, HC⟩ := hrel
        by_cases hq8 : q < 8
        · have hC : C < 65536 := by rw [HC.out]; exact bits_lt _ _ hM2.out
          have HS : Bx (crcBit C = crcBits (q + 1) M) := Bx.mk (by rw [bits_succ, ← HC.out])
          have hC1 : (C : Int) ≤ 65535 := by omega
          by_cases ht : (65535 : Int) < (C : Int) * 2
          · have HA := Bx.mk (step64 C hC (by omega))
            clear hC
            generalize crcBit C = N at HA HS
            go_wp2
            go_round
            case rel => exact ⟨q + 1, N, by omega, by go_num, congrArg (Value.int .i64) HA.out, HS⟩
            case measure => simp [intOf]; omega
          · have HB : Bx (C * 2 = crcBits (q + 1) M) := Bx.mk (by rw [← HS.out]; unfold crcBit; rw [if_neg (by omega)])
            clear hC
            go_wp2
            go_round
            case rel => exact ⟨q + 1, C * 2, by omega, by go_num, by go_num, HB⟩
            case measure => simp [intOf]; omega
        · obtain rfl : q = 8 := by omega
          go_wp2
          go_round
          case rel => exact ⟨k + 1, C, by omega, by go_num, rfl, Bx.mk (by rw [HC.out, HN.out])⟩
          case measure => simp [intOf]; omega
    · have HE : Bx (D = crcAll s.data.toList c) := Bx.mk (by rw [HK.out, List.take_of_length_le (by simp; omega)])
      go_wp2
      go_ret
      exact ⟨ret_int (by rw [HE.out]), rfl⟩

theorem top_low (C : Nat) (h : C < 32768) : C &&& 32768 = 0 := by
  apply Nat.eq_of_testBit_eq
  intro i
  rw [Nat.testBit_and, show (32768 : Nat) = 2 ^ 15 from rfl, Nat.testBit_two_pow]
  by_cases hi : 15 = i
  · subst hi; rw [Nat.testBit_lt_two_pow (by omega)]; simp
  · simp [hi]
theorem top_high (C : Nat) (h : 32768 ≤ C) (h2 : C < 65536) : C &&& 32768 ≠ 0 := by
  intro e
  have e2 : (C &&& 32768).testBit 15 = false := by rw [e]; simp
  rw [Nat.testBit_and, show (32768 : Nat) = 2 ^ 15 from rfl, Nat.testBit_two_pow, Nat.testBit_eq_decide_div_mod_eq] at e2
  simp at e2
  omega
theorem top16_yes (C : Nat) (h : C < 65536) (ht : 65535 < C * 2) : (bits BinOp.and IntKind.u16 (C : Int) 32768 != 0) = true := by
  have e : bits BinOp.and IntKind.u16 (C : Int) 32768 = ((C &&& 32768 : Nat) : Int) := u16_and_nat C 32768 h (by omega)
  have := top_high C (by omega) h
  rw [e]; simp; omega
theorem top16_no (C : Nat) (h : C < 65536) (ht : ¬ 65535 < C * 2) : (bits BinOp.and IntKind.u16 (C : Int) 32768 != 0) = false := by
  have e : bits BinOp.and IntKind.u16 (C : Int) 32768 = ((C &&& 32768 : Nat) : Int) := u16_and_nat C 32768 h (by omega)
  rw [e, top_low C (by omega)]; rfl
theorem mix16 (D : Nat) (b : UInt8) (h : D < 65536) : bits BinOp.xor IntKind.u16 (D : Int) ((b.toNat : Int) * 256) = ((D ^^^ (b.toNat * 256) : Nat) : Int) := by
  have hb := b.toNat_lt
  have := u16_xor_nat D (b.toNat * 256) (by omega) (by omega)
  rw [← this]; congr 1
theorem step16 (C : Nat) (h : C < 65536) (ht : 65535 < C * 2) : bits BinOp.xor IntKind.u16 (IntKind.u16.wrap ((C : Int) * 2)) 4129 = (crcBit C : Int) := by
  have e : IntKind.u16.wrap ((C : Int) * 2) = (((C * 2) &&& 65535 : Nat) : Int) := by
    rw [IntKind.wrap_u16, show (65535 : Nat) = 2 ^ 16 - 1 from rfl, Nat.and_two_pow_sub_one_eq_mod]; omega
  have h1 : (C * 2) &&& 65535 < 65536 := Nat.lt_of_le_of_lt Nat.and_le_right (by omega)
  have := u16_xor_nat ((C * 2) &&& 65535) 4129 h1 (by omega)
  rw [e]; unfold crcBit; rw [if_pos ht]; exact this

theorem impl_crc (s : ByteArray) (c : Nat) (w : World) (hs : s.size ≤ maxLen) (hc : Bx (c < 65536)) :
    Calls Try.prog 11 #[.string s, .int .i64 c] w fun e w' => e = .returned (.int .i64 (crcAll s.data.toList c : Nat)) ∧ w = w' := by
  unfold maxLen at hs
  have hc1 : (c : Int) ≤ 65535 := by have := hc.out; omega
  go_enter Try.func11, Try.ntmps11
  go_wp2
  go_loop [5, 18, 28] (fun c' i j => ∃ (k : Nat) (D : Nat), k ≤ s.size ∧ i = .int .i64 k ∧ c' = .int .u16 D ∧ Bx (D = crcAll (s.data.toList.take k) c)) (fun _ i _ => s.size - (intOf i).toNat)
  case atStart => exact ⟨0, c, Nat.zero_le _, rfl, rfl, Bx.mk rfl⟩
  case round =>
    obtain ⟨k, D, hk, rfl, rfl, HK⟩ := hrel
    by_cases hlt : k < s.size
    · have hD : D < 65536 := by rw [HK.out]; exact all_lt _ _ hc.out
      have hb : (s[k].toNat : Int) ≤ 255 := by have := s[k].toNat_lt; omega
      have hM2 := mix_lt D s[k] hD
      have hD1 : (D : Int) ≤ 65535 := by omega
      have HN : Bx (crcBits 8 (D ^^^ s[k].toNat * 256) = crcAll (s.data.toList.take (k + 1)) c) := Bx.mk (by
        rw [take_byte s k hlt, all_snoc, ← HK.out]; unfold crcByte; with_reducible rfl)
      have hM := Bx.mk (mix16 D s[k] hD)
      generalize D ^^^ s[k].toNat * 256 = M at hM hM2 HN
      have hM2 := Bx.mk hM2
      clear hD
      go_wp2
      go_loop [5, 28] (fun c' j => ∃ (q : Nat) (C : Nat), q ≤ 8 ∧ j = .int .i64 q ∧ c' = .int .u16 C ∧ Bx (C = crcBits q M)) (fun _ j => 8 - (intOf j).toNat)
      case atStart => exact ⟨0, M, by omega, rfl, congrArg (Value.int .u16) hM.out, Bx.mk rfl⟩
      case round =>
        obtain ⟨q, C, hq, rfl, rfl, HC⟩ := hrel
        by_cases hq8 : q < 8
        · have hC : C < 65536 := by rw [HC.out]; exact bits_lt _ _ hM2.out
          have HS : Bx (crcBit C = crcBits (q + 1) M) := Bx.mk (by rw [bits_succ, ← HC.out])
          have hC1 : (C : Int) ≤ 65535 := by omega
          by_cases ht : (65535 : Int) < (C : Int) * 2
          · have HA := Bx.mk (step16 C hC (by omega))
            have hT := top16_yes C hC (by omega)
            clear hC
            generalize crcBit C = N at HA HS
            go_wp2
            go_round
            case rel => exact ⟨q + 1, N, by omega, by go_num, congrArg (Value.int .u16) HA.out, HS⟩
            case measure => simp [intOf]; omega
          · have HB : Bx (C * 2 = crcBits (q + 1) M) := Bx.mk (by rw [← HS.out]; unfold crcBit; rw [if_neg (by omega)])
            have hT := top16_no C hC (by omega)
            clear hC
            go_wp2
            go_round
            case rel => exact ⟨q + 1, C * 2, by omega, by go_num, by go_num, HB⟩
            case measure => simp [intOf]; omega
        · obtain rfl : q = 8 := by omega
          go_wp2
          go_round
          case rel => exact ⟨k + 1, C, by omega, by go_num, rfl, Bx.mk (by rw [HC.out, HN.out])⟩
          case measure => simp [intOf]; omega
    · have HE : Bx (D = crcAll s.data.toList c) := Bx.mk (by rw [HK.out, List.take_of_length_le (by simp; omega)])
      have hD1 : (D : Int) ≤ 65535 := by have : D < 65536 := by rw [HK.out]; exact all_lt _ _ hc.out
                                         omega
      go_wp2
      go_ret
      exact ⟨ret_int (by rw [HE.out]), rfl⟩

theorem impl_crc_no (s : ByteArray) (c : Int) (w : World) (hc : c < 0 ∨ 65535 < c) :
    Calls Try.prog 11 #[.string s, .int .i64 c] w fun e w' => e = .returned (.int .i64 0) ∧ w = w' := by
  by_cases h : c < 0
  · clear hc
    go_enter Try.func11, Try.ntmps11
    go_wp2
    go_ret
    exact ⟨rfl, rfl⟩
  · have h2 : 65535 < c := by omega
    clear hc
    go_enter Try.func11, Try.ntmps11
    go_wp2
    go_ret
    exact ⟨rfl, rfl⟩
end Go.Proofs.Ytfogcabhafhlmaa
