/- Sets of tones as masks, by the program: maskOf, tones. -/
import Derived.Test.YtobhmoohalkijaaRImT
import Derived.Test.YtobhmoohalkijaaMask
import Derived.Laws.BitsAllLaws
import Derived.Laws.BitsLemmas
namespace Go.Proofs.Ytobhmoohalkijaa
open Go.ChangeShapes Go.WideShapes Go.ChangeAt Go.RowKit
set_option linter.unusedVariables false
set_option linter.unusedSimpArgs false
set_option maxRecDepth 100000

theorem shr_bit (z : Int) (h : 0 ≤ z ∧ z ≤ 11) : (2048 : Int) / 2 ^ z.toNat = ((bitN z.toNat : Nat) : Int) := by
  unfold bitN; push_cast; rfl
theorem bit_lt16 (t : Nat) : bitN t < 4096 := Nat.lt_of_le_of_lt (Nat.div_le_self _ _) (by decide)
set_option maxHeartbeats 1000000 in
theorem impl_mask (v : Value) (zs : List Int) (w : World) (h : IntsAt w v zs) (hl : 0 < zs.length) (hr : ∀ k, k < zs.length → 0 ≤ zs.getD k 0 ∧ zs.getD k 0 ≤ 11) (hm : zs.length ≤ 281474976710656) :
    Calls Try.prog 100 #[v] w fun e w' => e = .returned (.int .u16 (maskN zs zs.length : Nat)) ∧ w = w' := by
  obtain ⟨b, o, c, rfl, hb, hc⟩ := h.form hl
  have HC := Bx.mk hc
  have HR := Bx.mk hr
  clear h hc hr
  go_enter Try.func100, Try.ntmps100
  go_wp2_with (fail)
  go_loop [3, 8] (fun m i => ∃ k : Nat, k ≤ zs.length ∧ i = .int .i64 k ∧ m = .int .u16 (maskN zs k : Nat)) (fun _ i => zs.length - (intOf i).toNat)
  case atStart => exact ⟨0, Nat.zero_le _, rfl, rfl⟩
  case round =>
    obtain ⟨k, hk, rfl, rfl⟩ := hrel
    by_cases hlt : k < zs.length
    · have h1 : w.cell? ⟨b, o + k, none⟩ = some (.int .i64 (zs.getD k 0)) := HC.out k hlt
      have k0 : (0 : Int) ≤ (k : Int) := by omega
      have k1 : (k : Int) < (zs.length : Int) := by omega
      have hz := HR.out k hlt
      have HM : Bx (maskN zs (k + 1) = maskN zs k ||| bitN (zs.getD k 0).toNat) := Bx.mk rfl
      have HL : Bx (maskN zs k < 4096) := Bx.mk (mask_lt zs k (fun i hi => HR.out i (by omega)))
      generalize zs.getD k 0 = z at *
      obtain ⟨z1, z2⟩ := hz
      have z3 : z ≤ 16 := by omega
      have HS : Bx (bits BinOp.or IntKind.u16 ((maskN zs k : Nat) : Int) (2048 / 2 ^ z.toNat) = ((maskN zs (k + 1) : Nat) : Int)) := Bx.mk (by
        rw [shr_bit z ⟨z1, z2⟩, u16_or_nat _ _ (by have := HL.out; omega) (by have := bit_lt16 z.toNat; omega), HM.out])
      clear HM HL
      go_wp2_with (fail)
      go_round
      case rel => exact ⟨k + 1, by omega, by go_num, congrArg (Value.int .u16) HS.out⟩
      case measure => simp [intOf]; omega
    · obtain rfl : k = zs.length := by omega
      go_wp2_with (fail)
      go_ret
      exact ⟨rfl, rfl⟩
theorem on_no {m k : Nat} (hm : m < 65536) (h : onB m k = false) : (bits BinOp.and IntKind.u16 (m : Int) (2048 / 2 ^ k) != 0) = false := by
  have e : (2048 : Int) / 2 ^ k = ((bitN k : Nat) : Int) := by unfold bitN; push_cast; rfl
  rw [e, u16_and_nat _ _ hm (by have := bit_lt16 k; omega)]
  unfold onB at h
  simpa using h
theorem on_yes {m k : Nat} (hm : m < 65536) (h : onB m k = true) : (bits BinOp.and IntKind.u16 (m : Int) (2048 / 2 ^ k) != 0) = true := by
  have e : (2048 : Int) / 2 ^ k = ((bitN k : Nat) : Int) := by unfold bitN; push_cast; rfl
  rw [e, u16_and_nat _ _ hm (by have := bit_lt16 k; omega)]
  unfold onB at h
  simpa using h
end Go.Proofs.Ytobhmoohalkijaa
