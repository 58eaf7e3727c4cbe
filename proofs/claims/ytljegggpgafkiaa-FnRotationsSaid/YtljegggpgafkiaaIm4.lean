/- Scales: the masks of a size, by the program. -/
import Derived.Test.YtljegggpgafkiaaIm3
import Derived.BigRegion
import Derived.BigQuiet
import Derived.Lib.Tables
namespace Go.Proofs.Ytljegggpgafkiaa
open Go.ChangeShapes Go.WideShapes Go.ChangeAt Go.RowKit
set_option linter.unusedVariables false
set_option linter.unusedSimpArgs false
set_option maxRecDepth 100000

theorem and255 (m : Nat) (hm : m < 65536) : bits BinOp.and IntKind.u16 (m : Int) 255 = ((m % 256 : Nat) : Int) := by
  have := u16_and_nat m 255 hm (by decide)
  rw [show (255 : Nat) = 2 ^ 8 - 1 from rfl, Nat.and_two_pow_sub_one_eq_mod] at this
  exact this
theorem fold_pop : (⟨((([0, 1, 1, 2, 1, 2, 2, 3, 1, 2, 2, 3, 2, 3, 3, 4, 1, 2, 2, 3, 2, 3, 3, 4, 2, 3, 3, 4, 3, 4, 4, 5, 1, 2, 2, 3, 2, 3, 3, 4, 2, 3, 3, 4, 3, 4, 4, 5, 2, 3, 3, 4, 3, 4, 4, 5, 3, 4, 4, 5, 4, 5, 5, 6] : List UInt8).append [1, 2, 2, 3, 2, 3, 3, 4, 2, 3, 3, 4, 3, 4, 4, 5, 2, 3, 3, 4, 3, 4, 4, 5, 3, 4, 4, 5, 4, 5, 5, 6, 2, 3, 3, 4, 3, 4, 4, 5, 3, 4, 4, 5, 4, 5, 5, 6, 3, 4, 4, 5, 4, 5, 5, 6, 4, 5, 5, 6, 5, 6, 6, 7]).append (([1, 2, 2, 3, 2, 3, 3, 4, 2, 3, 3, 4, 3, 4, 4, 5, 2, 3, 3, 4, 3, 4, 4, 5, 3, 4, 4, 5, 4, 5, 5, 6, 2, 3, 3, 4, 3, 4, 4, 5, 3, 4, 4, 5, 4, 5, 5, 6, 3, 4, 4, 5, 4, 5, 5, 6, 4, 5, 5, 6, 5, 6, 6, 7] : List UInt8).append [2, 3, 3, 4, 3, 4, 4, 5, 3, 4, 4, 5, 4, 5, 5, 6, 3, 4, 4, 5, 4, 5, 5, 6, 4, 5, 5, 6, 5, 6, 6, 7, 3, 4, 4, 5, 4, 5, 5, 6, 4, 5, 5, 6, 5, 6, 6, 7, 4, 5, 5, 6, 5, 6, 6, 7, 5, 6, 6, 7, 6, 7, 7, 8])).toArray⟩ : ByteArray) = Lib.pop8tab := by rfl
theorem pop8_byte0 : ∀ n, n < 256 → Lib.pop8 ((n : Nat) : Int) = ((popB n : Nat) : Int) := by decide +kernel
theorem pop_eq (m : Nat) (hm : m < 4096) : IntKind.u8.wrap (Lib.pop8 ((m : Int) / 256) + Lib.pop8 ((m : Int) % 256)) = ((popN m : Nat) : Int) := by
  have e1 := pop8_byte0 (m / 256) (by omega)
  have e2 := pop8_byte0 (m % 256) (by omega)
  have b : ∀ n, popB n ≤ 8 := fun n => by unfold popB; omega
  push_cast at e1 e2
  rw [e1, e2, IntKind.wrap_u8]
  unfold popN
  have := b (m / 256)
  have := b (m % 256)
  omega
set_option maxHeartbeats 4000000 in
theorem impl_pop (m : Nat) (w : World) (hm : m < 4096) : Calls Try.prog 51 #[.int .u16 (m : Int)] w fun e w' => e = .returned (.int .i64 (popN m : Nat)) ∧ ∃ n, w' = w.drewN n := by
  have HA := and255 m (by omega)
  have m0 : (0 : Int) ≤ (m : Int) := by omega
  have d0 : (0 : Int) ≤ (m : Int) / 256 := by omega
  have d1 : (m : Int) / 256 ≤ 255 := by omega
  have HP := Bx.mk (pop_eq m hm)
  go_enter Try.func51, Try.ntmps51
  go_wp2_with (fail)
  simp only [fold_pop]
  go_quiet (fail)
  go_wp2_with (fail)
  go_ret
  exact ⟨ret_int (by have := HP.out; rw [IntKind.wrap_u8] at this; exact this), _, rfl⟩
end Go.Proofs.Ytljegggpgafkiaa
