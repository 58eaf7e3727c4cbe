/- Why a move is wrong, on both sides. -/
import Derived.Test.YtobhmoohalkijaaRu
namespace Go.Proofs.Ytobhmoohalkijaa
open Go.ChangeShapes Go.WideShapes Go.ChangeAt Go.RowKit
set_option linter.unusedVariables false
set_option linter.unusedSimpArgs false
set_option maxRecDepth 100000

/-- why a move is wrong; 0: it is allowed -/
def reasonZ (R : Rg) (p q : Int) : Int :=
  if hasT R (p % 12) = true ∧ hasT R (q % 12) = true then
    (if 12 < q - p ∨ 12 < p - q then 2 else if p < q ∧ hasB R.u (q % 12) = false then 3 else if q < p ∧ hasB R.d (q % 12) = false then 4 else if memP R.f (p % 12) (q % 12) = true then 5 else 0)
  else 1
theorem spec_max (a b : Int) (w : World) : Calls Try.prog 106 #[.int .i64 a, .int .i64 b] w fun e w' => e = .returned (.int .i64 (max a b)) ∧ w = w' := by
  by_cases h : a > b
  · have HE : Bx (max a b = a) := Bx.mk (by omega)
    have d : decide (a > b) = true := decide_eq_true h
    clear h
    go_enter Try.func106, Try.ntmps106
    go_wp2_with (fail)
    go_ret
    exact ⟨ret_int HE.out.symm, rfl⟩
  · have HE : Bx (max a b = b) := Bx.mk (by omega)
    have d : decide (a > b) = false := decide_eq_false h
    clear h
    go_enter Try.func106, Try.ntmps106
    go_wp2_with (fail)
    go_ret
    exact ⟨ret_int HE.out.symm, rfl⟩
theorem on_has {zs : List Int} (hs : scaleB zs = true) (p : Int) : onB (maskN zs zs.length) (p % 12).toNat = hasB zs (p % 12) := by
  have hr : ∀ i, i < zs.length → 0 ≤ zs.getD i 0 ∧ zs.getD i 0 ≤ 11 := fun i hi => scale_in hs i hi
  have hp : 0 ≤ p % 12 ∧ p % 12 < 12 := ⟨Int.emod_nonneg _ (by decide), Int.emod_lt_of_pos _ (by decide)⟩
  rw [Bool.eq_iff_iff, mask_on zs zs.length hr _ (by omega), has_mem, decide_eq_true_eq]
  constructor
  · rintro ⟨i, hi, he⟩
    have : zs.getD i 0 = p % 12 := by omega
    rw [← this, List.getD, List.getElem?_eq_getElem hi]
    exact List.getElem_mem _
  · intro h
    obtain ⟨i, hi, he⟩ := List.mem_iff_getElem.1 h
    refine ⟨i, hi, ?_⟩
    rw [List.getD, List.getElem?_eq_getElem hi]
    simp only [Option.getD_some, he]
    omega
theorem on_or (m n t : Nat) (h : t < 12) : onB (m ||| n) t = (onB m t || onB n t) := by
  rw [on_test _ _ h, on_test _ _ h, on_test _ _ h, Nat.testBit_or]
theorem impl_holds (m : Nat) (p : Int) (w : World) (hm : m < 65536) : Calls Try.prog 102 #[.int .u16 (m : Int), .int .i64 p] w fun e w' => e = .returned (.bool (onB m (p % 12).toNat)) ∧ w = w' := by
  have ht := fun W => impl_toneof p W
  have hp : 0 ≤ p % 12 ∧ p % 12 < 12 := ⟨Int.emod_nonneg _ (by decide), Int.emod_lt_of_pos _ (by decide)⟩
  have hs : ∃ k : Nat, k < 12 ∧ p % 12 = k := ⟨(p % 12).toNat, by omega, by omega⟩
  obtain ⟨k, hk, he⟩ := hs
  rw [he] at ht ⊢
  have k1 : (0 : Int) ≤ (k : Int) := by omega
  have k2 : (k : Int) ≤ 16 := by omega
  have HB : Bx ((bits BinOp.and IntKind.u16 (m : Int) (2048 / 2 ^ k) != 0) = onB m k) := Bx.mk (by
    cases h : onB m k
    · exact on_no hm h
    · exact on_yes hm h)
  rw [show ((k : Int)).toNat = k by omega]
  clear he hp
  go_enter Try.func102, Try.ntmps102
  go_wp2_with (fail)
  refine (ht _).mono ?_
  rintro e w' ⟨rfl, rfl⟩
  go_wp2_with (fail)
  go_ret
  exact ⟨ret_bool HB.out, rfl⟩
theorem impl_all (m n : Nat) (mb : Option Nat) (w : World) (hm : m < 4096) (hn : n < 4096) : Calls Try.prog 101 #[.agg #[.int .u16 (m : Int), .int .u16 (n : Int), .map mb]] w fun e w' => e = .returned (.int .u16 ((m ||| n : Nat) : Int)) ∧ Below w.heap.size w w' := by
  have HS : Bx (bits BinOp.or IntKind.u16 (m : Int) (n : Int) = ((m ||| n : Nat) : Int)) := Bx.mk (u16_or_nat _ _ (by omega) (by omega))
  go_enter Try.func101, Try.ntmps101
  go_wp2_with (fail)
  go_ret
  exact ⟨congrArg (fun z => Ending.returned (.int .u16 z)) HS.out, (Below.refl _ _).alloc (Nat.le_refl _) _⟩
end Go.Proofs.Ytobhmoohalkijaa
