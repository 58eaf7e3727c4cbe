/- Contracts of the number functions of chapter 1. -/
import Derived.Test.YtbnhcacjlkmfeaaDoorKit
import Derived.Test.YtbnhcacjlkmfeaaDoorMath
namespace Go.Proofs.YtbnhcacjlkmfeaaDoor
open Go.ChangeShapes Go.WideShapes Go.ChangeAt Go.RowKit
set_option linter.unusedVariables false
set_option linter.unusedSimpArgs false
set_option maxRecDepth 100000

def inB (x lo hi : Int) : Bool := decide (lo ≤ x ∧ x ≤ hi)
theorem inB_yes {x lo hi : Int} (h : inB x lo hi = true) : lo ≤ x ∧ x ≤ hi := by simpa [inB] using h
theorem inB_no {x lo hi : Int} (h : inB x lo hi = false) : x < lo ∨ hi < x := by simp [inB] at h; omega
theorem inB_mk {x lo hi : Int} (h : lo ≤ x ∧ x ≤ hi) : inB x lo hi = true := by simpa [inB] using h

theorem in_any (x lo hi : Int) (w : World) :
    Calls Tryd.prog 38 #[.int .i64 x, .int .i64 lo, .int .i64 hi] w fun e w' => e = .returned (.bool (inB x lo hi)) ∧ w = w' := by
  cases hb : inB x lo hi
  · have h := inB_no hb
    clear hb
    by_cases h1 : lo ≤ x
    · have h2 : ¬ x ≤ hi := by omega
      clear h
      go_enter Tryd.func38, Tryd.ntmps38
      go_wp2
      go_ret
      exact ⟨rfl, rfl⟩
    · clear h
      go_enter Tryd.func38, Tryd.ntmps38
      go_wp2
      go_ret
      exact ⟨rfl, rfl⟩
  · obtain ⟨h1, h2⟩ := inB_yes hb
    clear hb
    go_enter Tryd.func38, Tryd.ntmps38
    go_wp2
    go_ret
    exact ⟨rfl, rfl⟩

/-- The magnitude of a number within 2e18. -/
theorem mag (x : Int) (w : World) (h1 : -2000000000000000000 ≤ x) (h2 : x ≤ 2000000000000000000) :
    Calls Tryd.prog 46 #[.int .i64 x] w fun e w' => e = .returned (.int .u64 (nA x)) ∧ w = w' := by
  by_cases h : x < 0
  · go_enter Tryd.func46, Tryd.ntmps46
    go_wp2
    go_ret
    exact ⟨ret_int (wrap_mag x h1 h), rfl⟩
  · go_enter Tryd.func46, Tryd.ntmps46
    go_wp2
    go_ret
    exact ⟨ret_int (nA_pos x (by omega)).symm, rfl⟩

theorem l01div (a b : Int) (w : World) (h1 : -2000000000000000000 ≤ a) (h2 : a ≤ 2000000000000000000) (h3 : -2000000000000000000 ≤ b) (h4 : b ≤ 2000000000000000000) (hb : b ≠ 0) :
    Calls Tryd.prog 90 #[.int .i64 a, .int .i64 b] w fun e w' => e = .returned (.int .i64 (dv a b)) ∧ w = w' := by
  by_cases hb1 : b < 0
  · by_cases ha : -a < 0
    · go_enter Tryd.func90, Tryd.ntmps90
      go_wp2
      go_ret
      refine ⟨ret_int ?_, rfl⟩
      rw [wrapneg _ _ (by omega) (by omega) (by omega), dv_neg _ _ hb1, dvp_neg _ _ ha]
    · go_enter Tryd.func90, Tryd.ntmps90
      go_wp2
      go_ret
      refine ⟨ret_int ?_, rfl⟩
      rw [dv_neg _ _ hb1, dvp_pos _ _ ha]
  · by_cases ha : a < 0
    · go_enter Tryd.func90, Tryd.ntmps90
      go_wp2
      go_ret
      refine ⟨ret_int ?_, rfl⟩
      rw [wrapneg _ _ (by omega) (by omega) (by omega), dv_pos _ _ hb1, dvp_neg _ _ ha]
    · go_enter Tryd.func90, Tryd.ntmps90
      go_wp2
      go_ret
      refine ⟨ret_int ?_, rfl⟩
      rw [dv_pos _ _ hb1, dvp_pos _ _ ha]

/-- nearestQuotient within 2e18 -/
theorem nearest (a b : Int) (w : World) (h1 : -2000000000000000000 ≤ a) (h2 : a ≤ 2000000000000000000) (h3 : -2000000000000000000 ≤ b) (h4 : b ≤ 2000000000000000000) (hb : b ≠ 0) :
    Calls Tryd.prog 72 #[.int .i64 a, .int .i64 b] w fun e w' => e = .returned (.int .i64 (dv a b)) ∧ ∃ n, w' = w.drewN n := by
  have q := tdiv_in a b _ hb h1 h2
  have r := tmod_in a b hb
  have hB := nA_le b 2000000000000000000 h3 h4
  have r0 := nA_0 (a.tmod b)
  have r2 := nA_bd (a.tmod b) 2000000000000000000 (by omega)
  have E1 : IntKind.i64.wrap (a.tdiv b) = a.tdiv b := IntWalk.i64_in _ (by omega)
  have E2 : (b == 0) = false := by simpa using hb
  have l1 := quo_low a b hb
  have l2 := quo_same a b hb
  have l3 := quo_other a b hb
  have L1 := Lib.hid l1
  have L2 := Lib.hid l2
  have L3 := Lib.hid l3
  clear l1 l2 l3
  obtain ⟨r21, r22⟩ := r2
  obtain ⟨q1, q2⟩ := q
  go_enter Tryd.func72, Tryd.ntmps72
  go_wp2
  go_quiet ((go_at_call 46; exact quiet_eq (mag _ _ (by omega) (by omega))))
  clear E1 E2
  generalize a.tmod b = R at *
  generalize a.tdiv b = Q at *
  by_cases hlt : nA R < nA b - nA R
  · go_wp2_with ((go_at_call 46; refine (mag _ _ (by omega) (by omega)).mono ?_; rintro e w' ⟨rfl, rfl⟩))
    go_ret
    exact ⟨ret_int (L1.out hlt), _, rfl⟩
  · go_wp2_with ((go_at_call 46; refine (mag _ _ (by omega) (by omega)).mono ?_; rintro e w' ⟨rfl, rfl⟩))
    all_goals
      go_ret
      first
      | exact ⟨ret_int (L2.out (by omega) (by assumption)), _, rfl⟩
      | exact ⟨ret_int (L3.out (by omega) (by assumption)), _, rfl⟩

theorem nearest0 (a : Int) (w : World) :
    Calls Tryd.prog 72 #[.int .i64 a, .int .i64 0] w fun e w' => e = .returned (.int .i64 0) ∧ w = w' := by
  go_enter Tryd.func72, Tryd.ntmps72
  go_wp2
  go_ret
  exact ⟨rfl, rfl⟩

/-! DivRound on both sides -/
def valB (x : Int) : Bool := inB x (-1000000000000) 1000000000000
def dround (a b : Int) : Int := if (b == 0 || !valB a || !valB b) = true then 0 else dv a b

end Go.Proofs.YtbnhcacjlkmfeaaDoor
