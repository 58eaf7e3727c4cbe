/- Plain arithmetic for chapter 1: the nearest quotient in two forms. -/
import Derived.IntWalk
namespace Go.Proofs.YtendfnimhmnioaaDoor
set_option linter.unusedVariables false
set_option linter.unusedSimpArgs false
set_option maxRecDepth 100000
def dvp (a b : Int) : Int := if a < 0 then -((b - 2*a)/(2*b)) else (2*a+b)/(2*b)
def dv (a b : Int) : Int := if b < 0 then dvp (-a) (-b) else dvp a b

theorem dvp_neg (a b : Int) (h : a < 0) : dvp a b = -((b - 2*a)/(2*b)) := by unfold dvp; rw [if_pos h]
theorem dvp_pos (a b : Int) (h : 0 ≤ a) : dvp a b = (2*a+b)/(2*b) := by unfold dvp; rw [if_neg (by omega)]
theorem dv_neg (a b : Int) (h : b < 0) : dv a b = dvp (-a) (-b) := by unfold dv; rw [if_pos h]
theorem dv_pos (a b : Int) (h : 0 ≤ b) : dv a b = dvp a b := by unfold dv; rw [if_neg (by omega)]

/-- a positive pair -/
theorem near_low (a b : Int) (ha : 0 ≤ a) (hb : 1 ≤ b) (h : a % b < b - a % b) : (2*a+b)/(2*b) = a / b := by
  have e := Int.mul_ediv_add_emod a b
  have m1 := Int.emod_nonneg a (b := b) (by omega)
  generalize a / b = q at *
  generalize a % b = r at *
  refine (Int.ediv_eq_iff_of_pos (by omega)).2 ?_
  have e1 : 2 * b * q = 2 * (b * q) := by rw [Int.mul_assoc]
  have e2 : q * (2*b) = 2 * (b * q) := by rw [Int.mul_comm, e1]
  generalize b * q = t at *
  first | omega | (constructor <;> (try rw [Int.mul_comm]) <;> simp only [Int.mul_add, Int.add_mul, e1, e2] <;> omega)
theorem near_high (a b : Int) (ha : 0 ≤ a) (hb : 1 ≤ b) (h : ¬ a % b < b - a % b) : (2*a+b)/(2*b) = a / b + 1 := by
  have e := Int.mul_ediv_add_emod a b
  have m1 := Int.emod_lt_of_pos a (b := b) (by omega)
  generalize a / b = q at *
  generalize a % b = r at *
  refine (Int.ediv_eq_iff_of_pos (by omega)).2 ?_
  have e2 : (q+1) * (2*b) = 2 * (b * q) + 2 * b := by rw [Int.mul_comm, Int.mul_assoc, Int.mul_add, Int.mul_add]; simp
  generalize b * q = t at *
  rw [e2]; omega

def nA (a : Int) : Int := a.natAbs
theorem nA_neg (a : Int) (h : a < 0) : nA a = -a := by unfold nA; omega
theorem nA_pos (a : Int) (h : 0 ≤ a) : nA a = a := by unfold nA; omega
theorem nA_0 (a : Int) : 0 ≤ nA a := by unfold nA; omega

theorem tmod_abs (a b : Int) : nA (a.tmod b) = nA a % nA b := by
  unfold nA; rw [Int.natAbs_tmod]; simp
theorem dv_abs (a b : Int) (hb : b ≠ 0) : dv a b = if (decide (a < 0) == decide (b < 0)) = true then (2 * nA a + nA b)/(2 * nA b) else - ((2 * nA a + nA b)/(2 * nA b)) := by
  by_cases h1 : a < 0 <;> by_cases h2 : b < 0
  · rw [dv_neg _ _ h2, dvp_pos _ _ (by omega), nA_neg _ h1, nA_neg _ h2]; simp [h1, h2]
  · rw [dv_pos _ _ (by omega), dvp_neg _ _ (by omega), nA_neg _ h1, nA_pos _ (by omega)]; simp [h1, h2]
    congr 1; omega
  · rw [dv_neg _ _ h2, nA_pos a (by omega), nA_neg _ h2]; simp [h1, h2]
    by_cases h3 : a = 0
    · subst h3; rw [dvp_pos _ _ (by omega)]; simp
      rw [Int.ediv_eq_zero_of_lt (by omega) (by omega)]; rfl
    · rw [dvp_neg _ _ (by omega)]; congr 2; omega
  · rw [dv_pos _ _ (by omega), dvp_pos _ _ (by omega), nA_pos _ (by omega), nA_pos _ (by omega)]; simp [h1, h2]
theorem tdiv_abs (a b : Int) (hb : b ≠ 0) : a.tdiv b = if (decide (a < 0) == decide (b < 0)) = true then nA a / nA b else - (nA a / nA b) := by
  by_cases h1 : a < 0 <;> by_cases h2 : b < 0
  · rw [nA_neg _ h1, nA_neg _ h2]; simp [h1, h2]
    rw [← Int.tdiv_eq_ediv_of_nonneg (by omega)]; simp
  · rw [nA_neg _ h1, nA_pos _ (by omega)]; simp [h1, h2]
    rw [← Int.tdiv_eq_ediv_of_nonneg (by omega)]; simp
  · rw [nA_pos _ (by omega), nA_neg _ h2]; simp [h1, h2]
    rw [← Int.tdiv_eq_ediv_of_nonneg (by omega)]
  · rw [nA_pos _ (by omega), nA_pos _ (by omega)]; simp [h1, h2]
    rw [← Int.tdiv_eq_ediv_of_nonneg (by omega)]
theorem quo_low (a b : Int) (hb : b ≠ 0) (h : nA (a.tmod b) < nA b - nA (a.tmod b)) : a.tdiv b = dv a b := by
  rw [tmod_abs] at h
  have hB : 1 ≤ nA b := by unfold nA; omega
  rw [dv_abs _ _ hb, tdiv_abs _ _ hb, near_low _ _ (nA_0 a) hB h]
theorem quo_same (a b : Int) (hb : b ≠ 0) (h : ¬ nA (a.tmod b) < nA b - nA (a.tmod b)) (hs : (decide (a < 0) == decide (b < 0)) = true) : a.tdiv b + 1 = dv a b := by
  rw [tmod_abs] at h
  have hB : 1 ≤ nA b := by unfold nA; omega
  rw [dv_abs _ _ hb, tdiv_abs _ _ hb, near_high _ _ (nA_0 a) hB h, if_pos hs, if_pos hs]
theorem quo_other (a b : Int) (hb : b ≠ 0) (h : ¬ nA (a.tmod b) < nA b - nA (a.tmod b)) (hs : (decide (a < 0) == decide (b < 0)) = false) : a.tdiv b - 1 = dv a b := by
  rw [tmod_abs] at h
  have hB : 1 ≤ nA b := by unfold nA; omega
  rw [dv_abs _ _ hb, tdiv_abs _ _ hb, near_high _ _ (nA_0 a) hB h, if_neg (by simp [hs]), if_neg (by simp [hs])]; omega
theorem nA_le (a n : Int) (h1 : -n ≤ a) (h2 : a ≤ n) : nA a ≤ n := by unfold nA; omega
theorem tdiv_in (a b n : Int) (hb : b ≠ 0) (h1 : -n ≤ a) (h2 : a ≤ n) : -n ≤ a.tdiv b ∧ a.tdiv b ≤ n := by
  have hB : 1 ≤ nA b := by unfold nA; omega
  have h := nA_le a n h1 h2
  have h3 := Int.ediv_le_self (nA b) (nA_0 a)
  have h4 := Int.ediv_nonneg (nA_0 a) (nA_0 b)
  rw [tdiv_abs _ _ hb]; split <;> omega
theorem tmod_in (a b : Int) (hb : b ≠ 0) : nA (a.tmod b) < nA b := by
  rw [tmod_abs]; exact Int.emod_lt_of_pos _ (by unfold nA; omega)
theorem wrap_mag (x : Int) (h1 : -2000000000000000000 ≤ x) (h2 : x < 0) : IntKind.u64.wrap (-IntKind.u64.wrap x) = nA x := by
  simp [IntKind.wrap, IntKind.bits, IntKind.signed]; unfold nA; omega
theorem nA_bd (x n : Int) (h : nA x ≤ n) : -n ≤ x ∧ x ≤ n := by unfold nA at h; omega
theorem quo_bd (x y : Int) (hx : 0 ≤ x) (hy : 1 ≤ y) (h : x ≤ 6000000000000000000) : 0 ≤ x / y ∧ x / y ≤ 6000000000000000000 := by
  have := Int.ediv_le_self y hx
  have := Int.ediv_nonneg hx (by omega : 0 ≤ y)
  omega
theorem wrapneg (x y : Int) (hx : 0 ≤ x) (hy : 1 ≤ y) (h : x ≤ 6000000000000000000) : RowKit.wrap64 (-(x / y)) = -(x / y) := by
  have := quo_bd x y hx hy h
  rw [IntWalk.wrap64_in _ (by omega)]
theorem dv_in (a b n : Int) (hb : b ≠ 0) (h1 : -n ≤ a) (h2 : a ≤ n) : -n ≤ dv a b ∧ dv a b ≤ n := by
  have hB : 1 ≤ nA b := by unfold nA; omega
  have h := nA_le a n h1 h2
  have h0 := nA_0 a
  have h3 : (2 * nA a + nA b) / (2 * nA b) ≤ nA a := by
    by_cases hz : nA a = 0
    · rw [hz, Int.ediv_eq_zero_of_lt (by omega) (by omega)]; omega
    · refine Int.lt_add_one_iff.1 ((Int.ediv_lt_iff_lt_mul (by omega)).2 ?_)
      have : nA a * 1 ≤ nA a * nA b := Int.mul_le_mul_of_nonneg_left hB h0
      have e : (nA a + 1) * (2 * nA b) = 2 * (nA a * nA b) + 2 * nA b := by rw [Int.add_mul, Int.one_mul, Int.mul_left_comm]
      rw [e]; omega
  have h4 : 0 ≤ (2 * nA a + nA b) / (2 * nA b) := Int.ediv_nonneg (by omega) (by omega)
  rw [dv_abs _ _ hb]; split <;> omega

/-- the line through two points, kept between them -/
def lineZ (x0 y0 x1 y1 x : Int) : Int := if x ≤ x0 ∨ x1 ≤ x0 then y0 else if x1 ≤ x then y1 else y0 + dv ((y1 - y0) * (x - x0)) (x1 - x0)
theorem line_low (x0 y0 x1 y1 x : Int) (h : x ≤ x0 ∨ x1 ≤ x0) : lineZ x0 y0 x1 y1 x = y0 := by unfold lineZ; rw [if_pos h]
theorem line_high (x0 y0 x1 y1 x : Int) (h : x0 < x) (h1 : x0 < x1) (h2 : x1 ≤ x) : lineZ x0 y0 x1 y1 x = y1 := by unfold lineZ; rw [if_neg (by omega), if_pos h2]
theorem line_mid (x0 y0 x1 y1 x : Int) (h : x0 < x) (h2 : x < x1) : lineZ x0 y0 x1 y1 x = y0 + dv ((y1 - y0) * (x - x0)) (x1 - x0) := by
  unfold lineZ; rw [if_neg (by omega), if_neg (by omega)]
theorem mul_in (a b n m : Int) (ha1 : -n ≤ a) (ha2 : a ≤ n) (hb1 : -m ≤ b) (hb2 : b ≤ m) : -(n * m) ≤ a * b ∧ a * b ≤ n * m := by
  have h : nA (a * b) ≤ n * m := by
    have e : nA (a * b) = nA a * nA b := by unfold nA; rw [Int.natAbs_mul]; simp
    rw [e]
    exact Int.mul_le_mul (nA_le a n ha1 ha2) (nA_le b m hb1 hb2) (nA_0 b) (by have := nA_0 a; have := nA_le a n ha1 ha2; omega)
  exact nA_bd _ _ h
theorem take_succ (zs : List Int) (k : Nat) (h : k < zs.length) : zs.take (k + 1) = zs.take k ++ [zs[k]] := by
  rw [List.take_succ_eq_append_getElem h]
theorem min_step (x : Int) (zs : List Int) (k : Nat) (h : k < zs.length) :
    (if zs[k] < List.foldl min x (List.take k zs) then zs[k] else List.foldl min x (List.take k zs)) = List.foldl min x (List.take (k + 1) zs) := by
  rw [take_succ zs k h, List.foldl_append]; simp only [List.foldl_cons, List.foldl_nil]; omega
theorem max_step (x : Int) (zs : List Int) (k : Nat) (h : k < zs.length) :
    (if List.foldl max x (List.take k zs) < zs[k] then zs[k] else List.foldl max x (List.take k zs)) = List.foldl max x (List.take (k + 1) zs) := by
  rw [take_succ zs k h, List.foldl_append]; simp only [List.foldl_cons, List.foldl_nil]; omega
end Go.Proofs.YtendfnimhmnioaaDoor
