/- Melodies: plain facts. -/
import Derived.Test.YtendfnimhmnioaaDoorNc
import Derived.Test.YtendfnimhmnioaaDoorPits
import Derived.Test.YtendfnimhmnioaaDoorCmp
namespace Go.Proofs.YtendfnimhmnioaaDoor
open Go.ChangeShapes Go.WideShapes Go.ChangeAt Go.RowKit
set_option linter.unusedVariables false
set_option linter.unusedSimpArgs false
set_option maxRecDepth 100000

/-- a note that may stand in a melody -/
def okN (p : Int × Int) : Bool := inB p.1 (-12) 23 && inB p.2 1 64
/-- a valid melody -/
def okM (l : List (Int × Int)) : Bool := decide (l.length ≤ 48) && (List.range l.length).all (fun i => okN (pat l i))
theorem okM_no {l : List (Int × Int)} (i : Nat) (h : i < l.length) (hs : okN (pat l i) = false) : okM l = false := by
  unfold okM
  rw [Bool.and_eq_false_iff]
  refine .inr ?_
  rw [List.all_eq_false]
  exact ⟨i, by simpa using h, by simpa using hs⟩
theorem okM_all {l : List (Int × Int)} (h : ∀ i, i < l.length → okN (pat l i) = true) : okM l = decide (l.length ≤ 48) := by
  unfold okM
  rw [show (List.range l.length).all (fun i => okN (pat l i)) = true by rw [List.all_eq_true]; intro i hi; exact h i (by simpa using hi), Bool.and_true]
theorem okM_yes {l : List (Int × Int)} (h : okM l = true) : l.length ≤ 48 ∧ ∀ i, i < l.length → okN (pat l i) = true := by
  unfold okM at h
  simp only [Bool.and_eq_true, decide_eq_true_eq, List.all_eq_true] at h
  exact ⟨h.1, fun i hi => h.2 i (by simpa using hi)⟩
theorem okM_long {l : List (Int × Int)} (h : 48 < l.length) : okM l = false := by
  unfold okM; rw [decide_eq_false (by omega)]; rfl
theorem okN_yes {p : Int × Int} (h : okN p = true) : (-12 ≤ p.1 ∧ p.1 ≤ 23) ∧ (1 ≤ p.2 ∧ p.2 ≤ 64) := by
  unfold okN at h
  rw [Bool.and_eq_true] at h
  exact ⟨inB_yes h.1, inB_yes h.2⟩
theorem okM_at {l : List (Int × Int)} (h : okM l = true) (i : Nat) (hi : i < l.length) : (-12 ≤ (pat l i).1 ∧ (pat l i).1 ≤ 23) ∧ (1 ≤ (pat l i).2 ∧ (pat l i).2 ≤ 64) := okN_yes ((okM_yes h).2 i hi)
/-- the sum of the first lengths -/
def durN (l : List (Int × Int)) : Nat → Int
  | 0 => 0
  | k + 1 => durN l k + (pat l k).2
theorem durN_rng {l : List (Int × Int)} (h : okM l = true) : ∀ k, k ≤ l.length → (k : Int) ≤ durN l k ∧ durN l k ≤ 64 * (k : Int) := by
  intro k
  induction k with
  | zero => intro _; simp [durN]
  | succ k ih =>
    intro hk
    have h1 := ih (by omega)
    have h2 := okM_at h k (by omega)
    simp only [durN]
    omega
def durL (l : List (Int × Int)) : Int := durN l l.length
theorem durL_rng {l : List (Int × Int)} (h : okM l = true) : 0 ≤ durL l ∧ durL l ≤ 3072 := by
  have h1 := durN_rng h l.length (Nat.le_refl _)
  have h2 := (okM_yes h).1
  unfold durL
  omega
theorem durN_mono {l : List (Int × Int)} (h : okM l = true) (i j : Nat) (hij : i ≤ j) (hj : j ≤ l.length) : durN l i + ((j : Int) - i) ≤ durN l j := by
  induction j with
  | zero => obtain rfl : i = 0 := by omega
            simp
  | succ j ih =>
    rcases Nat.lt_or_ge i (j + 1) with h1 | h1
    · have h2 := ih (by omega) (by omega)
      have h3 := okM_at h j (by omega)
      simp only [durN]
      omega
    · obtain rfl : i = j + 1 := by omega
      simp
/-- DurationOf -/
def durE (l : List (Int × Int)) : Int × Int := if okM l = true then (durL l, 0) else (0, 1)
def pits (l : List (Int × Int)) : List Int := l.map (·.1)
theorem pits_len (l : List (Int × Int)) : (pits l).length = l.length := by simp [pits]
theorem pits_at (l : List (Int × Int)) (k : Nat) (h : k < l.length) : (pits l).getD k 0 = (pat l k).1 := by simp [pits, pat, h]
theorem pits_take (l : List (Int × Int)) (k : Nat) (h : k < l.length) : (pits l).take (k + 1) = (pits l).take k ++ [(pat l k).1] := by
  rw [List.take_succ_eq_append_getElem (by rw [pits_len]; exact h)]
  simp [pits, pat, h]
/-- PitchesOf -/
def pitE (l : List (Int × Int)) : List Int × Int := if okM l = true then (pits l, 0) else ([], 1)
theorem pitE_len (l : List (Int × Int)) : (pitE l).1.length ≤ 48 := by
  unfold pitE
  split
  · rename_i h; rw [pits_len]; exact (okM_yes h).1
  · simp
def lowN (zs : List Int) : Nat → Int
  | 0 => zs.getD 0 0
  | k + 1 => min (lowN zs k) (zs.getD (k + 1) 0)
def topN (zs : List Int) : Nat → Int
  | 0 => zs.getD 0 0
  | k + 1 => max (topN zs k) (zs.getD (k + 1) 0)
/-- RangeOf -/
def rngE (l : List (Int × Int)) : Int × Int × Int := if okM l = true then (if l.length = 0 then (0, 0, 6) else (lowN (pits l) (l.length - 1), topN (pits l) (l.length - 1), 0)) else (0, 0, 1)

/-- the contour, as far as the note k -/
def ctr (l : List (Int × Int)) (k : Nat) : List Int := (List.range k).map fun i => cmpI (pat l (i + 1)).1 (pat l i).1
theorem ctr_len (l : List (Int × Int)) (k : Nat) : (ctr l k).length = k := by simp [ctr]
theorem ctr_succ (l : List (Int × Int)) (k : Nat) : ctr l (k + 1) = ctr l k ++ [cmpI (pat l (k + 1)).1 (pat l k).1] := by simp [ctr, List.range_succ]
def ctrE (l : List (Int × Int)) : List Int × Int := if okM l = true then (ctr l (l.length - 1), 0) else ([], 1)
theorem ctrE_len (l : List (Int × Int)) : (ctrE l).1.length ≤ 48 := by
  unfold ctrE
  split
  · rename_i h; rw [ctr_len]; have := (okM_yes h).1; show l.length - 1 ≤ 48; omega
  · simp
/-- the number of the note that sounds at a time -/
def ixM (l : List (Int × Int)) (t : Int) : Nat := ((List.range l.length).find? (fun k => decide (t < durN l (k + 1)))).getD 0
theorem ixM_eq {l : List (Int × Int)} {t : Int} {i : Nat} (h : okM l = true) (hi : i < l.length) (h1 : durN l i ≤ t) (h2 : t < durN l (i + 1)) : ixM l t = i := by
  unfold ixM
  have : (List.range l.length).find? (fun k => decide (t < durN l (k + 1))) = some i := by
    rw [List.find?_range_eq_some]
    refine ⟨by simpa using h2, by simpa using hi, fun j hj => ?_⟩
    have h3 := durN_mono h (j + 1) i (by omega) (by omega)
    simp
    omega
  rw [this]; rfl
/-- PitchAt -/
def pitAtE (l : List (Int × Int)) (t : Int) : Int × Int := if okM l = true then (if 0 ≤ t ∧ t < durL l then ((pat l (ixM l t)).1, 0) else (0, 2)) else (0, 1)
/-- ReverseMelody -/
def revE (l : List (Int × Int)) : List (Int × Int) × Int := if okM l = true then (l.reverse, 0) else ([], 1)
theorem revE_len (l : List (Int × Int)) : (revE l).1.length ≤ 48 := by
  unfold revE
  split
  · rename_i h; simpa using (okM_yes h).1
  · simp
end Go.Proofs.YtendfnimhmnioaaDoor
