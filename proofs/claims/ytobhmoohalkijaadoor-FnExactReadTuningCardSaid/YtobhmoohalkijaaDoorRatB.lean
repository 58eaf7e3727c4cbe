/- The model's BestRatio. -/
import Derived.Test.YtobhmoohalkijaaDoorRatP
namespace Go.Proofs.YtobhmoohalkijaaDoor
open Go.ChangeShapes Go.WideShapes Go.ChangeAt Go.RowKit
set_option linter.unusedVariables false
set_option linter.unusedSimpArgs false
set_option maxRecDepth 100000

theorem cents_bd {n d : Int} (hn : 1 ≤ n ∧ n ≤ 1000000) (hd : 1 ≤ d ∧ d ≤ 1000000) : -400000000000 ≤ centsZ n d ∧ centsZ n d ≤ 400000000000 := by
  have HP := octN_spec hn.1 hd.1
  unfold centsZ
  generalize octN n d = t at HP ⊢
  obtain ⟨num, den, kk⟩ := t
  obtain ⟨⟨p1, p2⟩, ⟨p3, p4⟩, p5, p6⟩ := octP_bd HP hn hd
  simp only at p1 p2 p3 p4 p5 p6
  obtain ⟨i, hi, i1, i2, i3⟩ := part_index p1 p3 p4
  obtain ⟨t1, t2, t3⟩ := tab_bd i i1
  simp only [centP]
  rw [hi]
  simp only [Int.toNat_natCast]
  generalize tabZ i = x at *
  generalize tabZ (i + 1) = y at *
  have hm : 0 ≤ (y - x) * (32 * (num - den) - i * den) ∧ (y - x) * (32 * (num - den) - i * den) ≤ 120000 * 1000000 := ⟨Int.mul_nonneg (by omega) i2, Int.mul_le_mul (by omega) (by omega) i2 (by omega)⟩
  have hdv := dv_in ((y - x) * (32 * (num - den) - i * den)) den 120000000000 (by omega) (by omega) (by omega)
  omega
/-- the better of the best one so far (less than 0: none) and another one -/
noncomputable def bestStep (c : Int) (s : Int × Int × Int) (num den : Int) : Int × Int × Int :=
  if gz num den = 1 then (if s.2.2 < 0 ∨ max (centsZ num den - c) (c - centsZ num den) < s.2.2 then (num, den, max (centsZ num den - c) (c - centsZ num den)) else s) else s
noncomputable def bestRow (c den : Int) (s : Int × Int × Int) : Nat → Int × Int × Int
  | 0 => s
  | j + 1 => bestStep c (bestRow c den s j) (den + j) den
noncomputable def bestAll (c : Int) : Nat → Int × Int × Int
  | 0 => (0, 0, -1)
  | k + 1 => bestRow c (k + 1) (bestAll c k) (k + 2)
noncomputable def bestE (c m : Int) : (Int × Int) × Int × Int := if (inB c 0 120000 && inB m 1 64) = true then (((bestAll c m.toNat).1, (bestAll c m.toNat).2.1), (bestAll c m.toNat).2.2, 0) else ((0, 0), 0, 2)
def BestRel (s : Int × Int × Int) (l : Value) (w wr : World) : Prop := l = .int .i64 s.2.2 ∧ (-1 ≤ s.2.2 ∧ s.2.2 ≤ 500000000000) ∧ Below w.heap.size w wr ∧ PairAt wr w.heap.size 0 0 ∧ PairAt wr (w.heap.size + 1) s.1 s.2.1
def OutRel (c m : Int) (w : World) (den l : Value) (wr : World) : Prop := ∃ k : Nat, den = .int .i64 ((k : Int) + 1) ∧ (k : Int) ≤ m ∧ BestRel (bestAll c k) l w wr
def InRel (c : Int) (k : Nat) (w : World) (num l : Value) (wr : World) : Prop := ∃ j : Nat, num = .int .i64 ((k : Int) + 1 + j) ∧ j ≤ k + 2 ∧ BestRel (bestRow c (k + 1) (bestAll c k) j) l w wr
end Go.Proofs.YtobhmoohalkijaaDoor
