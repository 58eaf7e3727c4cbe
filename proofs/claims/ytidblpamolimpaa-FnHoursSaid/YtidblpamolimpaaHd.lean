/- Valid items, when they fit, and orders of them: plain facts. -/
import Derived.Test.YtidblpamolimpaaHa
import Derived.Test.YtidblpamolimpaaName
import Derived.Test.YtidblpamolimpaaNum
import Derived.Lib.Bytealg
namespace Go.Proofs.Ytidblpamolimpaa
open Go.ChangeShapes Go.WideShapes Go.ChangeAt Go.RowKit
set_option linter.unusedVariables false
set_option linter.unusedSimpArgs false
set_option maxRecDepth 100000

/-- a name stands before another one -/
def nlt (a b : ByteArray) : Bool := Op.bytesLess a.toList b.toList
theorem less_cmp : ∀ (a b : List UInt8), Op.bytesLess a b = decide (Lib.compareBytes a b < 0)
  | [], [] => by simp [Op.bytesLess, Lib.compareBytes]
  | [], _ :: _ => by simp [Op.bytesLess, Lib.compareBytes]
  | _ :: _, [] => by simp [Op.bytesLess, Lib.compareBytes]
  | a :: xs, b :: ys => by
    have ih := less_cmp xs ys
    unfold Op.bytesLess Lib.compareBytes
    by_cases h1 : a < b
    · simp [h1]
    · by_cases h2 : b < a
      · have hne : (a == b) = false := by
          simp only [beq_eq_false_iff_ne]
          rintro rfl
          exact h1 h2
        simp [h1, h2, hne]
      · have heq : (a == b) = true := by
          simp only [beq_iff_eq]
          exact UInt8.le_antisymm (UInt8.not_lt.1 h2) (UInt8.not_lt.1 h1)
        simp [h1, h2, heq, ih]
theorem cmp_ge (a b : ByteArray) : decide (Lib.compareBytes a.data.toList b.data.toList ≥ 0) = !nlt a b := by
  unfold nlt
  rw [ByteArray.toList_eq, ByteArray.toList_eq, less_cmp]
  by_cases h : Lib.compareBytes a.data.toList b.data.toList < 0
  · rw [decide_eq_true h, decide_eq_false (by omega)]; rfl
  · rw [decide_eq_false h, decide_eq_true (by omega)]; rfl
/-- an item is valid -/
def itB (x : It) : Bool := nmB x.nm.data.toList && (inB x.f 0 1439 && (inB x.u 0 1439 && (decide (x.f ≠ x.u) && (inB x.s (-1) 5 && (inB x.m 1 240 && inB x.p 0 1000)))))
structure OkI (x : It) : Prop where
  n : nmB x.nm.data.toList = true
  f : 0 ≤ x.f ∧ x.f ≤ 1439
  u : 0 ≤ x.u ∧ x.u ≤ 1439
  d : x.f ≠ x.u
  s : -1 ≤ x.s ∧ x.s ≤ 5
  m : 1 ≤ x.m ∧ x.m ≤ 240
  p : 0 ≤ x.p ∧ x.p ≤ 1000
theorem inB_iff {n lo hi : Int} : inB n lo hi = true ↔ lo ≤ n ∧ n ≤ hi := ⟨inB_yes, fun h => by simp [inB]; omega⟩
theorem itB_iff (x : It) : itB x = true ↔ OkI x := by
  unfold itB
  simp only [Bool.and_eq_true, decide_eq_true_eq, inB_iff]
  exact ⟨fun ⟨a, b, c, d, e, f, g⟩ => ⟨a, b, c, d, e, f, g⟩, fun ⟨a, b, c, d, e, f, g⟩ => ⟨a, b, c, d, e, f, g⟩⟩
def stepI (l : List It) (i : Nat) : Prop := itB (iat l i) = true ∧ (0 < i → nlt (iat l (i - 1)).nm (iat l i).nm = true)
def risI (l : List It) : Bool := (List.range l.length).all fun i => decide (i = 0) || nlt (iat l (i - 1)).nm (iat l i).nm
def allI (l : List It) : Bool := (List.range l.length).all fun i => itB (iat l i)
/-- items are valid -/
def okIts (l : List It) : Bool := decide (l.length ≤ 12) && (risI l && allI l)
theorem allI_iff (l : List It) : allI l = true ↔ ∀ i, i < l.length → itB (iat l i) = true := by simp [allI, List.all_eq_true]
theorem risI_iff (l : List It) : risI l = true ↔ ∀ i, i < l.length → 0 < i → nlt (iat l (i - 1)).nm (iat l i).nm = true := by
  simp only [risI, List.all_eq_true, List.mem_range, Bool.or_eq_true, decide_eq_true_eq]
  exact ⟨fun h i hi h0 => (h i hi).resolve_left (by omega), fun h i hi => by
    rcases Nat.eq_zero_or_pos i with h0 | h0
    · exact .inl h0
    · exact .inr (h i hi h0)⟩
theorem okIts_iff (l : List It) : okIts l = true ↔ l.length ≤ 12 ∧ ∀ i, i < l.length → stepI l i := by
  unfold okIts
  simp only [Bool.and_eq_true, decide_eq_true_eq, allI_iff, risI_iff]
  exact ⟨fun ⟨a, b, c⟩ => ⟨a, fun i hi => ⟨c i hi, b i hi⟩⟩, fun ⟨a, b⟩ => ⟨a, fun i hi => (b i hi).2, fun i hi => (b i hi).1⟩⟩
theorem okIts_yes {l : List It} (h : l.length ≤ 12) (hs : ∀ i, i < l.length → stepI l i) : okIts l = true := (okIts_iff l).2 ⟨h, hs⟩
theorem okIts_no {l : List It} (i : Nat) (hi : i < l.length) (hn : ¬ stepI l i) : okIts l = false := by
  cases h : okIts l
  · rfl
  · exact absurd (((okIts_iff l).1 h).2 i hi) hn
theorem okIts_long {l : List It} (h : 12 < l.length) : okIts l = false := by
  cases e : okIts l
  · rfl
  · have := ((okIts_iff l).1 e).1; omega
/-- an item may be played in a season -/
def seaB (x : It) (s : Int) : Bool := decide (x.s = -1) || decide (x.s = s)
/-- .. at a time -/
def winB (x : It) (t : Int) : Bool := decide ((t - x.f + 1440) % 1440 < (x.u - x.f + 1440) % 1440)
def fitB (x : It) (s t : Int) : Bool := seaB x s && winB x t
theorem win_lt {x : It} (h : OkI x) {t : Int} (ht : 0 ≤ t) (hlt : x.f < x.u) : winB x t = (decide (t % 1440 ≥ x.f) && decide (t % 1440 < x.u)) := by
  obtain ⟨_, hf, hu, hd, _, _, _⟩ := h
  unfold winB
  rw [Bool.eq_iff_iff]
  simp only [Bool.and_eq_true, decide_eq_true_eq]
  omega
theorem win_ge {x : It} (h : OkI x) {t : Int} (ht : 0 ≤ t) (hlt : ¬ x.f < x.u) : winB x t = (decide (t % 1440 ≥ x.f) || decide (t % 1440 < x.u)) := by
  obtain ⟨_, hf, hu, hd, _, _, _⟩ := h
  unfold winB
  rw [Bool.eq_iff_iff]
  simp only [Bool.or_eq_true, decide_eq_true_eq]
  omega
theorem win_from {x : It} (h : OkI x) : winB x x.f = true := by
  obtain ⟨_, hf, hu, hd, _, _, _⟩ := h
  unfold winB
  simp only [decide_eq_true_eq]
  omega
end Go.Proofs.Ytidblpamolimpaa
