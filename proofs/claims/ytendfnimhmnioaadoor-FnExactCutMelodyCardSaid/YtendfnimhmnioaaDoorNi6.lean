/- ReverseMelody: the program. -/
import Derived.Test.YtendfnimhmnioaaDoorNap
import Derived.Test.YtendfnimhmnioaaDoorNi
import Derived.Lib.SliceRun
import Derived.BigRegion
namespace Go.Proofs.YtendfnimhmnioaaDoor
open Go.ChangeShapes Go.WideShapes Go.ChangeAt Go.RowKit
set_option linter.unusedVariables false
set_option linter.unusedSimpArgs false
set_option maxRecDepth 100000

def NewNts (l : List (Int × Int)) (w : World) (e : Ending) (w' : World) : Prop := ∃ v, e = .returned v ∧ w'.ownsRow w.heap.size 45 2 v l.length (pcl l) ∧ Below w.heap.size w w'
theorem prs_news {w : World} {b o : Nat} {l : List (Int × Int)} (hc : ∀ k, k < l.length → w.cell? ⟨b, o + k * 2, none⟩ = some (.int .i64 (pat l k).1) ∧ w.cell? ⟨b, o + k * 2 + 1, none⟩ = some (.int .i64 (pat l k).2)) : ∀ j u, (pcl l)[j]? = some u → w.cell? ((⟨b, o, none⟩ : Addr).add j) = some u := by
  intro j u hj
  have hlt : j < (pcl l).length := by
    rcases Nat.lt_or_ge j (pcl l).length with h | h
    · exact h
    · rw [List.getElem?_eq_none h] at hj; cases hj
  rw [pcl_len] at hlt
  have hp : (⟨b, o, none⟩ : Addr).add j = ⟨b, o + j, none⟩ := by unfold Addr.add; split <;> simp_all
  rw [hp]
  obtain ⟨q, r, rfl, hr⟩ : ∃ q r, j = q * 2 + r ∧ r < 2 := ⟨j / 2, j % 2, by omega, by omega⟩
  have hq : q < l.length := by omega
  rcases (show r = 0 ∨ r = 1 by omega) with rfl | rfl
  · rw [Nat.add_zero] at hj ⊢
    rw [(hc q hq).1, ← pcl_at0 l q hq]; exact hj
  · rw [← Nat.add_assoc, (hc q hq).2, ← pcl_at1 l q hq]; exact hj
theorem pcl_one (l : List (Int × Int)) : ∀ u ∈ pcl l, u.oneCell' = true := by
  intro u hu
  unfold pcl at hu
  rw [List.mem_flatMap] at hu
  obtain ⟨p, _, h⟩ := hu
  simp at h
  rcases h with rfl | rfl <;> rfl
/-- a list of which the first and the last k are exchanged -/
def revK (l : List (Int × Int)) (k : Nat) : List (Int × Int) := (List.range l.length).map fun i => if i < k ∨ l.length - 1 - i < k then pat l (l.length - 1 - i) else pat l i
theorem revK_len (l : List (Int × Int)) (k : Nat) : (revK l k).length = l.length := by simp [revK]
theorem revK_at (l : List (Int × Int)) (k i : Nat) (h : i < l.length) : pat (revK l k) i = if i < k ∨ l.length - 1 - i < k then pat l (l.length - 1 - i) else pat l i := by simp [revK, pat, h]
theorem pat_ext {l m : List (Int × Int)} (hl : l.length = m.length) (h : ∀ i, i < l.length → pat l i = pat m i) : l = m := by
  apply List.ext_getElem hl
  intro i h1 h2
  have := h i h1
  rwa [pat_get h1, pat_get h2] at this
theorem pat_set (l : List (Int × Int)) (k i : Nat) (x : Int × Int) (h : i < l.length) : pat (l.set k x) i = if k = i then x else pat l i := by
  rw [pat_get (by rw [List.length_set]; exact h), List.getElem_set, pat_get h]
theorem revK_zero (l : List (Int × Int)) : revK l 0 = l := by
  refine pat_ext (revK_len _ _) (fun i hi => ?_)
  rw [revK_len] at hi
  rw [revK_at l 0 i hi, if_neg (by omega)]
theorem revK_all (l : List (Int × Int)) (k : Nat) (h : l.length ≤ 2 * k + 1) : revK l k = l.reverse := by
  refine pat_ext (by rw [revK_len, List.length_reverse]) (fun i hi => ?_)
  rw [revK_len] at hi
  rw [revK_at l k i hi, pat_get (l := l.reverse) (by rw [List.length_reverse]; exact hi), List.getElem_reverse]
  split
  · rw [pat_get (by omega)]
  · rw [pat_get hi]
    congr 1
    omega
theorem revK_step (l : List (Int × Int)) (k : Nat) (h : 2 * k + 1 < l.length) : ((revK l k).set k (pat (revK l k) (l.length - 1 - k))).set (l.length - 1 - k) (pat (revK l k) k) = revK l (k + 1) := by
  refine pat_ext (by simp [revK_len]) (fun i hi => ?_)
  simp only [List.length_set, revK_len] at hi
  rw [pat_set _ _ _ _ (by rw [List.length_set, revK_len]; exact hi), pat_set _ _ _ _ (by rw [revK_len]; exact hi), revK_at l k i hi, revK_at l (k + 1) i hi, revK_at l k (l.length - 1 - k) (by omega), revK_at l k k (by omega)]
  rw [if_neg (show ¬ (l.length - 1 - k < k ∨ l.length - 1 - (l.length - 1 - k) < k) by omega), if_neg (show ¬ (k < k ∨ l.length - 1 - k < k) by omega)]
  by_cases e1 : l.length - 1 - k = i
  · rw [if_pos e1, if_pos (by omega)]
    congr 1; omega
  · rw [if_neg e1]
    by_cases e2 : k = i
    · rw [if_pos e2, if_pos (by omega)]
      congr 1; omega
    · rw [if_neg e2]
      by_cases e3 : i < k ∨ l.length - 1 - i < k
      · rw [if_pos e3, if_pos (by omega)]
      · rw [if_neg e3, if_neg (by omega)]
/-- two notes of a row of one's own exchanged -/
theorem own_swap {w : World} {base g te : Nat} {m : List (Int × Int)} {c n : Nat} (hn : n = m.length) (h : w.ownsRow base te 2 (.slice (some ⟨g, 0, none⟩) n c) n (pcl m)) (i j : Nat) (hi : i < m.length) (hj : j < m.length) (x y : Int × Int) :
    ((((w.setCell ⟨g, i * 2, none⟩ (.int .i64 x.1)).setCell ⟨g, i * 2 + 1, none⟩ (.int .i64 x.2)).setCell ⟨g, j * 2, none⟩ (.int .i64 y.1)).setCell ⟨g, j * 2 + 1, none⟩ (.int .i64 y.2)).ownsRow base te 2 (.slice (some ⟨g, 0, none⟩) n c) n (pcl ((m.set i x).set j y)) ∧
    w.grownBy ((((w.setCell ⟨g, i * 2, none⟩ (.int .i64 x.1)).setCell ⟨g, i * 2 + 1, none⟩ (.int .i64 x.2)).setCell ⟨g, j * 2, none⟩ (.int .i64 y.1)).setCell ⟨g, j * 2 + 1, none⟩ (.int .i64 y.2)) (some g) := by
  have s0 := h.stored (i * 2) (.int .i64 x.1)
  have s1 := s0.1.stored (i * 2 + 1) (.int .i64 x.2)
  rw [pcl_set _ _ _ hi] at s1
  have s2 := s1.1.stored (j * 2) (.int .i64 y.1)
  have s3 := s2.1.stored (j * 2 + 1) (.int .i64 y.2)
  rw [pcl_set _ _ _ (by rw [List.length_set]; exact hj)] at s3
  exact ⟨s3.1, ((s0.2.trans s1.2).trans s2.2).trans s3.2⟩
end Go.Proofs.YtendfnimhmnioaaDoor
