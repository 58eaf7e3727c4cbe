/- Plain facts on the reading of a ratio. -/
import Derived.Test.YtobhmoohalkijaaDoorCutN
import Derived.Test.YtobhmoohalkijaaDoorRatT
import Derived.Test.YtobhmoohalkijaaDoorSplit
import Derived.Test.YtobhmoohalkijaaDoorReadMath
import Derived.Lib.IndexMore
namespace Go.Proofs.YtobhmoohalkijaaDoor
set_option linter.unusedVariables false
set_option linter.unusedSimpArgs false
set_option maxRecDepth 100000

/-- two texts as a ratio -/
def pairE (a b : List UInt8) : Int × Int × Bool := if ((numZ a).isSome && ((numZ b).isSome && okR ((numZ a).getD 0) ((numZ b).getD 0))) = true then ((numZ a).getD 0, (numZ b).getD 0, true) else (0, 0, false)
/-- the reading of a ratio -/
def readRE (l : List UInt8) : Int × Int × Bool := pairE (Lib.cut l [47]).1 (Lib.cut l [47]).2.1
theorem pair_none {a b : List UInt8} (h : numZ b = none) : pairE a b = (0, 0, false) := by simp [pairE, h]
theorem num_nil : numZ [] = none := by decide
theorem dec_no (u : Nat) : (47 : UInt8) ∉ Lib.decDigits u := fun h => by
  have := List.all_eq_true.1 (dec_digits u).1 _ h
  simp [isD] at this
theorem num_no {l : List UInt8} {v : Int} (h : numZ l = some v) : (47 : UInt8) ∉ l := by
  obtain ⟨rfl, _⟩ := num_some l v h
  intro hm
  by_cases hv : v < 0
  · rw [itoa_neg' v hv] at hm
    rcases List.mem_cons.1 hm with h | h
    · cases h
    · exact dec_no _ h
  · rw [itoa_pos' v (by omega)] at hm
    exact dec_no _ hm
theorem rd_cases (l : List UInt8) : (∃ a b, cutL 47 l = [a, b] ∧ readRE l = pairE a b ∧ a.length ≤ l.length ∧ b.length ≤ l.length) ∨ ((cutL 47 l).length ≠ 2 ∧ readRE l = (0, 0, false)) := by
  rcases byte_cases l 47 with h | ⟨i, h⟩
  · right
    rw [cut_index_no 47 l h]
    refine ⟨by simp, ?_⟩
    unfold readRE Lib.cut
    rw [Lib.index_one, h]
    exact pair_none num_nil
  · have hc : Lib.cut l [47] = (l.take i, l.drop (i + 1), true) := by
      unfold Lib.cut
      rw [Lib.index_one, h, if_pos (by omega)]
      simp
    have hcut := cut_index_at 47 l i h
    rcases byte_cases (l.drop (i + 1)) 47 with h2 | ⟨j, h2⟩
    · left
      rw [cut_index_no 47 _ h2] at hcut
      exact ⟨_, _, hcut, by unfold readRE; rw [hc], by simp; omega, by simp⟩
    · right
      refine ⟨?_, ?_⟩
      · rw [hcut, cut_index_at 47 _ j h2]
        have := cutl_length 47 ((l.drop (i + 1)).drop (j + 1))
        simp only [List.length_cons]; omega
      · unfold readRE
        rw [hc]
        refine pair_none ?_
        cases hz : numZ (l.drop (i + 1)) with
        | none => rfl
        | some v =>
          have hm := (Lib.indexByte_some h2).1
          exact absurd (List.mem_of_getElem? hm) (num_no hz)
theorem cut_lens (l : List UInt8) : (Lib.cut l [47]).1.length ≤ l.length ∧ (Lib.cut l [47]).2.1.length ≤ l.length := by
  unfold Lib.cut
  split
  · simp; omega
  · simp
theorem str_cells' {w : World} {base g cap : Nat} {ps : List (List UInt8)} (h : w.ownsRow base 9 1 (.slice (some ⟨g, 0, none⟩) ps.length cap) ps.length (strs ps)) :
    ∀ k, k < ps.length → w.cell? ⟨g, k, none⟩ = some (.string ⟨(ps.getD k []).toArray⟩) := fun k hk => by
  rw [h.cellAt k (by omega)]
  simp [strs, hk]
end Go.Proofs.YtobhmoohalkijaaDoor
