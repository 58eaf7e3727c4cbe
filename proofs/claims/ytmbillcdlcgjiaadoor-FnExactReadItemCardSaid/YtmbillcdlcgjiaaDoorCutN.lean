/- Plain facts: pieces with at most so many cuts. -/
import Derived.Test.YtmbillcdlcgjiaaDoorKit
import Derived.Test.YtmbillcdlcgjiaaDoorSplitMath
import Derived.Test.YtmbillcdlcgjiaaDoorReadMath
namespace Go.Proofs.YtmbillcdlcgjiaaDoor
open Go.ChangeShapes Go.WideShapes Go.ChangeAt Go.RowKit
set_option linter.unusedVariables false
set_option linter.unusedSimpArgs false
set_option maxRecDepth 100000

theorem byte_cases (l : List UInt8) (c : UInt8) : Lib.indexByte l c = -1 ∨ ∃ i : Nat, Lib.indexByte l c = i := by
  have := Lib.indexByte_ge l c
  rcases Int.lt_or_le (Lib.indexByte l c) 0 with h | h
  · left; omega
  · right; exact Int.eq_ofNat_of_zero_le h
theorem cutl_length (c : UInt8) (l : List UInt8) : 1 ≤ (cutL c l).length := by
  obtain ⟨p, ps, h⟩ := cut_ne c l
  rw [h]; simp
/-- the pieces with at most so many cuts -/
def cutN (c : UInt8) : Nat → List UInt8 → List (List UInt8)
  | 0, l => [l]
  | k + 1, l => if Lib.indexByte l c = -1 then [l] else l.take (Lib.indexByte l c).toNat :: cutN c k (l.drop ((Lib.indexByte l c).toNat + 1))
theorem cutN_none (c : UInt8) (k : Nat) (l : List UInt8) (h : Lib.indexByte l c = -1) : cutN c k l = [l] := by
  cases k with
  | zero => rfl
  | succ k => rw [cutN, if_pos h]
theorem cutN_hit (c : UInt8) (k : Nat) (l : List UInt8) (i : Nat) (h : Lib.indexByte l c = i) : cutN c (k + 1) l = l.take i :: cutN c k (l.drop (i + 1)) := by
  rw [cutN, if_neg (by omega), h, Int.toNat_natCast]
theorem cutN_len (c : UInt8) : ∀ (k : Nat) (l : List UInt8), 1 ≤ (cutN c k l).length ∧ (cutN c k l).length ≤ k + 1
  | 0, l => by simp [cutN]
  | k + 1, l => by
    rcases byte_cases l c with h | ⟨i, h⟩
    · rw [cutN_none c _ l h]; simp
    · rw [cutN_hit c k l i h]
      have := cutN_len c k (l.drop (i + 1))
      simp only [List.length_cons]; omega
/-- all pieces, or one too many of which the last one goes on -/
theorem cutN_ways (c : UInt8) : ∀ (k : Nat) (l : List UInt8), (cutN c k l = cutL c l ∧ (cutL c l).length ≤ k + 1) ∨ ((cutN c k l).length = k + 1 ∧ k + 1 < (cutL c l).length ∧ ∃ p ∈ cutN c k l, c ∈ p)
  | 0, l => by
    rcases byte_cases l c with h | ⟨i, h⟩
    · left; rw [cutN_none c _ l h, cut_index_no c l h]; simp
    · right
      refine ⟨rfl, ?_, l, by simp [cutN], List.mem_of_getElem? (Lib.indexByte_some h).1⟩
      rw [cut_index_at c l i h]
      have := cutl_length c (l.drop (i + 1))
      simp only [List.length_cons]; omega
  | k + 1, l => by
    rcases byte_cases l c with h | ⟨i, h⟩
    · left; rw [cutN_none c _ l h, cut_index_no c l h]; simp
    · rw [cutN_hit c k l i h, cut_index_at c l i h]
      rcases cutN_ways c k (l.drop (i + 1)) with ⟨h1, h2⟩ | ⟨h1, h2, p, hp, hm⟩
      · left; rw [h1]; simp only [List.length_cons]; exact ⟨trivial, by omega⟩
      · right; simp only [List.length_cons]
        exact ⟨by omega, by omega, p, List.mem_cons_of_mem _ hp, hm⟩
theorem split_cutN (c : UInt8) : ∀ (k : Nat) (s : ByteArray), (Lib.splitB ⟨#[c]⟩ 0 k s).map (·.data.toList) = cutN c k s.data.toList := by
  have hi : ∀ s : ByteArray, Lib.indexB s ⟨#[c]⟩ = Lib.indexByte s.data.toList c := fun s => Lib.index_one s.data.toList c
  intro k
  induction k with
  | zero => intro s; rfl
  | succ k ih =>
    intro s
    rcases byte_cases s.data.toList c with h | ⟨i, h⟩
    · rw [Lib.splitB_miss _ _ _ _ ((hi s).trans h), cutN_none c _ _ h]; rfl
    · have hb : Lib.indexB s ⟨#[c]⟩ = i := by rw [hi]; exact h
      rw [Lib.splitB_hit _ _ _ _ _ hb, List.map_cons, cutN_hit c k _ i h]
      have e1 : (⟨#[c]⟩ : ByteArray).size = 1 := rfl
      rw [e1, ih _, Lib.extract_to_end]
      congr 1
      simp
theorem num_noC {c : UInt8} (hd : isD c = false) (hm45 : c ≠ 45) {l : List UInt8} {v : Int} (h : numZ l = some v) : c ∉ l := by
  have hdec : ∀ u : Nat, c ∉ Lib.decDigits u := fun u h => by
    have := List.all_eq_true.1 (dec_digits u).1 _ h
    rw [hd] at this; cases this
  obtain ⟨rfl, _⟩ := num_some l v h
  intro hm
  by_cases hv : v < 0
  · rw [itoa_neg' v hv] at hm
    rcases List.mem_cons.1 hm with h | h
    · exact hm45 h
    · exact hdec _ h
  · rw [itoa_pos' v (by omega)] at hm
    exact hdec _ hm
/-- a byte of a text is the cut's byte or lies in a piece -/
theorem cut_mem (c d : UInt8) (hcd : d ≠ c) : ∀ l : List UInt8, d ∈ l → ∃ p ∈ cutL c l, d ∈ p := by
  have key : ∀ (n : Nat) (l : List UInt8), l.length ≤ n → d ∈ l → ∃ p ∈ cutL c l, d ∈ p := by
    intro n
    induction n with
    | zero =>
      intro l hl hd
      obtain rfl : l = [] := List.eq_nil_of_length_eq_zero (by omega)
      cases hd
    | succ n ih =>
      intro l hl hd
      rcases byte_cases l c with h | ⟨i, h⟩
      · rw [cut_index_no c l h]; exact ⟨l, by simp, hd⟩
      · rw [cut_index_at c l i h]
        have hg := (Lib.indexByte_some h).1
        obtain ⟨h1, h2⟩ := List.getElem?_eq_some_iff.1 hg
        have e : l = l.take i ++ c :: l.drop (i + 1) := by
          rw [← h2, ← List.drop_eq_getElem_cons h1, List.take_append_drop]
        have hd2 := hd
        rw [e] at hd2
        rcases List.mem_append.1 hd2 with h3 | h3
        · exact ⟨l.take i, by simp, h3⟩
        · rcases List.mem_cons.1 h3 with h4 | h4
          · exact absurd h4 hcd
          · obtain ⟨p, hp, hdp⟩ := ih (l.drop (i + 1)) (by rw [List.length_drop]; omega) h4
            exact ⟨p, List.mem_cons_of_mem _ hp, hdp⟩
  intro l hd
  exact key l.length l (Nat.le_refl _) hd
theorem cutN_piece (c : UInt8) : ∀ (k : Nat) (l : List UInt8) (p : List UInt8), p ∈ cutN c k l → p.length ≤ l.length := by
  intro k
  induction k with
  | zero => intro l p hp; simp [cutN] at hp; subst hp; exact Nat.le_refl _
  | succ k ih =>
    intro l p hp
    rcases byte_cases l c with h | ⟨i, h⟩
    · rw [cutN_none c _ l h] at hp
      simp at hp
      subst hp
      exact Nat.le_refl _
    · rw [cutN_hit c k l i h] at hp
      rcases List.mem_cons.1 hp with rfl | h2
      · rw [List.length_take]; omega
      · have := ih _ _ h2
        rw [List.length_drop] at this
        omega
end Go.Proofs.YtmbillcdlcgjiaaDoor
