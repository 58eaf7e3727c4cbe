/- Texts cut at a byte: the library's Split is the plain cut. -/
import Derived.Lib.SplitLaws
import Derived.Lib.IndexBytes
import Derived.Lib.IndexLaws
namespace Go.Proofs.YtendfnimhmnioaaDoor
set_option linter.unusedVariables false
set_option linter.unusedSimpArgs false
set_option maxRecDepth 100000

/-- the pieces of a list between the bytes c -/
def cutL (c : UInt8) : List UInt8 → List (List UInt8)
  | [] => [[]]
  | b :: r => if b = c then [] :: cutL c r else match cutL c r with
    | p :: ps => (b :: p) :: ps
    | [] => [[b]]
theorem cut_ne (c : UInt8) (l : List UInt8) : ∃ p ps, cutL c l = p :: ps := by
  induction l with
  | nil => exact ⟨_, _, rfl⟩
  | cons b r ih =>
    unfold cutL
    split
    · exact ⟨_, _, rfl⟩
    · obtain ⟨p, ps, h⟩ := ih
      rw [h]; exact ⟨_, _, rfl⟩
/-- a piece's beginning laid in front -/
def glue (x : List UInt8) (ps : List (List UInt8)) : List (List UInt8) := match ps with
  | p :: ps => (x ++ p) :: ps
  | [] => [x]
theorem cut_hit (c : UInt8) (x r : List UInt8) : glue x (cutL c (c :: r)) = x :: cutL c r := by
  rw [cutL, if_pos rfl]; simp [glue]
theorem cut_miss (c b : UInt8) (x r : List UInt8) (h : b ≠ c) : glue x (cutL c (b :: r)) = glue (x ++ [b]) (cutL c r) := by
  obtain ⟨p, ps, hp⟩ := cut_ne c r
  rw [cutL, if_neg h, hp]; simp [glue]
theorem cut_nil (c : UInt8) (x : List UInt8) : glue x (cutL c []) = [x] := by simp [cutL, glue]
theorem glue_nil (c : UInt8) (l : List UInt8) : glue [] (cutL c l) = cutL c l := by
  obtain ⟨p, ps, hp⟩ := cut_ne c l
  rw [hp]; simp [glue]
theorem cut_len (c : UInt8) (l : List UInt8) : (cutL c l).length ≤ l.length + 1 := by
  induction l with
  | nil => simp [cutL]
  | cons b r ih =>
    unfold cutL
    split
    · simp; omega
    · split
      · rename_i p ps hp; rw [hp] at ih; simp at ih ⊢; omega
      · simp
theorem cut_count (c : UInt8) (l : List UInt8) : (cutL c l).length = l.count c + 1 := by
  induction l with
  | nil => rfl
  | cons b r ih =>
    unfold cutL
    by_cases h : b = c
    · subst h; simp [ih]
    · rw [if_neg h, List.count_cons_of_ne h]
      obtain ⟨p, ps, hp⟩ := cut_ne c r
      rw [hp] at ih ⊢; simpa using ih
theorem cut_index_no : ∀ (c : UInt8) (l : List UInt8), Lib.indexByte l c = -1 → cutL c l = [l]
  | c, [], _ => rfl
  | c, b :: r, h => by
    unfold Lib.indexByte at h
    split at h
    · cases h
    · rename_i hb
      split at h
      · rename_i hr
        rw [cutL, if_neg (by simpa using hb), cut_index_no c r (by simpa using hr)]
      · have := Lib.indexByte_ge r c
        rename_i hr
        have : Lib.indexByte r c ≠ -1 := by simpa using hr
        omega
theorem cut_index_at : ∀ (c : UInt8) (l : List UInt8) (i : Nat), Lib.indexByte l c = i → cutL c l = l.take i :: cutL c (l.drop (i + 1))
  | c, [], i, h => by simp [Lib.indexByte] at h
  | c, b :: r, i, h => by
    unfold Lib.indexByte at h
    split at h
    · rename_i hb
      obtain rfl : i = 0 := by omega
      have hb2 : b = c := by simpa using hb
      rw [cutL, if_pos hb2]; simp
    · rename_i hb
      split at h
      · omega
      · obtain ⟨j, rfl⟩ : ∃ j, i = j + 1 := ⟨i - 1, by have := Lib.indexByte_ge r c; rename_i hr; have : Lib.indexByte r c ≠ -1 := (by simpa using hr); omega⟩
        rw [cutL, if_neg (by simpa using hb), cut_index_at c r j (by omega)]; simp
theorem split_cut (c : UInt8) : ∀ (k : Nat) (s : ByteArray), Lib.countB s ⟨#[c]⟩ = k → (Lib.splitB ⟨#[c]⟩ 0 k s).map (·.data.toList) = cutL c s.data.toList := by
  have hi : ∀ s : ByteArray, Lib.indexB s ⟨#[c]⟩ = Lib.indexByte s.data.toList c := fun s => Lib.index_one s.data.toList c
  intro k
  induction k with
  | zero =>
    intro s h
    rw [Lib.splitB_zero]
    have : Lib.indexByte s.data.toList c = -1 := by
      rcases Int.lt_or_le (Lib.indexByte s.data.toList c) 0 with h0 | h0
      · have := Lib.indexByte_ge s.data.toList c; omega
      · obtain ⟨i, hi2⟩ := Int.eq_ofNat_of_zero_le h0
        have := Lib.countB_hit s ⟨#[c]⟩ i (Nat.le_refl 1) (by rw [hi]; exact hi2)
        omega
    rw [cut_index_no c _ this]; rfl
  | succ k ih =>
    intro s h
    rcases Int.lt_or_le (Lib.indexByte s.data.toList c) 0 with h0 | h0
    · have hm : Lib.indexB s ⟨#[c]⟩ = -1 := by rw [hi]; have := Lib.indexByte_ge s.data.toList c; omega
      have := Lib.countB_miss s ⟨#[c]⟩ hm
      omega
    · obtain ⟨i, hi2⟩ := Int.eq_ofNat_of_zero_le h0
      have hb : Lib.indexB s ⟨#[c]⟩ = i := by rw [hi]; exact hi2
      have hc := Lib.countB_hit s ⟨#[c]⟩ i (Nat.le_refl 1) hb
      rw [Lib.splitB_hit _ _ _ _ _ hb, List.map_cons]
      have e1 : (⟨#[c]⟩ : ByteArray).size = 1 := rfl
      rw [e1] at hc ⊢
      rw [ih _ (by omega), cut_index_at c _ i hi2, Lib.extract_to_end]
      congr 1
      simp
theorem ext_mk (s : ByteArray) (a b : Nat) : s.extract a b = ⟨((s.data.toList.drop a).take (b - a)).toArray⟩ := by
  have h := Lib.extract_toList s a b
  rw [ByteArray.toList_eq] at h
  rw [← h]
end Go.Proofs.YtendfnimhmnioaaDoor
