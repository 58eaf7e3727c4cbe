/- isOrder and WorthOf: the program. -/
import Derived.Test.YtidblpamolimpaaHj3
import Derived.Test.YtidblpamolimpaaHg3
import Derived.Test.YtidblpamolimpaaAr
namespace Go.Proofs.Ytidblpamolimpaa
open Go.ChangeShapes Go.WideShapes Go.ChangeAt Go.RowKit
set_option linter.unusedVariables false
set_option linter.unusedSimpArgs false
set_option maxRecDepth 100000

theorem hmem (zs : List Int) (t : Int) : hasB zs t = true ↔ t ∈ zs := by
  unfold hasB
  rcases idx_cases zs t with ⟨h, hn⟩ | ⟨k, h, hk, he, _⟩
  · rw [h]
    constructor
    · intro h; simp at h
    · intro hm
      obtain ⟨i, hi, e⟩ := List.getElem_of_mem hm
      exact absurd (by simp [hi, e]) (hn i hi)
  · rw [h]
    refine ⟨fun _ => ?_, fun _ => decide_eq_true (by omega)⟩
    rw [← he]
    simp [hk]
theorem has_snoc (zs : List Int) (z t : Int) : hasB (zs ++ [z]) t = (hasB zs t || decide (z = t)) := by
  rw [Bool.eq_iff_iff, Bool.or_eq_true, hmem, hmem, decide_eq_true_eq, List.mem_append, List.mem_singleton]
  constructor
  · rintro (h | h)
    · exact .inl h
    · exact .inr h.symm
  · rintro (h | h)
    · exact .inl h
    · exact .inr h.symm
/-- twelve marks -/
def marksB (f : Nat → Bool) : List Value := (List.range 12).map fun i => .bool (f i)
theorem marksB_at (f : Nat → Bool) (i : Nat) (h : i < 12) : (marksB f)[i]? = some (.bool (f i)) := by simp [marksB, h]
theorem marksB_set (f g : Nat → Bool) (k : Nat) (hg : ∀ i, g i = (f i || decide (k = i))) : (marksB f).set k (.bool true) = marksB g := by
  apply List.ext_getElem?
  intro i
  unfold marksB
  by_cases hn : i < 12
  · by_cases h : k = i
    · subst h; simp [hn, hg]
    · simp [hn, h, hg]
  · rw [List.getElem?_eq_none (by simp; omega), List.getElem?_eq_none (by simp; omega)]
theorem marks_new : marksB (fun _ => false) = [.bool false, .bool false, .bool false, .bool false, .bool false, .bool false, .bool false, .bool false, .bool false, .bool false, .bool false, .bool false] := by rfl
def hasK (zs : List Int) (k i : Nat) : Bool := hasB (zs.take k) (i : Int)
end Go.Proofs.Ytidblpamolimpaa
