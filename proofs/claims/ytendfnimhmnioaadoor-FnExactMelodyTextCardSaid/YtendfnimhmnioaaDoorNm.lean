/- MelodyText: plain facts; the model. -/
import Derived.Test.YtendfnimhmnioaaDoorNd
import Derived.Test.YtendfnimhmnioaaDoorNe
import Derived.Test.YtendfnimhmnioaaDoorSc3
import Derived.Test.YtendfnimhmnioaaDoorSc12
import Derived.Test.YtendfnimhmnioaaDoorDec
import Derived.Lib.Join
import Derived.Lib.ItoaLen
namespace Go.Proofs.YtendfnimhmnioaaDoor
open Go.ChangeShapes Go.WideShapes Go.ChangeAt Go.RowKit
set_option linter.unusedVariables false
set_option linter.unusedSimpArgs false
set_option maxRecDepth 100000

/-- the name of a pitch with its mark -/
def nmS (p : Int) : ByteArray := if p < 0 then toneS (p % 12) ++ ⟨#[44]⟩ else if 12 ≤ p then toneS (p % 12) ++ ⟨#[39]⟩ else toneS (p % 12)
theorem nmS_size (p : Int) : (nmS p).size ≤ 2 := by
  have h : (toneS (p % 12)).size ≤ 1 := by
    unfold toneS; split
    · exact Nat.le_refl _
    · exact Nat.zero_le _
  unfold nmS
  split
  · rw [ByteArray.size_append]; have : (⟨#[44]⟩ : ByteArray).size = 1 := rfl; omega
  · split
    · rw [ByteArray.size_append]; have : (⟨#[39]⟩ : ByteArray).size = 1 := rfl; omega
    · omega
/-- the text of a note -/
def ntS (x : Int × Int) : ByteArray := if x.2 = 1 then nmS x.1 else nmS x.1 ++ ⟨(Lib.itoa x.2).toArray⟩
theorem ntS_size (x : Int × Int) (h : 1 ≤ x.2 ∧ x.2 ≤ 64) : (ntS x).size ≤ 23 := by
  have h1 := nmS_size x.1
  have h2 := Lib.itoa_length_le x.2 (by omega) (by omega)
  unfold ntS
  split
  · omega
  · rw [ByteArray.size_append]
    have : (⟨(Lib.itoa x.2).toArray⟩ : ByteArray).size = (Lib.itoa x.2).length := by show Array.size _ = _; simp
    omega
def wdN (l : List (Int × Int)) (k : Nat) : List ByteArray := (List.range k).map fun i => ntS (pat l i)
theorem wdN_len (l : List (Int × Int)) (k : Nat) : (wdN l k).length = k := by simp [wdN]
theorem wdN_succ (l : List (Int × Int)) (k : Nat) : wdN l (k + 1) = wdN l k ++ [ntS (pat l k)] := by simp [wdN, List.range_succ]
/-- the first k notes as text -/
def txS (l : List (Int × Int)) : Nat → ByteArray
  | 0 => ⟨#[]⟩
  | k + 1 => (if k = 0 then txS l k else txS l k ++ ⟨#[32]⟩) ++ ntS (pat l k)
theorem txS_size {l : List (Int × Int)} (h : okM l = true) : ∀ k, k ≤ l.length → (txS l k).size ≤ 24 * k := by
  intro k
  induction k with
  | zero => intro _; exact Nat.le_refl _
  | succ k ih =>
    intro hk
    have h1 := ih (by omega)
    have h2 := ntS_size (pat l k) (okM_at h k (by omega)).2
    have h3 : (⟨#[32]⟩ : ByteArray).size = 1 := rfl
    unfold txS
    rw [ByteArray.size_append]
    split
    · omega
    · rw [ByteArray.size_append]; omega
theorem join_snoc32 (x : List UInt8) (r : List (List UInt8)) (y : List UInt8) : Lib.join ((x :: r) ++ [y]) [32] = Lib.join (x :: r) [32] ++ (32 :: y) := by
  rw [List.cons_append, Lib.join_cons, Lib.join_cons]; simp [Lib.joinTail]
theorem txS_join (l : List (Int × Int)) : ∀ k, (⟨(Lib.join ((wdN l k).map (·.data.toList)) [32]).toArray⟩ : ByteArray) = txS l k := by
  intro k
  induction k with
  | zero => rfl
  | succ k ih =>
    rw [wdN_succ, List.map_append, List.map_cons, List.map_nil]
    unfold txS
    cases k with
    | zero =>
      rw [if_pos rfl, ← ih]
      show (⟨(Lib.join [(ntS (pat l 0)).data.toList] [32]).toArray⟩ : ByteArray) = ⟨(Lib.join [] [32]).toArray⟩ ++ ntS (pat l 0)
      rw [Lib.join_one, Lib.join_nil]
      apply ByteArray.ext
      simp
    | succ k =>
      rw [if_neg (by omega), ← ih]
      have hne : (wdN l (k + 1)).map (·.data.toList) ≠ [] := by
        intro e
        have := congrArg List.length e
        simp [wdN] at this
      cases hm : (wdN l (k + 1)).map (·.data.toList) with
      | nil => exact absurd hm hne
      | cons x r =>
        rw [join_snoc32]
        generalize Lib.join (x :: r) [32] = L
        generalize ntS (pat l (k + 1)) = M
        apply ByteArray.ext
        simp
/-- MelodyText -/
def textM (l : List (Int × Int)) : ByteArray := if okM l = true then (if l.length = 0 then ⟨#[45]⟩ else txS l l.length) else ⟨#[]⟩
set_option maxHeartbeats 4000000 in
theorem spec_name9 (p : Int) (w : World) (hp : -12 ≤ p ∧ p ≤ 23) : Calls Tryd.prog 70 #[.int .i64 p] w fun e w' => e = .returned (.string (nmS p)) ∧ w' = w := by
  have ht := fun W => spec_tone p W
  have hf := fun W => spec_floor p W hp
  have hna := spec_names
  obtain rfl | rfl | rfl | rfl | rfl | rfl | rfl | rfl | rfl | rfl | rfl | rfl | rfl | rfl | rfl | rfl | rfl | rfl | rfl | rfl | rfl | rfl | rfl | rfl | rfl | rfl | rfl | rfl | rfl | rfl | rfl | rfl | rfl | rfl | rfl | rfl : p = -12 ∨ p = -11 ∨ p = -10 ∨ p = -9 ∨ p = -8 ∨ p = -7 ∨ p = -6 ∨ p = -5 ∨ p = -4 ∨ p = -3 ∨ p = -2 ∨ p = -1 ∨ p = 0 ∨ p = 1 ∨ p = 2 ∨ p = 3 ∨ p = 4 ∨ p = 5 ∨ p = 6 ∨ p = 7 ∨ p = 8 ∨ p = 9 ∨ p = 10 ∨ p = 11 ∨ p = 12 ∨ p = 13 ∨ p = 14 ∨ p = 15 ∨ p = 16 ∨ p = 17 ∨ p = 18 ∨ p = 19 ∨ p = 20 ∨ p = 21 ∨ p = 22 ∨ p = 23 := by omega
  all_goals
    simp only [Int.reduceNeg, Int.reduceMod, Int.reduceDiv] at ht hf
    go_enter Tryd.func70, Tryd.ntmps70
    go_wp2_with (fail)
    refine (ht _).mono ?_
    rintro e w' ⟨rfl, rfl⟩
    go_wp2_with (fail)
    refine (hna _).mono ?_
    rintro e w' ⟨rfl, rfl⟩
    go_wp2_with (fail)
    refine (hf _).mono ?_
    rintro e w' ⟨rfl, rfl⟩
    go_wp2_with (fail)
    go_ret
    exact ⟨rfl, rfl⟩
end Go.Proofs.YtendfnimhmnioaaDoor
