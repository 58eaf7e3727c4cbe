/- Phrases: plain facts. The order of lists; lists of phrases; moved phrases. -/
import Derived.Test.YtgkdonnkiljplaaDoorPh
import Derived.Test.YtgkdonnkiljplaaDoorCmp
namespace Go.Proofs.YtgkdonnkiljplaaDoor
open Go.ChangeShapes Go.WideShapes Go.ChangeAt Go.RowKit
set_option linter.unusedVariables false
set_option linter.unusedSimpArgs false
set_option maxRecDepth 100000

/-- one list before another -/
def lexB : List Int → List Int → Bool
  | _, [] => false
  | [], _ :: _ => true
  | x :: xs, y :: ys => if x = y then lexB xs ys else decide (x < y)
def lexC : List Int → List Int → Int
  | [], [] => 0
  | [], _ :: _ => -1
  | _ :: _, [] => 1
  | x :: xs, y :: ys => if cmpI x y = 0 then lexC xs ys else cmpI x y
theorem cmp_zero (x y : Int) : cmpI x y = 0 ↔ x = y := by
  unfold cmpI
  repeat' split
  all_goals omega
theorem lex_cmp : ∀ a b : List Int, decide (0 ≤ lexC a b) = !lexB a b
  | [], [] => by simp [lexC, lexB]
  | [], _ :: _ => by simp [lexC, lexB]
  | _ :: _, [] => by simp [lexC, lexB]
  | x :: xs, y :: ys => by
    unfold lexC lexB
    by_cases h : x = y
    · rw [if_pos h, if_pos ((cmp_zero _ _).2 h), lex_cmp xs ys]
    · rw [if_neg h, if_neg (fun e => h ((cmp_zero _ _).1 e))]
      unfold cmpI
      by_cases h2 : x < y
      · rw [if_pos h2, decide_eq_true h2]; rfl
      · rw [if_neg h2, if_pos (by omega), decide_eq_false h2]; rfl
theorem drop_cons (a : List Int) (k : Nat) (h : k < a.length) : a.drop k = a.getD k 0 :: a.drop (k + 1) := by
  rw [List.drop_eq_getElem_cons h]
  simp [List.getD, List.getElem?_eq_getElem h]
theorem lexB_ne (a b : List Int) (k : Nat) (h1 : k < a.length) (h2 : k < b.length) (hn : a.getD k 0 ≠ b.getD k 0) : lexB (a.drop k) (b.drop k) = decide (a.getD k 0 < b.getD k 0) := by
  rw [drop_cons a k h1, drop_cons b k h2]
  unfold lexB
  rw [if_neg hn]
theorem lexB_eq (a b : List Int) (k : Nat) (h1 : k < a.length) (h2 : k < b.length) (hn : a.getD k 0 = b.getD k 0) : lexB (a.drop k) (b.drop k) = lexB (a.drop (k + 1)) (b.drop (k + 1)) := by
  rw [drop_cons a k h1, drop_cons b k h2]
  rw [lexB, if_pos hn]
theorem lexB_end (a b : List Int) (k : Nat) (h : k = a.length ∨ k = b.length) (h1 : k ≤ a.length) (h2 : k ≤ b.length) : lexB (a.drop k) (b.drop k) = decide (a.length < b.length) := by
  by_cases hb : b.length ≤ k
  · rw [List.drop_of_length_le hb, decide_eq_false (by omega)]
    cases a.drop k <;> rfl
  · rw [List.drop_of_length_le (by omega), drop_cons b k (by omega), decide_eq_true (by omega)]
    rfl
theorem lexC_ne (a b : List Int) (k : Nat) (h1 : k < a.length) (h2 : k < b.length) (hn : cmpI (a.getD k 0) (b.getD k 0) ≠ 0) : lexC (a.drop k) (b.drop k) = cmpI (a.getD k 0) (b.getD k 0) := by
  rw [drop_cons a k h1, drop_cons b k h2]
  unfold lexC
  rw [if_neg hn]
theorem lexC_eq (a b : List Int) (k : Nat) (h1 : k < a.length) (h2 : k < b.length) (hn : cmpI (a.getD k 0) (b.getD k 0) = 0) : lexC (a.drop k) (b.drop k) = lexC (a.drop (k + 1)) (b.drop (k + 1)) := by
  rw [drop_cons a k h1, drop_cons b k h2]
  rw [lexC, if_pos hn]
theorem lexC_more (a b : List Int) (k : Nat) (h1 : k < a.length) (h2 : k = b.length) : lexC (a.drop k) (b.drop k) = 1 := by
  rw [List.drop_of_length_le (l := b) (by omega), drop_cons a k h1]; rfl
theorem lexC_end (a b : List Int) (k : Nat) (h1 : k = a.length) : lexC (a.drop k) (b.drop k) = if k < b.length then -1 else 0 := by
  rw [List.drop_of_length_le (l := a) (by omega)]
  by_cases h : k < b.length
  · rw [if_pos h, drop_cons b k h]; rfl
  · rw [if_neg h, List.drop_of_length_le (by omega)]; rfl
/-- phrases in order -/
def phAt (L : List (List Int)) (i : Nat) : Bool := phB (L.getD i []) && (i == 0 || lexB (L.getD (i - 1) []) (L.getD i []))
def phsB (L : List (List Int)) : Bool := decide (L.length ≤ 12) && (List.range L.length).all (phAt L)
theorem phs_no {L : List (List Int)} (i : Nat) (h : i < L.length) (hs : phAt L i = false) : phsB L = false := by
  unfold phsB
  rw [Bool.and_eq_false_iff]
  refine .inr ?_
  rw [List.all_eq_false]
  exact ⟨i, by simpa using h, by simpa using hs⟩
theorem phs_all {L : List (List Int)} (h : ∀ i, i < L.length → phAt L i = true) : phsB L = decide (L.length ≤ 12) := by
  unfold phsB
  rw [show (List.range L.length).all (phAt L) = true by rw [List.all_eq_true]; intro i hi; exact h i (by simpa using hi), Bool.and_true]
theorem phs_yes {L : List (List Int)} (h : phsB L = true) : L.length ≤ 12 ∧ ∀ i, i < L.length → phB (L.getD i []) = true := by
  unfold phsB at h
  simp only [Bool.and_eq_true, decide_eq_true_eq, List.all_eq_true] at h
  refine ⟨h.1, fun i hi => ?_⟩
  have := h.2 i (by simpa using hi)
  unfold phAt at this
  exact (Bool.and_eq_true_iff.1 this).1
/-- a moved phrase and a code -/
def mvK (zs : List Int) (d : Int) (k : Nat) : List Int := (List.range k).map fun i => zs.getD i 0 + d
theorem mvK_succ (zs : List Int) (d : Int) (k : Nat) : mvK zs d (k + 1) = mvK zs d k ++ [zs.getD k 0 + d] := by simp [mvK, List.range_succ]
theorem mvK_len (zs : List Int) (d : Int) (k : Nat) : (mvK zs d k).length = k := by simp [mvK]
theorem mvK_at (zs : List Int) (d : Int) (k i : Nat) (h : i < k) : (mvK zs d k).getD i 0 = zs.getD i 0 + d := by simp [mvK, h]
def moveE (zs : List Int) (d : Int) : List Int × Int :=
  if phB zs = true then (if -36 ≤ d ∧ d ≤ 36 then (if pitB (mvK zs d zs.length) = true then (mvK zs d zs.length, 0) else ([], 2)) else ([], 2)) else ([], 1)
theorem move_no1 {zs : List Int} {d : Int} (h : phB zs = false) : moveE zs d = ([], 1) := by unfold moveE; rw [h]; rfl
theorem move_no2 {zs : List Int} {d : Int} (h : phB zs = true) (hd : ¬ (-36 ≤ d ∧ d ≤ 36)) : moveE zs d = ([], 2) := by unfold moveE; rw [h, if_pos rfl, if_neg hd]
theorem move_no3 {zs : List Int} {d : Int} (h : phB zs = true) (hd : -36 ≤ d ∧ d ≤ 36) (hp : pitB (mvK zs d zs.length) = false) : moveE zs d = ([], 2) := by unfold moveE; rw [h, if_pos rfl, if_pos hd, hp]; rfl
theorem move_yes {zs : List Int} {d : Int} (h : phB zs = true) (hd : -36 ≤ d ∧ d ≤ 36) (hp : pitB (mvK zs d zs.length) = true) : moveE zs d = (mvK zs d zs.length, 0) := by unfold moveE; rw [h, if_pos rfl, if_pos hd, hp]; rfl
theorem move_at {zs : List Int} {d : Int} (k : Nat) (hk : k < zs.length) (h : inB (zs.getD k 0 + d) (-12) 23 = false) : pitB (mvK zs d zs.length) = false :=
  pit_no k (by rw [mvK_len]; exact hk) (by rw [mvK_at _ _ _ _ hk]; exact h)
theorem move_all {zs : List Int} {d : Int} (h8 : zs.length ≤ 8) (h : ∀ k, k < zs.length → inB (zs.getD k 0 + d) (-12) 23 = true) : pitB (mvK zs d zs.length) = true := by
  rw [pit_all (fun i hi => by rw [mvK_len] at hi; rw [mvK_at _ _ _ _ hi]; exact h i hi), mvK_len]
  exact decide_eq_true (by omega)
theorem moveE_len (zs : List Int) (d : Int) : (moveE zs d).1.length ≤ 64 := by
  unfold moveE
  repeat' split
  all_goals simp [mvK_len]
  rename_i h _ _
  have := (ph_yes h).2.2
  omega
end Go.Proofs.YtgkdonnkiljplaaDoor
