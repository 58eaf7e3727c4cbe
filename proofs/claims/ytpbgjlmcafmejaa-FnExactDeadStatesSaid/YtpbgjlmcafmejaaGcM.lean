/- Counting melodies: plain facts. -/
import Derived.Test.YtpbgjlmcafmejaaGaM
import Derived.Test.YtpbgjlmcafmejaaAr
namespace Go.Proofs.Ytpbgjlmcafmejaa
open Go.ChangeShapes Go.WideShapes Go.ChangeAt Go.RowKit
set_option linter.unusedVariables false
set_option linter.unusedSimpArgs false
set_option maxRecDepth 100000

def upd (F : Nat → Int) (i : Nat) (v : Int) : Nat → Int := fun s => if s = i then v else F s
def zF : Nat → Int := fun _ => 0
def finStep (F : Nat → Int) (s : Int) : Nat → Int := upd F s.toNat 1
def addStep (P F : Nat → Int) (t : Int × Int × Int) : Nat → Int := upd F t.1.toNat (wrap64 (F t.1.toNat + P t.2.2.toNat))
def finF (fs : List Int) : Nat → Int := fs.foldl finStep zF
def addF (P : Nat → Int) (l : List (Int × Int × Int)) : Nat → Int := l.foldl (addStep P) zF
/-- how many ways of length k lead from a state to a final one -/
def cntG (G : Gr) : Nat → Nat → Int
  | 0 => finF G.f
  | k + 1 => addF (cntG G k) G.a
theorem finF_take {fs : List Int} {k : Nat} (h : k < fs.length) : finF (fs.take (k + 1)) = finStep (finF (fs.take k)) (fs.getD k 0) := by
  unfold finF
  rw [List.take_succ_eq_append_getElem h, List.foldl_append]
  simp [List.getD, h]
theorem addF_take {P : Nat → Int} {l : List (Int × Int × Int)} {k : Nat} (h : k < l.length) : addF P (l.take (k + 1)) = addStep P (addF P (l.take k)) (tat l k) := by
  unfold addF
  rw [List.take_succ_eq_append_getElem h, List.foldl_append, tat_get h]
  rfl
/-- a row of m numbers -/
def rowF (F : Nat → Int) (m : Nat) : List Value := (List.range m).map fun i => .int .i64 (F i)
theorem rowF_len (F : Nat → Int) (m : Nat) : (rowF F m).length = m := by simp [rowF]
theorem rowF_at (F : Nat → Int) (m i : Nat) (h : i < m) : (rowF F m)[i]? = some (.int .i64 (F i)) := by simp [rowF, h]
theorem rowF_set (F : Nat → Int) (m i : Nat) (v : Int) : (rowF F m).set i (.int .i64 v) = rowF (upd F i v) m := by
  apply List.ext_getElem?
  intro j
  unfold rowF
  by_cases hm : j < m
  · by_cases h : i = j
    · subst h; simp [hm, upd]
    · have : ¬ j = i := fun e => h e.symm
      simp [hm, h, upd, this]
  · rw [List.getElem?_eq_none (by simp; omega), List.getElem?_eq_none (by simp; omega)]
theorem rowF_congr {F H : Nat → Int} {m : Nat} (h : ∀ i, i < m → F i = H i) : rowF F m = rowF H m := by
  unfold rowF
  apply List.map_congr_left
  intro i hi
  rw [h i (List.mem_range.1 hi)]
theorem rowF_zero (m : Nat) : rowF zF m = List.replicate m (.int .i64 0) := by
  apply List.ext_getElem?
  intro j
  by_cases hm : j < m
  · rw [rowF_at _ _ _ hm, List.getElem?_replicate, if_pos hm]; rfl
  · rw [List.getElem?_eq_none (by simp [rowF]; omega), List.getElem?_eq_none (by simp; omega)]
/-- counts, and a code -/
def countE (G : Gr) (n : Int) : Int × Int := if okGr G = true then (if inB n 0 12 = true then (cntG G n.toNat G.s.toNat, 0) else (0, 2)) else (0, 1)
end Go.Proofs.Ytpbgjlmcafmejaa
