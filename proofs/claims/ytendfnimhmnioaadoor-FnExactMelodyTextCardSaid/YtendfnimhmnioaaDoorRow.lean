/- Slices of int64: the laws' own functions eqInt64S, markInt64S, heldInt64S, toInt64S. -/
import Derived.Test.YtendfnimhmnioaaDoorKit
import Derived.LoopTactic
import Derived.Below
import Derived.Laws.AppendOwn
import Derived.Laws.OwnMore
import Derived.OwnWalk
import Derived.Maps.AppendAt
import Derived.Deep.AppendLies
import Derived.Deep.OwnRows
import Derived.Laws.MakeOwn
import Derived.ChangeSlices
namespace Go.Proofs.YtendfnimhmnioaaDoor
open Go.ChangeShapes Go.WideShapes Go.ChangeAt Go.RowKit
set_option linter.unusedVariables false
set_option linter.unusedSimpArgs false
set_option maxRecDepth 100000

def ints (zs : List Int) : List Value := zs.map (Value.int .i64)
theorem ints_len (zs : List Int) : (ints zs).length = zs.length := by simp [ints]
theorem ints_at (zs : List Int) (k : Nat) (h : k < zs.length) : (ints zs)[k]? = some (.int .i64 (zs.getD k 0)) := by simp [ints, h]

/-- a slice that reads as these numbers -/
def IntsAt (w : World) (v : Value) (zs : List Int) : Prop :=
  (zs = [] ∧ ∃ A c, v = .slice A 0 c) ∨ ∃ b off c, v = .slice (some ⟨b, off, none⟩) zs.length c ∧ b < w.heap.size ∧ ∀ k, k < zs.length → w.cell? ⟨b, off + k, none⟩ = some (.int .i64 (zs.getD k 0))
theorem IntsAt.below {w w' : World} {v : Value} {zs : List Int} (h : IntsAt w v zs) (hb : Below w.heap.size w w') : IntsAt w' v zs := by
  rcases h with h | ⟨b, off, c, h1, h2, h3⟩
  · exact .inl h
  · exact .inr ⟨b, off, c, h1, Nat.lt_of_lt_of_le h2 hb.size, fun k hk => (hb.cell (p := ⟨b, off + k, none⟩) h2).trans (h3 k hk)⟩
theorem IntsAt.draws {w : World} {v : Value} {zs : List Int} (h : IntsAt w v zs) (n : Nat) : IntsAt (w.drewN n) v zs := h
theorem IntsAt.own {w : World} {base : Nat} {v : Value} {zs : List Int} (h : w.ownsRow base 2 1 v zs.length (ints zs)) : IntsAt w v zs := by
  rcases Nat.eq_zero_or_pos zs.length with h0 | h0
  · refine .inl ⟨List.eq_nil_of_length_eq_zero h0, ?_⟩
    rcases h.2 with ⟨hv, _⟩ | ⟨g, cap, cur, hv, _⟩
    · exact ⟨none, 0, hv⟩
    · exact ⟨some ⟨g, 0, none⟩, cap, by rw [hv, h0]⟩
  · obtain ⟨g, cap, rfl, _, hlt⟩ := h.form h0
    refine .inr ⟨g, 0, cap, rfl, hlt, fun k hk => ?_⟩
    rw [Nat.zero_add, h.cellAt k (by omega), ints_at zs k hk]

theorem take_ne (xs ys : List Int) (k : Nat) (h1 : k < xs.length) (h2 : k < ys.length) (hn : xs.getD k 0 ≠ ys.getD k 0) : xs ≠ ys := by
  rintro rfl; exact hn rfl
theorem take_eq_succ (xs ys : List Int) (k : Nat) (h1 : k < xs.length) (h2 : k < ys.length) (hp : xs.take k = ys.take k) (he : xs.getD k 0 = ys.getD k 0) : xs.take (k + 1) = ys.take (k + 1) := by
  simp only [List.getD, List.getElem?_eq_getElem h1, List.getElem?_eq_getElem h2, Option.getD_some] at he
  rw [List.take_succ_eq_append_getElem h1, List.take_succ_eq_append_getElem h2, hp, he]

def marks (n : Nat) (k : Int) : List Int := (List.range n).map fun (i : Nat) => k + (i : Int)
theorem marks_len (n : Nat) (k : Int) : (marks n k).length = n := by simp [marks]
theorem marks_at (n : Nat) (k : Int) (i : Nat) (h : i < n) : (marks n k).getD i 0 = k + i := by simp [marks, h]

/-- a row of the call's own, marked from the front: the first i cells are marks -/
def mixed (zs : List Int) (k : Int) (i : Nat) : List Int := marks i k ++ zs.drop i
theorem mixed_len (zs : List Int) (k : Int) (i : Nat) (h : i ≤ zs.length) : (mixed zs k i).length = zs.length := by simp [mixed, marks_len]; omega
theorem mixed_step (zs : List Int) (k : Int) (i : Nat) (h : i < zs.length) : (ints (mixed zs k i)).set i (.int .i64 (k + i)) = ints (mixed zs k (i + 1)) := by
  have e1 : zs.drop i = zs[i] :: zs.drop (i + 1) := List.drop_eq_getElem_cons h
  have e2 : marks (i + 1) k = marks i k ++ [k + (i : Int)] := by simp [marks, List.range_succ]
  unfold mixed ints
  rw [e1, e2, List.map_append, List.map_cons, List.set_append_right _ _ (by simp [marks_len])]
  simp [marks_len]
theorem mixed_zero (zs : List Int) (k : Int) : mixed zs k 0 = zs := by simp [mixed, marks]
theorem mixed_all (zs : List Int) (k : Int) : mixed zs k zs.length = marks zs.length k := by simp [mixed]

theorem infoI64 : (Tryd.prog.info? 2).map (fun i => (i.zero, i.size, i.bytes)) = some (some (.int .i64 0), 1, 8) := by kernel_rfl

/-- a row being filled from the front: the first i cells are the list's, the others 0 -/
def filled (zs : List Int) (i : Nat) : List Int := zs.take i ++ List.replicate (zs.length - i) 0
theorem filled_len (zs : List Int) (i : Nat) (h : i ≤ zs.length) : (filled zs i).length = zs.length := by simp [filled]; omega
theorem filled_step (zs : List Int) (i : Nat) (h : i < zs.length) : (ints (filled zs i)).set i (.int .i64 (zs.getD i 0)) = ints (filled zs (i + 1)) := by
  have e1 : zs.length - i = zs.length - (i + 1) + 1 := by omega
  have e3 : zs.getD i 0 = zs[i] := by simp [List.getD, h]
  unfold filled ints
  rw [e1, List.replicate_succ, List.take_succ_eq_append_getElem h, List.map_append, List.map_cons, List.set_append_right _ _ (by simp; omega), e3]
  have e4 : i - (List.map (Value.int .i64) (List.take i zs)).length = 0 := by simp; omega
  rw [e4, List.set_cons_zero]
  simp only [List.map_append, List.map_cons, List.map_nil, List.append_assoc, List.singleton_append]
theorem filled_zero (zs : List Int) : filled zs 0 = List.replicate zs.length 0 := by simp [filled]
theorem filled_all (zs : List Int) : filled zs zs.length = zs := by simp [filled]

theorem cells_i64 : Tryd.prog.cellsOf 2 = 1 := by kernel_rfl
end Go.Proofs.YtendfnimhmnioaaDoor
