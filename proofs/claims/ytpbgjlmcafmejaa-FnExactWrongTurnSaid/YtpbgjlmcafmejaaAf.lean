/- arcsFrom: the arcs from a state, one after another: its contract as an iterator. -/
import Derived.RangeFuncNested
import Derived.RangeFuncBound
import Derived.RangeFuncCalls
import Derived.RangeFuncLeaves
import Derived.RangeFuncBox
import Derived.Shelf.Abstract
import Derived.Shelf.RegionOpen
import Derived.WalkKit
import Derived.OwnWalkIn
import Derived.TacticsInMore
import Derived.LoopNIn
import Derived.LoopIn
import Derived.Test.YtpbgjlmcafmejaaGa2
namespace Go.Proofs.Ytpbgjlmcafmejaa
open Go.ChangeShapes Go.WideShapes Go.ChangeAt Go.RowKit Go.Shelf
set_option linter.unusedVariables false
set_option linter.unusedSimpArgs false
set_option maxRecDepth 100000
attribute [local go_sem] Oper.semAt_some

/-- the arcs from s -/
def arcsF (L : List (Int × Int × Int)) (s : Int) : List (Int × Int × Int) := L.filter fun p => decide (p.1 = s)
/-- m arcs from index k on -/
def arcsK (L : List (Int × Int × Int)) (k m : Nat) : List (Int × Int × Int) := (L.drop k).take m
theorem arcsK_succ (L : List (Int × Int × Int)) (k m : Nat) (h : k + m < L.length) : arcsK L k (m + 1) = arcsK L k m ++ [tat L (k + m)] := by
  unfold arcsK
  rw [List.take_succ_eq_append_getElem (by rw [List.length_drop]; omega), tat_get h, List.getElem_drop]
theorem arcsK_len (L : List (Int × Int × Int)) (k m : Nat) (h : k + m ≤ L.length) : (arcsK L k m).length = m := by
  unfold arcsK
  rw [List.length_take, List.length_drop]; omega
theorem arcsF_split (L : List (Int × Int × Int)) (s : Int) (k m : Nat) : arcsF L s = arcsF (L.take k) s ++ (arcsF (arcsK L k m) s ++ arcsF (L.drop (k + m)) s) := by
  unfold arcsF arcsK
  rw [← List.filter_append, ← List.filter_append, ← List.drop_drop, List.take_append_drop, List.take_append_drop]
theorem arcsF_none {L : List (Int × Int × Int)} {s : Int} (h : ∀ i, i < L.length → (tat L i).1 ≠ s) : arcsF L s = [] := by
  unfold arcsF
  rw [List.filter_eq_nil_iff]
  intro p hp
  obtain ⟨i, hi, rfl⟩ := List.mem_iff_getElem.1 hp
  have := h i hi
  rw [tat_get hi] at this
  simpa using this
theorem arcsF_all {L : List (Int × Int × Int)} {s : Int} (h : ∀ i, i < L.length → (tat L i).1 = s) : arcsF L s = L := by
  unfold arcsF
  rw [List.filter_eq_self]
  intro p hp
  obtain ⟨i, hi, rfl⟩ := List.mem_iff_getElem.1 hp
  have := h i hi
  rw [tat_get hi] at this
  simpa using this
theorem tat_take {L : List (Int × Int × Int)} {k i : Nat} (h : i < k) : tat (L.take k) i = tat L i := by
  unfold tat
  simp [List.getD, List.getElem?_take, h]
theorem tat_drop (L : List (Int × Int × Int)) (k i : Nat) : tat (L.drop k) i = tat L (k + i) := by
  unfold tat
  simp [List.getD, List.getElem?_drop]
theorem low_before {L : List (Int × Int × Int)} {s : Int} {k : Nat} (h : LowAt L (s, -12, 0) k) (hp : ∀ i, i < L.length → -12 ≤ (tat L i).2.1) : arcsF (L.take k) s = [] := by
  refine arcsF_none (fun i hi => ?_)
  rw [List.length_take] at hi
  rw [tat_take (by omega)]
  have h1 := h.lo i (by omega)
  have h2 := hp i (by omega)
  unfold aLt at h1
  dsimp only at h1
  omega
theorem run_mid {L : List (Int × Int × Int)} {s : Int} {k m : Nat} (hm : ∀ j, j < m → (tat L (k + j)).1 = s) : arcsF (arcsK L k m) s = arcsK L k m := by
  refine arcsF_all (fun i hi => ?_)
  unfold arcsK at hi ⊢
  rw [List.length_take] at hi
  rw [tat_take (by omega), tat_drop]
  exact hm i (by omega)
theorem run_pre {L : List (Int × Int × Int)} {s : Int} {k m : Nat} (h : LowAt L (s, -12, 0) k) (hp : ∀ i, i < L.length → -12 ≤ (tat L i).2.1) (hm : ∀ j, j < m → (tat L (k + j)).1 = s) : arcsK L k m <+: arcsF L s := by
  rw [arcsF_split L s k m, low_before h hp, run_mid hm, List.nil_append]
  exact List.prefix_append _ _
theorem run_end {L : List (Int × Int × Int)} {s : Int} {k m : Nat} (hr : ∀ i, i + 1 < L.length → aLt (tat L i) (tat L (i + 1))) (h : LowAt L (s, -12, 0) k) (hp : ∀ i, i < L.length → -12 ≤ (tat L i).2.1) (hm : ∀ j, j < m → (tat L (k + j)).1 = s)
    (he : k + m < L.length → (tat L (k + m)).1 ≠ s) : arcsK L k m = arcsF L s := by
  rw [arcsF_split L s k m, low_before h hp, run_mid hm, List.nil_append, arcsF_none (L := L.drop (k + m)), List.append_nil]
  intro i hi
  rw [List.length_drop] at hi
  rw [tat_drop]
  have h0 := he (by omega)
  have h1 := h.hi (k + m) (by omega) (by omega)
  have h2 := hp (k + m) (by omega)
  have hge : s < (tat L (k + m)).1 := by
    unfold aLt at h1
    dsimp only at h1
    omega
  rcases Nat.eq_zero_or_pos i with rfl | hi0
  · simpa using h0
  · have h3 := arcs_rise hr (k + m + i) (k + m) (by omega) (by omega)
    unfold aLt at h3
    omega
/-- what a round keeps: all below n₀, and block Bf -/
def KpA (n₀ Bf : Nat) (W W' : World) : Prop := Below n₀ W W' ∧ W'.heap[Bf]? = W.heap[Bf]?
theorem kpA_t {n₀ Bf : Nat} {A B C : World} (h : KpA n₀ Bf A B) (k : KpA n₀ Bf B C) : KpA n₀ Bf A C := ⟨h.1.trans k.1, k.2.trans h.2⟩
theorem kpA_b {n₀ Bf : Nat} {w : World} (hn : n₀ ≤ w.heap.size) (hB : Bf < w.heap.size) (W : World) (l : Nat) (o o' : Obj) (hl : w.heap.size ≤ l) (h : W.heap[l]? = some o) (h1 : o.isCells = false) (h2 : o.isWalk = false) : KpA n₀ Bf W (W.putObj l o') :=
  ⟨belowK_b hn W l o o' hl h h1 h2, (grownBy_putObj' W l o').block Bf (by have := (Array.getElem?_eq_some_iff.1 h).1; omega) (fun e => by cases e; omega)⟩
theorem grown_below {W W' : World} (hb : Below W.heap.size W W') : W.grownBy W' none := ⟨hb.os, hb.tape, hb.output, hb.size, fun b h _ => hb.block b h⟩
end Go.Proofs.Ytpbgjlmcafmejaa
