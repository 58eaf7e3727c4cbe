/- Sets of numbers: maps from int64 to bool that a call makes. -/
import Derived.Test.YtobhmoohalkijaaKit
import Derived.Maps.Own
import Derived.Maps.OwnSet
import Derived.Maps.Views
namespace Go.Proofs.Ytobhmoohalkijaa
open Go.ChangeShapes Go.WideShapes Go.ChangeAt Go.RowKit
set_option linter.unusedVariables false
set_option linter.unusedSimpArgs false
set_option maxRecDepth 100000

theorem plainElem_bool_inv {H : Type} {P : Program} {e : TypeId} (he : P.underlying e = some .bool) {v : Value} {z : DataW H × List MemPlace} (h : plainElem P e v = some z) : ∃ x, v = .bool x ∧ z = (.lit (.bool x), []) := by
  unfold plainElem at h
  rw [he] at h
  cases v <;> simp at h
  exact ⟨_, rfl, h.symm⟩
theorem keyed64 : Go.Maps.Keyed Try.prog 2 := Go.Maps.int_keyed Try.underlying2
theorem zeroBool (w : World) : (zeroValue 4).run Try.prog w = .ok (.bool false) w := by kernel_rfl
/-- block b is a map from int64 to bool of at most n entries, which says 'true' at x just if f does -/
def SetAt (w : World) (b n : Nat) (f : Int → Bool) : Prop :=
  ∃ D : DataW Unit, w.ownsMap Try.prog 2 (plainElem Try.prog 4) b n D ∧ ∀ x, D.atKey (.int .i64 x) (.lit (.bool false)) = .lit (.bool (f x))
theorem SetAt.lt {w : World} {b n : Nat} {f : Int → Bool} (h : SetAt w b n f) : b < w.heap.size := by
  obtain ⟨D, h1, _⟩ := h
  exact h1.lt
theorem SetAt.mono {w : World} {b n m : Nat} {f : Int → Bool} (h : SetAt w b n f) (hn : n ≤ m) : SetAt w b m f := by
  obtain ⟨D, h1, h2⟩ := h
  exact ⟨D, h1.mono hn, h2⟩
theorem SetAt.kept {w w' : World} {b n : Nat} {f : Int → Bool} {row : Option Nat} (h : SetAt w b n f) (hg : w.grownBy w' row) (hne : some b ≠ row) : SetAt w' b n f := by
  obtain ⟨D, h1, h2⟩ := h
  exact ⟨D, h1.kept hg hne, h2⟩
theorem SetAt.below {w w' : World} {b n : Nat} {f : Int → Bool} (h : SetAt w b n f) (hb : Below w.heap.size w w') : SetAt w' b n f := by
  obtain ⟨D, ⟨es, clock, h1, h2⟩, h3⟩ := h
  have hlt : b < w.heap.size := (Array.getElem?_eq_some_iff.1 h1).1
  exact ⟨D, ⟨es, clock, (hb.block b hlt).trans h1, h2⟩, h3⟩
theorem SetAt.made (w : World) : SetAt (w.alloc (.map #[] 0)) w.heap.size 0 (fun _ => false) :=
  ⟨.map [], World.ownsMap_made _ _ _ _, fun x => Go.Maps.atKey_of_not_has rfl _⟩
theorem SetAt.look {w : World} {b n : Nat} {f : Int → Bool} (h : SetAt w b n f) (x : Int) (hx : (Lit.int .i64 x).wf = true) :
    (Instr.lookup 122 (.map (some b)) (.int .i64 x) false).run Try.prog w = .ok (.bool (f x)) w := by
  obtain ⟨D, h1, h2⟩ := h
  obtain ⟨v, ps, hrun, hv⟩ := h1.lookup keyed64 Try.underlying122 (zeroBool _) (plainElem_bool Try.underlying4 false) (Go.Maps.keyOf_int_mk Try.underlying2 hx)
  obtain ⟨c, rfl, e⟩ := plainElem_bool_inv Try.underlying4 hv
  rw [hrun]
  rw [h2 x] at e
  simp only [Prod.mk.injEq, DataW.lit.injEq, Lit.bool.injEq] at e
  rw [e.1]
theorem SetAt.store {w : World} {b n : Nat} {f : Int → Bool} (h : SetAt w b n f) (x : Int) (hx : (Lit.int .i64 x).wf = true) (hn : n < maxLen) :
    ∃ w', (Instr.mapUpdate 122 (.map (some b)) (.int .i64 x) (.bool true)).run Try.prog w = .ok () w' ∧ SetAt w' b (n + 1) (fun y => if y = x then true else f y) ∧ w.grownBy w' (some b) := by
  obtain ⟨D, h1, h2⟩ := h
  obtain ⟨w', r1, r2, r3⟩ := h1.update keyed64 Try.underlying122 hn (Go.Maps.keyOf_int_mk Try.underlying2 hx) (plainElem_bool Try.underlying4 true)
  refine ⟨w', r1, ⟨_, r2, fun y => ?_⟩, r3⟩
  by_cases hy : y = x
  · subst hy
    rw [Go.Maps.atKey_put_same (h1.isMap) ?_]
    · simp
    · trivial
  · rw [Go.Maps.atKey_put_other (by simpa using hy), h2 y]
    simp [hy]
theorem SetAt.drop {w : World} {b n : Nat} {f : Int → Bool} (h : SetAt w b n f) (x : Int) (hx : (Lit.int .i64 x).wf = true) (ty : TypeId) :
    ∃ w', (Builtin.delete_ #[122, 2] ty #[.map (some b), .int .i64 x]).run Try.prog w = .ok (.tuple #[]) w' ∧ SetAt w' b n (fun y => if y = x then false else f y) ∧ w.grownBy w' (some b) := by
  obtain ⟨D, h1, h2⟩ := h
  obtain ⟨w', r1, r2, r3⟩ := h1.drop keyed64 Try.underlying122 (Go.Maps.keyOf_int_mk Try.underlying2 hx) ty
  refine ⟨w', r1, ⟨_, r2, fun y => ?_⟩, r3.grown⟩
  by_cases hy : y = x
  · subst hy
    rw [Go.Maps.atKey_del_same]
    simp
  · rw [Go.Maps.atKey_del_other (by simpa using hy), h2 y]
    simp [hy]
/-- 'm[x] = true', at the operation -/
theorem wpList_set_true {w : World} {ops : Array Oper} {rest : List Oper} {o : Oper} {a : Act} {Q : Exit → Act → World → Prop}
    (hg : o.guard = none) (m x v : Operand) (hop : o.op = Op.mapUpdate 122 m x v) (b n : Nat) (f : Int → Bool) (z : Int)
    (hm : a.eval m = .map (some b)) (hx : a.eval x = .int .i64 z) (hv : a.eval v = .bool true) (h : SetAt w b n f) (hn : n < maxLen) (hz : (Lit.int .i64 z).wf = true)
    (hK : ∀ w', SetAt w' b (n + 1) (fun y => if y = z then true else f y) → w.grownBy w' (some b) → wpList Try.prog ops Q rest (a.put o.dst undef) w') :
    wpList Try.prog ops Q (o :: rest) a w := by
  refine wpList_plain hg fun K' hK' => ?_
  obtain ⟨w', hrun, r1, r2⟩ := h.store z hz hn
  unfold Oper.wp
  simp [execOp, hop, hm, hx, hv, hrun, Result.andThen]
  exact hK' _ _ (hK w' r1 r2)
theorem wpList_set_drop {w : World} {ops : Array Oper} {rest : List Oper} {o : Oper} {a : Act} {Q : Exit → Act → World → Prop}
    (hg : o.guard = none) (m x : Operand) (hop : o.op = Op.call { callee := Callee.builtin Builtin.delete, args := #[m, x], argTypes := #[122, 2] }) (b n : Nat) (f : Int → Bool) (z : Int)
    (hm : a.eval m = .map (some b)) (hx : a.eval x = .int .i64 z) (h : SetAt w b n f) (hz : (Lit.int .i64 z).wf = true)
    (hK : ∀ w', SetAt w' b n (fun y => if y = z then false else f y) → w.grownBy w' (some b) → wpList Try.prog ops Q rest (a.put o.dst (.tuple #[])) w') :
    wpList Try.prog ops Q (o :: rest) a w := by
  refine wpList_plain hg fun K' hK' => ?_
  obtain ⟨w', hrun, r1, r2⟩ := h.drop z hz o.type
  unfold Oper.wp
  simp [execOp, hop, resolve, invoke, builtin, hm, hx, hrun, Result.andThen]
  exact hK' _ _ (hK w' r1 r2)
end Go.Proofs.Ytobhmoohalkijaa
