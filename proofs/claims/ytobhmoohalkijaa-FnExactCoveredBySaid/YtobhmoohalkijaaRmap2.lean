/- Sets of pairs of numbers: maps from [2]int64 to bool that a call makes. -/
import Derived.Test.YtobhmoohalkijaaRmap
import Derived.DeepKeys4
namespace Go.Proofs.Ytobhmoohalkijaa
open Go.ChangeShapes Go.WideShapes Go.ChangeAt Go.RowKit
set_option linter.unusedVariables false
set_option linter.unusedSimpArgs false
set_option maxRecDepth 100000

def pv (a b : Int) : Value := .agg #[.int .i64 a, .int .i64 b]
theorem deepP : Try.prog.keyTypeAt 2 124 = true := by kernel_rfl
theorem wideP : (match Try.prog.underlying 124 with | some (.array _ _) | some (.struct _) => true | _ => false) = true := by rw [Try.underlying124]
theorem rowP : (124 : TypeId) < Try.prog.types.size := of_decide_eq_true (by kernel_rfl)
theorem laidP : laidOutB Try.prog = true := by kernel_rfl
theorem keyedP : Go.Maps.Keyed Try.prog 124 := Go.Maps.Keyed.of_law (deep_law_laid laidP (m := 2) (by omega) rowP deepP wideP)
theorem cellsP : Try.prog.cellsOf 124 = 2 := by kernel_rfl
theorem cells64 : Try.prog.cellsOf 2 = 1 := by kernel_rfl
theorem ktP : Try.prog.keyType 124 = true := by kernel_rfl
theorem key_pair (a b : Int) (ha : (Lit.int .i64 a).wf = true) (hb : (Lit.int .i64 b).wf = true) : ∃ l, keyOf Try.prog 124 (pv a b) = some l := by
  obtain ⟨m, hm⟩ : ∃ m, Try.prog.types.size = m + 1 := ⟨Try.prog.types.size - 1, by have : 0 < Try.prog.types.size := of_decide_eq_true (by kernel_rfl); omega⟩
  refine ⟨.string (keyBytes [.int .i64 a, .int .i64 b]), ?_⟩
  unfold keyOf pv
  rw [Try.underlying124]
  have hf : (Value.agg #[.int .i64 a, .int .i64 b]).formed Try.prog 124 = true := by simp [Value.formed, Try.underlying124, cellsP]
  simp only [ktP, hf, Bool.and_self, if_true]
  rw [hm]
  simp [Program.keyLits, Try.underlying124, Try.underlying2, cellsP, cells64, Value.cells, ha, hb, List.range_succ]
theorem pv_inj {a b c d : Int} (h : pv a b = pv c d) : a = c ∧ b = d := by
  unfold pv at h
  simp at h
  exact h
/-- block b is a map from pairs to bool of at most n entries, which says 'true' at (x, y) just if f does -/
def PSet (w : World) (b n : Nat) (f : Int → Int → Bool) : Prop :=
  ∃ D : DataW Unit, w.ownsMap Try.prog 124 (plainElem Try.prog 4) b n D ∧ ∀ x y l, keyOf Try.prog 124 (pv x y) = some l → D.atKey l (.lit (.bool false)) = .lit (.bool (f x y))
theorem PSet.lt {w : World} {b n : Nat} {f : Int → Int → Bool} (h : PSet w b n f) : b < w.heap.size := by
  obtain ⟨D, h1, _⟩ := h
  exact h1.lt
theorem PSet.kept {w w' : World} {b n : Nat} {f : Int → Int → Bool} {row : Option Nat} (h : PSet w b n f) (hg : w.grownBy w' row) (hne : some b ≠ row) : PSet w' b n f := by
  obtain ⟨D, h1, h2⟩ := h
  exact ⟨D, h1.kept hg hne, h2⟩
theorem PSet.below {w w' : World} {b n : Nat} {f : Int → Int → Bool} (h : PSet w b n f) (hb : Below w.heap.size w w') : PSet w' b n f := by
  obtain ⟨D, ⟨es, clock, h1, h2⟩, h3⟩ := h
  have hlt : b < w.heap.size := (Array.getElem?_eq_some_iff.1 h1).1
  exact ⟨D, ⟨es, clock, (hb.block b hlt).trans h1, h2⟩, h3⟩
theorem PSet.made (w : World) : PSet (w.alloc (.map #[] 0)) w.heap.size 0 (fun _ _ => false) :=
  ⟨.map [], World.ownsMap_made _ _ _ _, fun x y l _ => Go.Maps.atKey_of_not_has rfl _⟩
theorem PSet.look {w : World} {b n : Nat} {f : Int → Int → Bool} (h : PSet w b n f) (x y : Int) (hx : (Lit.int .i64 x).wf = true) (hy : (Lit.int .i64 y).wf = true) :
    (Instr.lookup 102 (.map (some b)) (.agg #[.int .i64 x, .int .i64 y]) false).run Try.prog w = .ok (.bool (f x y)) w := by
  obtain ⟨D, h1, h2⟩ := h
  obtain ⟨l, hl⟩ := key_pair x y hx hy
  obtain ⟨v, ps, hrun, hv⟩ := h1.lookup keyedP Try.underlying102 (zeroBool _) (plainElem_bool Try.underlying4 false) hl
  obtain ⟨c, rfl, e⟩ := plainElem_bool_inv Try.underlying4 hv
  show (Instr.lookup _ _ (pv x y) _).run _ _ = _
  rw [hrun]
  rw [h2 x y l hl] at e
  simp only [Prod.mk.injEq, DataW.lit.injEq, Lit.bool.injEq] at e
  rw [e.1]
theorem PSet.store {w : World} {b n : Nat} {f : Int → Int → Bool} (h : PSet w b n f) (x y : Int) (hx : (Lit.int .i64 x).wf = true) (hy : (Lit.int .i64 y).wf = true) (hn : n < maxLen) :
    ∃ w', (Instr.mapUpdate 102 (.map (some b)) (.agg #[.int .i64 x, .int .i64 y]) (.bool true)).run Try.prog w = .ok () w' ∧ PSet w' b (n + 1) (fun p q => if p = x ∧ q = y then true else f p q) ∧ w.grownBy w' (some b) := by
  obtain ⟨D, h1, h2⟩ := h
  obtain ⟨l, hl⟩ := key_pair x y hx hy
  obtain ⟨w', r1, r2, r3⟩ := h1.update keyedP Try.underlying102 hn hl (plainElem_bool Try.underlying4 true)
  refine ⟨w', r1, ⟨_, r2, fun p q l' hl' => ?_⟩, r3⟩
  by_cases he : l' = l
  · subst he
    obtain ⟨rfl, rfl⟩ := pv_inj (keyedP.inj hl hl')
    rw [Go.Maps.atKey_put_same (h1.isMap) (keyedP.key hl)]
    simp
  · rw [Go.Maps.atKey_put_other he, h2 p q l' hl']
    have : ¬ (p = x ∧ q = y) := by
      rintro ⟨rfl, rfl⟩
      rw [hl] at hl'
      injection hl' with e
      exact he e.symm
    simp [this]
theorem wpList_pset_true {w : World} {ops : Array Oper} {rest : List Oper} {o : Oper} {a : Act} {Q : Exit → Act → World → Prop}
    (hg : o.guard = none) (m x v : Operand) (hop : o.op = Op.mapUpdate 102 m x v) (b n : Nat) (f : Int → Int → Bool) (y z : Int)
    (hm : a.eval m = .map (some b)) (hx : a.eval x = .agg #[.int .i64 y, .int .i64 z]) (hv : a.eval v = .bool true) (h : PSet w b n f) (hn : n < maxLen) (hy : (Lit.int .i64 y).wf = true) (hz : (Lit.int .i64 z).wf = true)
    (hK : ∀ w', PSet w' b (n + 1) (fun p q => if p = y ∧ q = z then true else f p q) → w.grownBy w' (some b) → wpList Try.prog ops Q rest (a.put o.dst undef) w') :
    wpList Try.prog ops Q (o :: rest) a w := by
  refine wpList_plain hg fun K' hK' => ?_
  obtain ⟨w', hrun, r1, r2⟩ := h.store y z hy hz hn
  unfold Oper.wp
  simp [execOp, hop, hm, hx, hv, hrun, Result.andThen]
  exact hK' _ _ (hK w' r1 r2)
end Go.Proofs.Ytobhmoohalkijaa
