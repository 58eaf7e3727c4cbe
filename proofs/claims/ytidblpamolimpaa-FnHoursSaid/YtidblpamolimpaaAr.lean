/- Arrays: a block of values, loaded and stored whole. -/
import Derived.Test.YtidblpamolimpaaLaw
import Derived.Deep.WholeRow
namespace Go.Proofs.Ytidblpamolimpaa
open Go.ChangeShapes Go.WideShapes Go.ChangeAt Go.RowKit
set_option linter.unusedVariables false
set_option linter.unusedSimpArgs false
set_option maxRecDepth 100000

/-- a block that holds these values -/
def ArrAt (w : World) (g : Nat) (vs : List Value) (t : TypeId) : Prop := w.heap[g]? = some (.cells vs.toArray t (0, 0))
theorem ArrAt.cell {w : World} {g : Nat} {vs : List Value} {t : TypeId} (h : ArrAt w g vs t) (k : Nat) : w.cell? ⟨g, k, none⟩ = vs[k]? := by
  unfold ArrAt at h
  simp [World.cell?, h]
theorem ArrAt.f0 {w : World} {g : Nat} {vs : List Value} {t : TypeId} (h : ArrAt w g vs t) (o : Nat) : w.frozen? ⟨g, o, none⟩ = false := by
  unfold ArrAt at h; simp [World.frozen?, h]
theorem ArrAt.lt {w : World} {g : Nat} {vs : List Value} {t : TypeId} (h : ArrAt w g vs t) : g < w.heap.size := by
  unfold ArrAt at h
  rcases Nat.lt_or_ge g w.heap.size with h1 | h1
  · exact h1
  · rw [Array.getElem?_eq_none h1] at h; cases h
theorem ArrAt.below {w w' : World} {g : Nat} {vs : List Value} {t : TypeId} (h : ArrAt w g vs t) (hb : Below w.heap.size w w') : ArrAt w' g vs t := by
  have := hb.block g h.lt
  unfold ArrAt at h ⊢
  rw [this, h]
theorem ArrAt.alloc {w : World} {g : Nat} {vs : List Value} {t : TypeId} (h : ArrAt w g vs t) (o : Obj) : ArrAt (w.alloc o) g vs t := h.below ((Below.refl _ _).alloc (Nat.le_refl _) _)
theorem ArrAt.draws {w : World} {g : Nat} {vs : List Value} {t : TypeId} (h : ArrAt w g vs t) (k : Nat) : ArrAt (w.drewN k) g vs t := h
theorem ArrAt.at (w : World) (g : Nat) (vs : List Value) (t : TypeId) (h : g = w.heap.size) : ArrAt (w.alloc (.cells vs.toArray t)) g vs t := by subst h; exact heap_alloc_new w _
theorem ArrAt.put {w : World} {g : Nat} {vs : List Value} {t : TypeId} (h : ArrAt w g vs t) (k : Nat) (u : Value) : ArrAt (w.setCell ⟨g, k, none⟩ u) g (vs.set k u) t := by
  have := heap_setCell_same w g k _ _ u h
  unfold ArrAt
  rw [this]
  simp
theorem ArrAt.other {w : World} {g b o : Nat} {vs : List Value} {t : TypeId} (hg : b ≠ g) (h : ArrAt w g vs t) (u : Value) : ArrAt (w.setCell ⟨b, o, none⟩ u) g vs t := by
  unfold ArrAt at h ⊢
  rw [Below.heap_setCell _ _ _ _ (by show g ≠ b; omega)]; exact h
/-- an array being filled from the front -/
def arrV (f : Nat → Value) (z : Value) (n k : Nat) : List Value := (List.range n).map fun i => if i < k then f i else z
theorem arrV_set (f : Nat → Value) (z : Value) (n k : Nat) : (arrV f z n k).set k (f k) = arrV f z n (k + 1) := by
  apply List.ext_getElem?
  intro i
  unfold arrV
  by_cases hn : i < n
  · by_cases h : k = i
    · subst h; simp [hn]
    · have : i < k ↔ i < k + 1 := by omega
      simp [hn, h, this]
  · rw [List.getElem?_eq_none (by simp; omega), List.getElem?_eq_none (by simp; omega)]
theorem arrV_at (f : Nat → Value) (z : Value) (n k i : Nat) (h : i < n) : (arrV f z n k)[i]? = some (if i < k then f i else z) := by simp [arrV, h]
/-- .. being changed from the front -/
def arrM (f g : Nat → Value) (n k : Nat) : List Value := (List.range n).map fun i => if i < k then f i else g i
theorem arrM_set (f g : Nat → Value) (n k : Nat) : (arrM f g n k).set k (f k) = arrM f g n (k + 1) := by
  apply List.ext_getElem?
  intro i
  unfold arrM
  by_cases hn : i < n
  · by_cases h : k = i
    · subst h; simp [hn]
    · have : i < k ↔ i < k + 1 := by omega
      simp [hn, h, this]
  · rw [List.getElem?_eq_none (by simp; omega), List.getElem?_eq_none (by simp; omega)]
theorem arrM_at (f g : Nat → Value) (n k i : Nat) (h : i < n) : (arrM f g n k)[i]? = some (if i < k then f i else g i) := by simp [arrM, h]
theorem ArrAt.own {w : World} {g base n : Nat} {vs : List Value} {t : TypeId} (h : ArrAt w g vs t) (size : Nat) (hg : base ≤ g) (hn : vs.length = n * size) (hm : n ≤ maxLen) : w.ownsRow base t size (.slice (some ⟨g, 0, none⟩) n n) n vs :=
  ⟨hn, .inr ⟨g, n, vs.toArray, rfl, hg, h, Nat.le_refl _, hm, by simpa using hn, by simp [← hn]⟩⟩

theorem wpR_val {P : Program} {ops : Array Oper} {Q : Exit → Act → World → Prop} {a : Act} {w w2 : World} {rest : List Oper} {o : Oper} (hg : o.guard = none) (v : Value) (hrun : (execOp a.eval o).run P w = .ok (.value v) w2) (hK : wpList P ops Q rest (a.put o.dst v) w2) : wpList P ops Q (o :: rest) a w := by
  refine wpList_plain hg fun K hK' => ?_
  unfold Oper.wp
  rw [hrun]
  exact hK' _ _ hK
theorem wpR_skp {P : Program} {ops : Array Oper} {Q : Exit → Act → World → Prop} {a : Act} {w w2 : World} {rest : List Oper} {o : Oper} (hg : o.guard = none) (hrun : (execOp a.eval o).run P w = .ok .skip w2) (hK : wpList P ops Q rest (a.put o.dst undef) w2) : wpList P ops Q (o :: rest) a w := by
  refine wpList_plain hg fun K hK' => ?_
  unfold Oper.wp
  rw [hrun]
  exact hK' _ _ hK
theorem wpR_sto {P : Program} {ops : Array Oper} {Q : Exit → Act → World → Prop} {a : Act} {w w2 : World} {rest : List Oper} {o : Oper} (hg : o.guard = none) (t : TypeId) (p x : Operand) (hop : o.op = Op.store t p x) (pv xv : Value) (hp : a.eval p = pv) (hx : a.eval x = xv) (hrun : (Instr.storeAt t pv xv).run P w = .ok () w2) (hK : wpList P ops Q rest (a.put o.dst undef) w2) : wpList P ops Q (o :: rest) a w := by
  refine wpR_skp hg (w2 := w2) ?_ hK
  unfold execOp
  simp only [hop, hp, hx]
  rw [Sem.run_bind, hrun]
  rfl
theorem wpR_lod {P : Program} {ops : Array Oper} {Q : Exit → Act → World → Prop} {a : Act} {w : World} {rest : List Oper} {o : Oper} (hg : o.guard = none) (t : TypeId) (p : Operand) (hop : o.op = Op.load t p) (pv v : Value) (hp : a.eval p = pv) (hrun : (Instr.loadAt t pv).run P w = .ok v w) (hK : wpList P ops Q rest (a.put o.dst v) w) : wpList P ops Q (o :: rest) a w := by
  refine wpR_val hg v (w2 := w) ?_ hK
  unfold execOp
  simp only [hop, hp]
  rw [Sem.run_bind, hrun]
  rfl
theorem ArrAt.load {P : Program} {w : World} {g : Nat} {vs : List Value} {t : TypeId} (h : ArrAt w g vs t) (n : Nat) (e : TypeId) (hu : P.underlying t = some (.array n e)) (hi : (P.info? t).map (·.size) = some vs.toArray.size) :
    (Instr.loadAt t (.pointer (some ⟨g, 0, none⟩))).run P w = .ok (.agg vs.toArray) w := by
  simp only [Instr.loadAt, Instr.sureAddr, Sem.run_bind, Sem.run_pure, Result.andThen]
  exact run_loadVar_row _ _ t t vs.toArray (0, 0) _ h hu rfl hi
theorem ArrAt.store {P : Program} {w : World} {g : Nat} {vs : List Value} {t : TypeId} (h : ArrAt w g vs t) (c' : Array Value) (hi : (P.info? t).map (·.size) = some c'.size) (ho : vs.toArray.size = c'.size) (h1 : c'.all (·.oneCell') = true) :
    (Instr.storeAt t (.pointer (some ⟨g, 0, none⟩)) (.agg c')).run P w = .ok () (w.setRow g c') := by
  simp only [Instr.storeAt, Instr.sureAddr, Sem.run_bind, Sem.run_pure, Result.andThen]
  exact run_storeVar_row _ _ t t vs.toArray c' h hi ho h1
theorem setRow_at {w : World} {g : Nat} {vs : List Value} {t : TypeId} (h : ArrAt w g vs t) (c' : Array Value) : ArrAt (w.setRow g c') g c'.toList t := by
  unfold ArrAt at h ⊢
  simp [World.setRow, Array.getElem?_modify, h]
theorem setRow_below {B : Nat} {a w : World} {g : Nat} (hb : Below B a w) (hg : B ≤ g) (c' : Array Value) : Below B a (w.setRow g c') :=
  ⟨hb.os, hb.tape, hb.output, by simpa [World.setRow] using hb.size, fun k hk => by
    rw [← hb.block k hk]
    simp only [World.setRow, Array.getElem?_modify]
    rw [if_neg (by omega)]⟩
theorem ArrAt.from {P : Program} {w : World} {g : Nat} {vs : List Value} {t : TypeId} (h : ArrAt w g vs t) (n : Nat) (hn : vs.length = n) : (loadCellsFrom ⟨g, 0, none⟩ 0 n #[]).run P w = .ok vs.toArray w := by
  subst hn
  have := run_loadCells_list (P := P) w ⟨g, 0, none⟩ vs (fun j v hv => by
    have hadd : (⟨g, 0, none⟩ : Addr).add j = ⟨g, j, none⟩ := by unfold Addr.add; split <;> simp_all
    rw [hadd, h.cell j]; exact hv)
  simpa [loadCells] using this
end Go.Proofs.Ytidblpamolimpaa
