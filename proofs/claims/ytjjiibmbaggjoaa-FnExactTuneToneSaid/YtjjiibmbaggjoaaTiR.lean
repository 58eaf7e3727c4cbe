/- Whole arrays loaded and stored in one step. -/
import Derived.Test.YtjjiibmbaggjoaaTiA
import Derived.Deep.WholeRow
namespace Go.Proofs.Ytjjiibmbaggjoaa
open Go.ChangeShapes Go.WideShapes Go.ChangeAt Go.RowKit
set_option linter.unusedVariables false
set_option linter.unusedSimpArgs false
set_option maxRecDepth 100000

theorem wpR_val {P : Program} {ops : Array Oper} {Q : Exit → Act → World → Prop} {a : Act} {w w2 : World} {rest : List Oper} {o : Oper} (hg : o.guard = none) (v : Value) (hrun : (execOp a.eval o).run P w = .ok (.value v) w2) (hK : wpList P ops Q rest (a.put o.dst v) w2) : wpList P ops Q (o :: rest) a w := by
  refine wpList_plain hg fun K hK' => ?_
  unfold Oper.wp
  rw [hrun]
  exact hK' _ _ hK
theorem wpR_skp {P : Program} {ops : Array Oper} {Q : Exit → Act → World → Prop} {a : Act} {w w2 : World} {rest : List Oper} {o : Oper} (hg : o.guard = none) (hrun : (execOp a.eval o).run P w = .ok .skip w2) (hK : wpList P ops Q rest (a.put o.dst undef) w2) : wpList P ops Q (o :: rest) a w := by
  refine wpList_plain hg fun K hK' => ?_
  unfold Oper.wp
  rw [hrun]
  exact hK' _ _ hK
theorem wpR_sto {P : Program} {ops : Array Oper} {Q : Exit → Act → World → Prop} {a : Act} {w w2 : World} {rest : List Oper} {o : Oper} (hg : o.guard = none) (t : TypeId) (p x : Operand) (hop : o.op = Op.store t p x) (pv xv : Value) (hp : a.eval p = pv) (hx : a.eval x = xv) (hrun : (Instr.storeAt t pv xv).run P w = .ok () w2) (hK : wpList P ops Q rest (a.put o.dst undef) w2) : wpList P ops Q (o :: rest) a w := by
  refine wpR_skp hg (w2 := w2) ?_ hK
  unfold execOp
  simp only [hop, hp, hx]
  rw [Sem.run_bind, hrun]
  rfl
theorem wpR_lod {P : Program} {ops : Array Oper} {Q : Exit → Act → World → Prop} {a : Act} {w : World} {rest : List Oper} {o : Oper} (hg : o.guard = none) (t : TypeId) (p : Operand) (hop : o.op = Op.load t p) (pv v : Value) (hp : a.eval p = pv) (hrun : (Instr.loadAt t pv).run P w = .ok v w) (hK : wpList P ops Q rest (a.put o.dst v) w) : wpList P ops Q (o :: rest) a w := by
  refine wpR_val hg v (w2 := w) ?_ hK
  unfold execOp
  simp only [hop, hp]
  rw [Sem.run_bind, hrun]
  rfl
theorem ArrAt.load {P : Program} {w : World} {g : Nat} {vs : List Value} {t : TypeId} (h : ArrAt w g vs t) (n : Nat) (e : TypeId) (hu : P.underlying t = some (.array n e)) (hi : (P.info? t).map (·.size) = some vs.toArray.size) :
    (Instr.loadAt t (.pointer (some ⟨g, 0, none⟩))).run P w = .ok (.agg vs.toArray) w := by
  simp only [Instr.loadAt, Instr.sureAddr, Sem.run_bind, Sem.run_pure, Result.andThen]
  exact run_loadVar_row _ _ t t vs.toArray (0, 0) _ h hu rfl hi
theorem ArrAt.store {P : Program} {w : World} {g : Nat} {vs : List Value} {t : TypeId} (h : ArrAt w g vs t) (c' : Array Value) (hi : (P.info? t).map (·.size) = some c'.size) (ho : vs.toArray.size = c'.size) (h1 : c'.all (·.oneCell') = true) :
    (Instr.storeAt t (.pointer (some ⟨g, 0, none⟩)) (.agg c')).run P w = .ok () (w.setRow g c') := by
  simp only [Instr.storeAt, Instr.sureAddr, Sem.run_bind, Sem.run_pure, Result.andThen]
  exact run_storeVar_row _ _ t t vs.toArray c' h hi ho h1
theorem setRow_at {w : World} {g : Nat} {vs : List Value} {t : TypeId} (h : ArrAt w g vs t) (c' : Array Value) : ArrAt (w.setRow g c') g c'.toList t := by
  unfold ArrAt at h ⊢
  simp [World.setRow, Array.getElem?_modify, h]
theorem setRow_below {B : Nat} {a w : World} {g : Nat} (hb : Below B a w) (hg : B ≤ g) (c' : Array Value) : Below B a (w.setRow g c') :=
  ⟨hb.os, hb.tape, hb.output, by simpa [World.setRow] using hb.size, fun k hk => by
    rw [← hb.block k hk]
    simp only [World.setRow, Array.getElem?_modify]
    rw [if_neg (by omega)]⟩
theorem ArrAt.from {P : Program} {w : World} {g : Nat} {vs : List Value} {t : TypeId} (h : ArrAt w g vs t) (n : Nat) (hn : vs.length = n) : (loadCellsFrom ⟨g, 0, none⟩ 0 n #[]).run P w = .ok vs.toArray w := by
  subst hn
  have := run_loadCells_list (P := P) w ⟨g, 0, none⟩ vs (fun j v hv => by
    have hadd : (⟨g, 0, none⟩ : Addr).add j = ⟨g, j, none⟩ := by unfold Addr.add; split <;> simp_all
    rw [hadd, h.cell j]; exact hv)
  simpa [loadCells] using this
end Go.Proofs.Ytjjiibmbaggjoaa
