/- The program's JustTuning. -/
import Derived.Test.YtbnhcacjlkmfeaaTuG
import Derived.Test.YtbnhcacjlkmfeaaTuP
import Derived.Test.YtbnhcacjlkmfeaaTiA
import Derived.Deep.WholeRow
namespace Go.Proofs.Ytbnhcacjlkmfeaa
open Go.ChangeShapes Go.WideShapes Go.ChangeAt Go.RowKit
set_option linter.unusedVariables false
set_option linter.unusedSimpArgs false
set_option maxRecDepth 100000

theorem wpList_val {P : Program} {ops : Array Oper} {Q : Exit → Act → World → Prop} {a : Act} {w w2 : World} {rest : List Oper} {o : Oper} (hg : o.guard = none) (v : Value) (hrun : (execOp a.eval o).run P w = .ok (.value v) w2) (hK : wpList P ops Q rest (a.put o.dst v) w2) : wpList P ops Q (o :: rest) a w := by
  refine wpList_plain hg fun K hK' => ?_
  unfold Oper.wp
  rw [hrun]
  exact hK' _ _ hK
theorem wpList_skp {P : Program} {ops : Array Oper} {Q : Exit → Act → World → Prop} {a : Act} {w w2 : World} {rest : List Oper} {o : Oper} (hg : o.guard = none) (hrun : (execOp a.eval o).run P w = .ok .skip w2) (hK : wpList P ops Q rest (a.put o.dst undef) w2) : wpList P ops Q (o :: rest) a w := by
  refine wpList_plain hg fun K hK' => ?_
  unfold Oper.wp
  rw [hrun]
  exact hK' _ _ hK
theorem wpList_sto {P : Program} {ops : Array Oper} {Q : Exit → Act → World → Prop} {a : Act} {w w2 : World} {rest : List Oper} {o : Oper} (hg : o.guard = none) (t : TypeId) (p x : Operand) (hop : o.op = Op.store t p x) (pv xv : Value) (hp : a.eval p = pv) (hx : a.eval x = xv) (hrun : (Instr.storeAt t pv xv).run P w = .ok () w2) (hK : wpList P ops Q rest (a.put o.dst undef) w2) : wpList P ops Q (o :: rest) a w := by
  refine wpList_skp hg (w2 := w2) ?_ hK
  unfold execOp
  simp only [hop, hp, hx]
  rw [Sem.run_bind, hrun]
  rfl
theorem wpList_lod {P : Program} {ops : Array Oper} {Q : Exit → Act → World → Prop} {a : Act} {w : World} {rest : List Oper} {o : Oper} (hg : o.guard = none) (t : TypeId) (p : Operand) (hop : o.op = Op.load t p) (pv v : Value) (hp : a.eval p = pv) (hrun : (Instr.loadAt t pv).run P w = .ok v w) (hK : wpList P ops Q rest (a.put o.dst v) w) : wpList P ops Q (o :: rest) a w := by
  refine wpList_val hg v (w2 := w) ?_ hK
  unfold execOp
  simp only [hop, hp]
  rw [Sem.run_bind, hrun]
  rfl
/-- the cells of the just tuning -/
def justC : Array Value := #[.int .i64 1, .int .i64 1, .int .i64 16, .int .i64 15, .int .i64 9, .int .i64 8, .int .i64 6, .int .i64 5, .int .i64 5, .int .i64 4, .int .i64 4, .int .i64 3, .int .i64 45, .int .i64 32, .int .i64 3, .int .i64 2, .int .i64 8, .int .i64 5, .int .i64 5, .int .i64 3, .int .i64 9, .int .i64 5, .int .i64 15, .int .i64 8]
theorem just_list : justC.toList = pcl justL := rfl
theorem info_just : (Try.prog.info? 59).map (·.size) = some justC.size := by kernel_rfl
theorem just_store (w : World) : (Instr.storeAt 59 (.pointer (some ⟨w.heap.size, 0, none⟩)) (.agg justC)).run Try.prog (w.alloc (.cells #[.int .i64 0, .int .i64 0, .int .i64 0, .int .i64 0, .int .i64 0, .int .i64 0, .int .i64 0, .int .i64 0, .int .i64 0, .int .i64 0, .int .i64 0, .int .i64 0, .int .i64 0, .int .i64 0, .int .i64 0, .int .i64 0, .int .i64 0, .int .i64 0, .int .i64 0, .int .i64 0, .int .i64 0, .int .i64 0, .int .i64 0, .int .i64 0] 59)) = .ok () (w.alloc (.cells justC 59)) := run_storeAt_new w 59 _ justC info_just rfl (by kernel_rfl)
set_option maxHeartbeats 1000000 in
theorem impl_just (w : World) : Calls Try.prog 18 #[] w (TunOutE justS justL w) := by
  go_enter Try.func18, Try.ntmps18
  refine wp_seq ?_
  refine wp_region_lit ?_
  refine wpList_val rfl (.pointer (some ⟨w.heap.size, 0, none⟩)) (w2 := w.alloc (.cells #[.string ⟨#[]⟩, .slice none 0 0] 29)) (by kernel_rfl) ?_
  refine wpList_nil ?_
  have K1 : Bx (BoxAt (w.alloc (.cells #[.string ⟨#[]⟩, .slice none 0 0] 29)) w.heap.size (.string ⟨#[]⟩) (.slice none 0 0) 29) := Bx.mk (BoxAt.at _ _ _ _ _ rfl)
  have B1 : Bx (Below w.heap.size w (w.alloc (.cells #[.string ⟨#[]⟩, .slice none 0 0] 29))) := Bx.mk ((Below.refl _ _).alloc (Nat.le_refl _) _)
  have S1 : Bx ((w.alloc (.cells #[.string ⟨#[]⟩, .slice none 0 0] 29)).heap.size = w.heap.size + 1) := Bx.mk (by simp)
  generalize w.alloc (.cells #[.string ⟨#[]⟩, .slice none 0 0] 29) = W at *
  show Code.wp _ _ _ _ _
  refine wp_seq ?_
  refine wp_region_lit ?_
  refine wpList_val rfl (.agg #[.int .i64 1, .int .i64 1]) (w2 := W) (by kernel_rfl) ?_
  refine wpList_val rfl (.agg #[.int .i64 16, .int .i64 15]) (w2 := W) (by kernel_rfl) ?_
  refine wpList_val rfl (.agg #[.int .i64 9, .int .i64 8]) (w2 := W) (by kernel_rfl) ?_
  refine wpList_val rfl (.agg #[.int .i64 6, .int .i64 5]) (w2 := W) (by kernel_rfl) ?_
  refine wpList_val rfl (.agg #[.int .i64 5, .int .i64 4]) (w2 := W) (by kernel_rfl) ?_
  refine wpList_val rfl (.agg #[.int .i64 4, .int .i64 3]) (w2 := W) (by kernel_rfl) ?_
  refine wpList_val rfl (.agg #[.int .i64 45, .int .i64 32]) (w2 := W) (by kernel_rfl) ?_
  refine wpList_val rfl (.agg #[.int .i64 3, .int .i64 2]) (w2 := W) (by kernel_rfl) ?_
  refine wpList_val rfl (.agg #[.int .i64 8, .int .i64 5]) (w2 := W) (by kernel_rfl) ?_
  refine wpList_val rfl (.agg #[.int .i64 5, .int .i64 3]) (w2 := W) (by kernel_rfl) ?_
  refine wpList_val rfl (.agg #[.int .i64 9, .int .i64 5]) (w2 := W) (by kernel_rfl) ?_
  refine wpList_val rfl (.agg #[.int .i64 15, .int .i64 8]) (w2 := W) (by kernel_rfl) ?_
  refine wpList_val rfl (.agg justC) (w2 := W) (by kernel_rfl) ?_
  refine wpList_val rfl (.pointer (some ⟨W.heap.size, 0, none⟩)) (w2 := W.alloc (.cells #[.int .i64 0, .int .i64 0, .int .i64 0, .int .i64 0, .int .i64 0, .int .i64 0, .int .i64 0, .int .i64 0, .int .i64 0, .int .i64 0, .int .i64 0, .int .i64 0, .int .i64 0, .int .i64 0, .int .i64 0, .int .i64 0, .int .i64 0, .int .i64 0, .int .i64 0, .int .i64 0, .int .i64 0, .int .i64 0, .int .i64 0, .int .i64 0] 59)) (by kernel_rfl) ?_
  refine wpList_sto rfl 59 _ _ rfl (.pointer (some ⟨W.heap.size, 0, none⟩)) (.agg justC) (by kernel_rfl) (by kernel_rfl) (just_store W) ?_
  refine wpList_nil ?_
  show Code.wp _ _ _ _ _
  have k10 := (K1.out.alloc (.cells justC 59)).c0
  have k11 := (K1.out.alloc (.cells justC 59)).c1
  have HA : Bx (ArrAt (W.alloc (.cells justC 59)) W.heap.size (pcl justL) 59) := Bx.mk (ArrAt.at W W.heap.size (pcl justL) 59 rfl)
  have HB : Bx (Below w.heap.size w (W.alloc (.cells justC 59))) := Bx.mk (B1.out.alloc B1.out.size _)
  have K2 := Bx.mk (K1.out.alloc (.cells justC 59))
  have SW : Bx (w.heap.size < W.heap.size) := Bx.mk (by have := S1.out; omega)
  generalize hWW : W.alloc (.cells justC 59) = W2 at *
  have kf := K2.out.f0 0
  have kf1 := K2.out.f0 1
  have kl := K2.out.lt
  have al := HA.out.lt
  clear hWW
  have HAo : Bx (W2.ownsRow W.heap.size 59 2 (.slice (some ⟨W.heap.size, 0, none⟩) 12 12) justL.length (pcl justL)) := Bx.mk (HA.out.own (base := W.heap.size) (n := 12) 2 (Nat.le_refl _) rfl (by decide))
  go_wp2_with (fail)
  have P1 := (K2.out.put0 (.string ⟨#[106, 117, 115, 116]⟩)).put1 (.slice (some ⟨W.heap.size, 0, none⟩) 12 12)
  refine bodyPost_ret (v := .agg #[.string ⟨#[106, 117, 115, 116]⟩, .slice (some ⟨W.heap.size, 0, none⟩) 12 12]) (by simp [results, Try.results18, go_sem, P1.c0, P1.c1]) rfl ?_
  exact ⟨_, _, rfl, own_down (Nat.le_of_lt SW.out) (own_set (own_set HAo.out SW.out _ _) SW.out _ _), (HB.out.setCell (Nat.le_refl _) _).setCell (Nat.le_refl _) _⟩
end Go.Proofs.Ytbnhcacjlkmfeaa
