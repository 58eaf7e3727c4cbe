/- 'laws.FnExactCoveredBy' returns true at every input: CoveredBy on both sides is one function. -/
import Derived.Test.YtobhmoohalkijaaLaw
import Derived.Deep.WholeRow
import Derived.Test.YtobhmoohalkijaaPi
import Derived.Test.YtobhmoohalkijaaPo2
import Derived.WalkMore
import Derived.StillTailTactics
import Derived.Laws.BitsAllLaws
import Derived.Laws.BitsLemmas
import Derived.Test.YtobhmoohalkijaaPl
namespace Go.Proofs.Ytobhmoohalkijaa
open Go.ChangeShapes Go.WideShapes Go.ChangeAt Go.RowKit
set_option linter.unusedVariables false
set_option linter.unusedSimpArgs false
set_option maxRecDepth 100000

/-- a block that holds these values -/
def ArrAt (w : World) (g : Nat) (vs : List Value) (t : TypeId) : Prop := w.heap[g]? = some (.cells vs.toArray t (0, 0))
theorem ArrAt.cell {w : World} {g : Nat} {vs : List Value} {t : TypeId} (h : ArrAt w g vs t) (k : Nat) : w.cell? ⟨g, k, none⟩ = vs[k]? := by
  unfold ArrAt at h
  simp [World.cell?, h]
theorem ArrAt.f0 {w : World} {g : Nat} {vs : List Value} {t : TypeId} (h : ArrAt w g vs t) (o : Nat) : w.frozen? ⟨g, o, none⟩ = false := by
  unfold ArrAt at h; simp [World.frozen?, h]
theorem ArrAt.lt {w : World} {g : Nat} {vs : List Value} {t : TypeId} (h : ArrAt w g vs t) : g < w.heap.size := by
  unfold ArrAt at h
  rcases Nat.lt_or_ge g w.heap.size with h1 | h1
  · exact h1
  · rw [Array.getElem?_eq_none h1] at h; cases h
theorem ArrAt.below {w w' : World} {g : Nat} {vs : List Value} {t : TypeId} (h : ArrAt w g vs t) (hb : Below w.heap.size w w') : ArrAt w' g vs t := by
  have := hb.block g h.lt
  unfold ArrAt at h ⊢
  rw [this, h]
theorem ArrAt.alloc {w : World} {g : Nat} {vs : List Value} {t : TypeId} (h : ArrAt w g vs t) (o : Obj) : ArrAt (w.alloc o) g vs t := h.below ((Below.refl _ _).alloc (Nat.le_refl _) _)
theorem ArrAt.draws {w : World} {g : Nat} {vs : List Value} {t : TypeId} (h : ArrAt w g vs t) (k : Nat) : ArrAt (w.drewN k) g vs t := h
theorem ArrAt.at (w : World) (g : Nat) (vs : List Value) (t : TypeId) (h : g = w.heap.size) : ArrAt (w.alloc (.cells vs.toArray t)) g vs t := by subst h; exact heap_alloc_new w _
theorem ArrAt.put {w : World} {g : Nat} {vs : List Value} {t : TypeId} (h : ArrAt w g vs t) (k : Nat) (u : Value) : ArrAt (w.setCell ⟨g, k, none⟩ u) g (vs.set k u) t := by
  have := heap_setCell_same w g k _ _ u h
  unfold ArrAt
  rw [this]
  simp
theorem ArrAt.other {w : World} {g b o : Nat} {vs : List Value} {t : TypeId} (hg : b ≠ g) (h : ArrAt w g vs t) (u : Value) : ArrAt (w.setCell ⟨b, o, none⟩ u) g vs t := by
  unfold ArrAt at h ⊢
  rw [Below.heap_setCell _ _ _ _ (by show g ≠ b; omega)]; exact h
/-- an array being filled from the front -/
def arrV (f : Nat → Value) (z : Value) (n k : Nat) : List Value := (List.range n).map fun i => if i < k then f i else z
theorem arrV_set (f : Nat → Value) (z : Value) (n k : Nat) : (arrV f z n k).set k (f k) = arrV f z n (k + 1) := by
  apply List.ext_getElem?
  intro i
  unfold arrV
  by_cases hn : i < n
  · by_cases h : k = i
    · subst h; simp [hn]
    · have : i < k ↔ i < k + 1 := by omega
      simp [hn, h, this]
  · rw [List.getElem?_eq_none (by simp; omega), List.getElem?_eq_none (by simp; omega)]
theorem arrV_at (f : Nat → Value) (z : Value) (n k i : Nat) (h : i < n) : (arrV f z n k)[i]? = some (if i < k then f i else z) := by simp [arrV, h]
/-- .. being changed from the front -/
def arrM (f g : Nat → Value) (n k : Nat) : List Value := (List.range n).map fun i => if i < k then f i else g i
theorem arrM_set (f g : Nat → Value) (n k : Nat) : (arrM f g n k).set k (f k) = arrM f g n (k + 1) := by
  apply List.ext_getElem?
  intro i
  unfold arrM
  by_cases hn : i < n
  · by_cases h : k = i
    · subst h; simp [hn]
    · have : i < k ↔ i < k + 1 := by omega
      simp [hn, h, this]
  · rw [List.getElem?_eq_none (by simp; omega), List.getElem?_eq_none (by simp; omega)]
theorem arrM_at (f g : Nat → Value) (n k i : Nat) (h : i < n) : (arrM f g n k)[i]? = some (if i < k then f i else g i) := by simp [arrM, h]
theorem ArrAt.own {w : World} {g base n : Nat} {vs : List Value} {t : TypeId} (h : ArrAt w g vs t) (size : Nat) (hg : base ≤ g) (hn : vs.length = n * size) (hm : n ≤ maxLen) : w.ownsRow base t size (.slice (some ⟨g, 0, none⟩) n n) n vs :=
  ⟨hn, .inr ⟨g, n, vs.toArray, rfl, hg, h, Nat.le_refl _, hm, by simpa using hn, by simp [← hn]⟩⟩

theorem wpR_val {P : Program} {ops : Array Oper} {Q : Exit → Act → World → Prop} {a : Act} {w w2 : World} {rest : List Oper} {o : Oper} (hg : o.guard = none) (v : Value) (hrun : (execOp a.eval o).run P w = .ok (.value v) w2) (hK : wpList P ops Q rest (a.put o.dst v) w2) : wpList P ops Q (o :: rest) a w := by
  refine wpList_plain hg fun K hK' => ?_
  unfold Oper.wp
  rw [hrun]
  exact hK' _ _ hK
theorem wpR_skp {P : Program} {ops : Array Oper} {Q : Exit → Act → World → Prop} {a : Act} {w w2 : World} {rest : List Oper} {o : Oper} (hg : o.guard = none) (hrun : (execOp a.eval o).run P w = .ok .skip w2) (hK : wpList P ops Q rest (a.put o.dst undef) w2) : wpList P ops Q (o :: rest) a w := by
  refine wpList_plain hg fun K hK' => ?_
  unfold Oper.wp
  rw [hrun]
  exact hK' _ _ hK
theorem wpR_sto {P : Program} {ops : Array Oper} {Q : Exit → Act → World → Prop} {a : Act} {w w2 : World} {rest : List Oper} {o : Oper} (hg : o.guard = none) (t : TypeId) (p x : Operand) (hop : o.op = Op.store t p x) (pv xv : Value) (hp : a.eval p = pv) (hx : a.eval x = xv) (hrun : (Instr.storeAt t pv xv).run P w = .ok () w2) (hK : wpList P ops Q rest (a.put o.dst undef) w2) : wpList P ops Q (o :: rest) a w := by
  refine wpR_skp hg (w2 := w2) ?_ hK
  unfold execOp
  simp only [hop, hp, hx]
  rw [Sem.run_bind, hrun]
  rfl
theorem wpR_lod {P : Program} {ops : Array Oper} {Q : Exit → Act → World → Prop} {a : Act} {w : World} {rest : List Oper} {o : Oper} (hg : o.guard = none) (t : TypeId) (p : Operand) (hop : o.op = Op.load t p) (pv v : Value) (hp : a.eval p = pv) (hrun : (Instr.loadAt t pv).run P w = .ok v w) (hK : wpList P ops Q rest (a.put o.dst v) w) : wpList P ops Q (o :: rest) a w := by
  refine wpR_val hg v (w2 := w) ?_ hK
  unfold execOp
  simp only [hop, hp]
  rw [Sem.run_bind, hrun]
  rfl
theorem ArrAt.load {P : Program} {w : World} {g : Nat} {vs : List Value} {t : TypeId} (h : ArrAt w g vs t) (n : Nat) (e : TypeId) (hu : P.underlying t = some (.array n e)) (hi : (P.info? t).map (·.size) = some vs.toArray.size) :
    (Instr.loadAt t (.pointer (some ⟨g, 0, none⟩))).run P w = .ok (.agg vs.toArray) w := by
  simp only [Instr.loadAt, Instr.sureAddr, Sem.run_bind, Sem.run_pure, Result.andThen]
  exact run_loadVar_row _ _ t t vs.toArray (0, 0) _ h hu rfl hi
theorem ArrAt.store {P : Program} {w : World} {g : Nat} {vs : List Value} {t : TypeId} (h : ArrAt w g vs t) (c' : Array Value) (hi : (P.info? t).map (·.size) = some c'.size) (ho : vs.toArray.size = c'.size) (h1 : c'.all (·.oneCell') = true) :
    (Instr.storeAt t (.pointer (some ⟨g, 0, none⟩)) (.agg c')).run P w = .ok () (w.setRow g c') := by
  simp only [Instr.storeAt, Instr.sureAddr, Sem.run_bind, Sem.run_pure, Result.andThen]
  exact run_storeVar_row _ _ t t vs.toArray c' h hi ho h1
theorem setRow_at {w : World} {g : Nat} {vs : List Value} {t : TypeId} (h : ArrAt w g vs t) (c' : Array Value) : ArrAt (w.setRow g c') g c'.toList t := by
  unfold ArrAt at h ⊢
  simp [World.setRow, Array.getElem?_modify, h]
theorem setRow_below {B : Nat} {a w : World} {g : Nat} (hb : Below B a w) (hg : B ≤ g) (c' : Array Value) : Below B a (w.setRow g c') :=
  ⟨hb.os, hb.tape, hb.output, by simpa [World.setRow] using hb.size, fun k hk => by
    rw [← hb.block k hk]
    simp only [World.setRow, Array.getElem?_modify]
    rw [if_neg (by omega)]⟩
theorem ArrAt.from {P : Program} {w : World} {g : Nat} {vs : List Value} {t : TypeId} (h : ArrAt w g vs t) (n : Nat) (hn : vs.length = n) : (loadCellsFrom ⟨g, 0, none⟩ 0 n #[]).run P w = .ok vs.toArray w := by
  subst hn
  have := run_loadCells_list (P := P) w ⟨g, 0, none⟩ vs (fun j v hv => by
    have hadd : (⟨g, 0, none⟩ : Addr).add j = ⟨g, j, none⟩ := by unfold Addr.add; split <;> simp_all
    rw [hadd, h.cell j]; exact hv)
  simpa [loadCells] using this
end Go.Proofs.Ytobhmoohalkijaa

namespace Go.Proofs.Ytobhmoohalkijaa
open Go.ChangeShapes Go.WideShapes Go.ChangeAt Go.RowKit
set_option linter.unusedVariables false
set_option linter.unusedSimpArgs false
set_option maxRecDepth 100000

theorem ints_set (T : List Int) (k : Nat) (v : Int) : (ints T).set k (.int .i64 v) = ints (T.set k v) := by simp [ints, List.map_set]
/-- the first k borders stand in a table -/
def BrdT (p T : List Int) (k : Nat) : Prop := ∀ i, i < k → ∃ x : Nat, T.getD i 0 = (x : Int) ∧ Brd p (i + 1) x
theorem BrdT.step {p T : List Int} {k b : Nat} (h : BrdT p T k) (h8 : T.length = 8) (hk : k < 8) (hb : Brd p (k + 1) b) : Bx (BrdT p (T.set k (b : Int)) (k + 1)) := Bx.mk (fun i hi => by
  by_cases hik : i = k
  · subst hik
    exact ⟨b, by simp [List.getD, h8, hk], hb⟩
  · obtain ⟨x, h1, h2⟩ := h i (by omega)
    exact ⟨x, by rw [← h1]; simp only [List.getD]; rw [List.getElem?_set_ne (fun e => hik e.symm)], h2⟩)
theorem info_brd (T : List Int) (h : T.length = 8) : (Try.prog.info? 68).map (·.size) = some (ints T).toArray.size := by
  have h0 : (Try.prog.info? 68).map (·.size) = some 8 := by kernel_rfl
  rw [h0]; simp [ints, h]
theorem ints_one (T : List Int) : (ints T).toArray.all (·.oneCell') = true := by simp [ints, Value.oneCell']
theorem ints_zero8 : ints (List.replicate 8 0) = [.int .i64 0, .int .i64 0, .int .i64 0, .int .i64 0, .int .i64 0, .int .i64 0, .int .i64 0, .int .i64 0] := rfl
set_option maxHeartbeats 8000000 in
theorem impl_borders (v : Value) (p : List Int) (w : World) (h : IntsAt w v p) (h1 : 1 ≤ p.length) (h8 : p.length ≤ 8) :
    Calls Try.prog 57 #[v] w fun e w' => ∃ T : List Int, e = .returned (.agg (ints T).toArray) ∧ T.length = 8 ∧ BrdT p T p.length ∧ Below w.heap.size w w' := by
  obtain ⟨A, c, rfl⟩ := ints_form h
  have HI := Bx.mk h
  clear h
  go_enter Try.func57, Try.ntmps57
  go_wp2_with (fail)
  go_loopw [4, 5] (fun bv i wr => ∃ (k b : Nat) (T : List Int), (1 ≤ k ∧ k ≤ p.length) ∧ i = .int .i64 k ∧ bv = .int .i64 b ∧ Bx (Brd p k b) ∧ Bx (BrdT p T k) ∧ Bx (T.length = 8) ∧ Bx (ArrAt wr (w.heap.size + 1) (ints T) 68) ∧ Bx (ArrAt wr w.heap.size (ints (List.replicate 8 0)) 68) ∧ Bx (Below w.heap.size w wr)) (fun _ i _ => p.length - (intOf i).toNat)
  case atStart =>
    refine ⟨1, 0, List.replicate 8 0, by omega, by first | rfl | go_num, by first | rfl | go_num, Bx.mk (Brd.one p), Bx.mk (fun i hi => ⟨0, ?_, ?_⟩), Bx.mk rfl, Bx.mk ?_, Bx.mk ?_, Bx.mk (((Below.refl _ _).alloc (Nat.le_refl _) _).alloc (by simp) _)⟩
    · obtain rfl : i = 0 := by omega
      rfl
    · obtain rfl : i = 0 := by omega
      exact Brd.one p
    · exact ArrAt.at _ _ _ _ (by simp)
    · exact (ArrAt.at _ _ _ _ (by simp)).alloc _
  case round =>
    obtain ⟨k, b, T, ⟨hk1, hk⟩, rfl, rfl, HBr, HT, HT8, HA, HR, HB⟩ := hrel
    by_cases hlt : k < p.length
    · obtain ⟨bb, o, cc, hv, lb, hc⟩ := HI.out.form (by omega)
      injection hv with hA _ hC
      subst hA hC
      have hT8 := HT8.out
      have hk8 : k < 8 := by omega
      have d1 : decide ((k : Int) < (p.length : Int)) = true := decide_eq_true (by omega)
      have k1 : (0 : Int) ≤ (k : Int) := by omega
      have k2 : (k : Int) < (p.length : Int) := by omega
      have k3 : (k : Int) < 8 := by omega
      have HC0 := Bx.mk hc
      clear hc
      go_wp2_with (fail)
      go_loopw [4] (fun bv wr => ∃ b : Nat, bv = .int .i64 b ∧ Bx (Cnd p p k k b) ∧ Bx (ArrAt wr (w.heap.size + 1) (ints T) 68) ∧ Bx (ArrAt wr w.heap.size (ints (List.replicate 8 0)) 68) ∧ Bx (Below w.heap.size w wr)) (fun bv _ => (intOf bv).toNat)
      case atStart => exact ⟨b, rfl, Bx.mk HBr.out.cnd, HA, HR, HB⟩
      case round =>
        clear HBr
        clear HA HR HB
        obtain ⟨b, rfl, HC, HA, HR, HB⟩ := hrel
        have hbk := HC.out.lt
        have x1 : wr.cell? ⟨bb, o + b, none⟩ = some (.int .i64 (p.getD b 0)) := (HB.out.cell (p := ⟨bb, o + b, none⟩) lb).trans (HC0.out b (by omega))
        have x2 : wr.cell? ⟨bb, o + k, none⟩ = some (.int .i64 (p.getD k 0)) := (HB.out.cell (p := ⟨bb, o + k, none⟩) lb).trans (HC0.out k hlt)
        have HXY : Bx (p.getD b 0 = p.getD b 0) := Bx.mk rfl
        have b1 : (0 : Int) ≤ (b : Int) := by omega
        have b2 : (b : Int) < (p.length : Int) := by omega
        have a0 : wr.cell? ⟨w.heap.size + 1, k, none⟩ = some (.int .i64 (T.getD k 0)) := by rw [HA.out.cell, ints_at T k (by omega)]
        have af := HA.out.f0 k
        have al := HA.out.lt
        have HXE : Bx (p.getD b 0 = p.getD k 0 → p.getD b 0 = p.getD k 0) := Bx.mk id
        clear HXY
        by_cases hxe : p.getD b 0 = p.getD k 0
        · have HXY : Bx (p.getD b 0 = p.getD k 0) := Bx.mk hxe
          have hxy := hxe
          clear hxe HXE HC0 HI lb
          generalize hx : p.getD b 0 = x at x1 hxy
          generalize hy : p.getD k 0 = y at x2 hxy
          clear hx hy
          generalize T.getD k 0 = tk at a0
          by_cases hb0 : 0 < b
          · have d0 : decide ((b : Int) > 0) = true := decide_eq_true (by omega)
            have d3 : (x != y) = false := by simp [hxy]
            have d4 : (x == y) = true := by simp [hxy]
            have HN : Bx (Brd p (k + 1) (b + 1)) := Bx.mk (HC.out.brd HXY.out)
            have y5 : IntKind.i64.wrap ((b : Int) + 1) = ((b + 1 : Nat) : Int) := by rw [IntWalk.i64_in _ (by omega)]; omega
            clear hxy HXY HC
            go_wp2_with (fail)
            go_quiet (fail)
            go_wp2_with (fail)
            go_quiet (fail)
            go_wp2_with (fail)
            go_roundw
            case rel => exact ⟨k + 1, b + 1, T.set k ((b + 1 : Nat) : Int), by omega, by go_num, by first | rfl | go_num, HN, HT.out.step hT8 hk8 HN.out, Bx.mk (by rw [List.length_set]; exact hT8), Bx.mk (by rw [← ints_set]; exact ArrAt.put (by first | exact HA.out | exact HA.out.draws _ | exact (HA.out.draws _).draws _) _ _), Bx.mk (ArrAt.other (by omega) (by first | exact HR.out | exact HR.out.draws _ | exact (HR.out.draws _).draws _) _), Bx.mk (Below.setCell (by first | exact HB.out | exact below_draws HB.out _ | exact below_draws (below_draws HB.out _) _) (by dsimp only; omega) _)⟩
            case measure => simp [intOf]; omega
          · have d0 : decide ((b : Int) > 0) = false := decide_eq_false (by omega)
            have d3 : (x != y) = false := by simp [hxy]
            have d4 : (x == y) = true := by simp [hxy]
            have HN : Bx (Brd p (k + 1) (b + 1)) := Bx.mk (HC.out.brd HXY.out)
            have y5 : IntKind.i64.wrap ((b : Int) + 1) = ((b + 1 : Nat) : Int) := by rw [IntWalk.i64_in _ (by omega)]; omega
            clear hxy HXY HC
            go_wp2_with (fail)
            go_quiet (fail)
            go_wp2_with (fail)
            go_quiet (fail)
            go_wp2_with (fail)
            go_roundw
            case rel => exact ⟨k + 1, b + 1, T.set k ((b + 1 : Nat) : Int), by omega, by go_num, by first | rfl | go_num, HN, HT.out.step hT8 hk8 HN.out, Bx.mk (by rw [List.length_set]; exact hT8), Bx.mk (by rw [← ints_set]; exact ArrAt.put (by first | exact HA.out | exact HA.out.draws _ | exact (HA.out.draws _).draws _) _ _), Bx.mk (ArrAt.other (by omega) (by first | exact HR.out | exact HR.out.draws _ | exact (HR.out.draws _).draws _) _), Bx.mk (Below.setCell (by first | exact HB.out | exact below_draws HB.out _ | exact below_draws (below_draws HB.out _) _) (by dsimp only; omega) _)⟩
            case measure => simp [intOf]; omega
        · have HXY : Bx (p.getD b 0 ≠ p.getD k 0) := Bx.mk hxe
          have HXE : Bx (p.getD b 0 = p.getD k 0 → p.getD b 0 = p.getD k 0) := Bx.mk id
          by_cases hb0 : 0 < b
          · obtain ⟨x', e1, e2⟩ := HT.out (b - 1) (by omega)
            rw [show b - 1 + 1 = b by omega] at e2
            have HN := Bx.mk (HC.out.down e2 hxe)
            have hxb := e2.lt
            have a1 : wr.cell? ⟨w.heap.size + 1, b - 1, none⟩ = some (.int .i64 (x' : Int)) := by rw [HA.out.cell, ints_at T (b - 1) (by omega), e1]
            have hxy := hxe
            clear hxe HXE HC0 HI lb HC e1 e2 a0
            generalize hx : p.getD b 0 = x at x1 hxy
            generalize hy : p.getD k 0 = y at x2 hxy
            clear hx hy HXY
            have d0 : decide ((b : Int) > 0) = true := decide_eq_true (by omega)
            have d3 : (x != y) = true := by simpa using hxy
            have y5 : IntKind.i64.wrap ((b : Int) - 1) = ((b - 1 : Nat) : Int) := by rw [IntWalk.i64_in _ (by omega)]; omega
            have y6 : (0 : Int) ≤ ((b - 1 : Nat) : Int) := by omega
            have y7 : ((b - 1 : Nat) : Int) < 8 := by omega
            have y8 : ((b - 1 : Nat) : Int).toNat = b - 1 := by omega
            clear hxy
            go_wp2_with (fail)
            go_quiet (fail)
            go_wp2_with (fail)
            go_roundw
            case rel => exact ⟨x', by first | rfl | go_num, HN, Bx.mk (by first | exact HA.out | exact HA.out.draws _), Bx.mk (by first | exact HR.out | exact HR.out.draws _), Bx.mk (by first | exact HB.out | exact below_draws HB.out _)⟩
            case measure => simp [intOf]; omega
          · have hxy := hxe
            clear hxe HC0 HI lb
            generalize hx : p.getD b 0 = x at x1 hxy
            generalize hy : p.getD k 0 = y at x2 hxy
            have HXE : Bx (p.getD b 0 = p.getD k 0 → x = y) := Bx.mk (fun e => by rw [hx, hy] at e; exact e)
            clear hx hy
            generalize T.getD k 0 = tk at a0
            have d0 : decide ((b : Int) > 0) = false := decide_eq_false (by omega)
            have d4 : (x == y) = false := by simpa using hxy
            have HN : Bx (Brd p (k + 1) b) := Bx.mk (by
              have hb0 : b = 0 := by omega
              have h := HC.out
              have hne : p.getD b 0 ≠ p.getD k 0 := fun e => hxy (HXE.out e)
              rw [hb0] at h hne ⊢
              exact h.brd0 hne)
            clear hxy HXY HXE HC
            go_wp2_with (fail)
            go_quiet (fail)
            go_wp2_with (fail)
            go_quiet (fail)
            go_wp2_with (fail)
            go_roundw
            case rel => exact ⟨k + 1, b, T.set k (b : Int), by omega, by go_num, by first | rfl | go_num, HN, HT.out.step hT8 hk8 HN.out, Bx.mk (by rw [List.length_set]; exact hT8), Bx.mk (by rw [← ints_set]; exact ArrAt.put (by first | exact HA.out | exact HA.out.draws _ | exact (HA.out.draws _).draws _) _ _), Bx.mk (ArrAt.other (by omega) (by first | exact HR.out | exact HR.out.draws _ | exact (HR.out.draws _).draws _) _), Bx.mk (Below.setCell (by first | exact HB.out | exact below_draws HB.out _ | exact below_draws (below_draws HB.out _) _) (by dsimp only; omega) _)⟩
            case measure => simp [intOf]; omega
    · obtain rfl : k = p.length := by omega
      have d1 : decide ((p.length : Int) < (p.length : Int)) = false := decide_eq_false (by omega)
      have hT8 := HT8.out
      have hld := HA.out.load 8 3 Try.underlying68 (info_brd T hT8)
      have hst := HR.out.store (ints T).toArray (info_brd T hT8) (by simp [ints, hT8]) (ints_one T)
      have P := setRow_at HR.out (ints T).toArray
      have hB := setRow_below HB.out (Nat.le_refl _) (ints T).toArray
      have HLL := Bx.mk (info_brd T hT8)
      have HTT := Bx.mk HT.out
      clear HA HR HB HT HBr HI
      generalize hL : ints T = L at *
      have HLE := Bx.mk hL
      clear hL
      go_upto_region 11 with (fail)
      refine wp_region_lit ?_
      refine wpR_lod rfl 68 _ rfl (.pointer (some ⟨w.heap.size + 1, 0, none⟩)) _ rfl hld ?_
      refine wpR_sto rfl 68 _ _ rfl (.pointer (some ⟨w.heap.size, 0, none⟩)) _ rfl rfl hst ?_
      refine wpList_nil ?_
      generalize wr.setRow w.heap.size L.toArray = W2 at *
      have hP : ArrAt W2 w.heap.size L 68 := by simpa using P
      clear hld hst P
      go_wp2_with (fail)
      refine bodyPost_ret (v := .agg L.toArray) ?_ rfl ⟨T, by rw [HLE.out], hT8, HTT.out, hB⟩
      exact results_cell_row Try.results57 _ W2 w.heap.size _ L.toArray (0, 0) _ (by simp [go_sem, Act.put]) hP Try.underlying68 rfl HLL.out
end Go.Proofs.Ytobhmoohalkijaa

namespace Go.Proofs.Ytobhmoohalkijaa
open Go.ChangeShapes Go.WideShapes Go.ChangeAt Go.RowKit
set_option linter.unusedVariables false
set_option linter.unusedSimpArgs false
set_option maxRecDepth 100000

theorem list8 {T : List Int} (h : T.length = 8) : ∃ a b c d e f g i, T = [a, b, c, d, e, f, g, i] := by
  match T, h with
  | [a, b, c, d, e, f, g, i], _ => exact ⟨a, b, c, d, e, f, g, i, rfl⟩
theorem idx8 (T : List Int) (h : T.length = 8) (i : Nat) (hi : i < 8) (w : World) : (Instr.index 68 (.agg (ints T).toArray) (.int .i64 (i : Int))).run Try.prog w = .ok (.int .i64 (T.getD i 0)) w := by
  obtain ⟨a, b, c, d, e, f, g, j, rfl⟩ := list8 h
  rcases (show i = 0 ∨ i = 1 ∨ i = 2 ∨ i = 3 ∨ i = 4 ∨ i = 5 ∨ i = 6 ∨ i = 7 by omega) with rfl | rfl | rfl | rfl | rfl | rfl | rfl | rfl
  all_goals kernel_rfl
set_option maxHeartbeats 2000000 in
theorem impl_border (v : Value) (zs : List Int) (w : World) (h : IntsAt w v zs) (h1 : zs.length ≤ 1048576) :
    Calls Try.prog 32 #[v] w fun e w' => e = .returned (.tuple #[.int .i64 (borderE zs).1, .int .i64 (borderE zs).2]) ∧ Below w.heap.size w w' := by
  have q1 := impl_isphrase _ zs w h h1
  have HO : Bx (borderE zs = if phB zs = true then (((brdZ zs : Nat) : Int), (0 : Int)) else (0, 1)) := Bx.mk rfl
  have HQ := Bx.mk (fun h1 h8 => impl_borders v zs w h h1 h8)
  obtain ⟨A, c, rfl⟩ := ints_form h
  clear h
  generalize borderE zs = u at HO ⊢
  obtain ⟨u1, u2⟩ := u
  cases hph : phB zs
  · have HE : Bx ((u1, u2) = ((0 : Int), (1 : Int))) := Bx.mk (by rw [HO.out, hph]; rfl)
    rw [hph] at q1
    clear HO hph
    go_enter Try.func32, Try.ntmps32
    go_wp2_with (fail)
    refine q1.mono ?_
    rintro r w1 ⟨rfl, rfl⟩
    go_wp2_with (fail)
    go_returns
    exact ⟨pairR HE.out, Below.refl _ _⟩
  · have HE : Bx ((u1, u2) = (((brdZ zs : Nat) : Int), (0 : Int))) := Bx.mk (by rw [HO.out, hph]; rfl)
    obtain ⟨_, l2, l3⟩ := ph_yes hph
    have q2 := HQ.out (by omega) l3
    rw [hph] at q1
    clear HO hph HQ
    have y0 : IntKind.i64.wrap ((zs.length : Int) - 1) = ((zs.length - 1 : Nat) : Int) := by rw [IntWalk.i64_in _ (by omega)]; omega
    go_enter Try.func32, Try.ntmps32
    go_wp2_with (fail)
    refine q1.mono ?_
    rintro r w1 ⟨rfl, rfl⟩
    go_wp2_with (fail)
    refine q2.mono ?_
    rintro r w2 ⟨T, rfl, hT8, hT, hb⟩
    obtain ⟨x, e1, e2⟩ := hT (zs.length - 1) (by omega)
    rw [show zs.length - 1 + 1 = zs.length by omega] at e2
    have hidx := fun W => idx8 T hT8 (zs.length - 1) (by omega) W
    rw [e1] at hidx
    have HX : Bx (x = brdZ zs) := Bx.mk (e2.uniq (brdZ_brd (by omega)))
    clear hT e1 e2 q2
    generalize (ints T).toArray = arr at *
    go_wp2_with (fail)
    go_returns
    exact ⟨pairR (HE.out.trans (by rw [HX.out])), hb⟩
theorem make_cap (w : World) (n : Nat) (hn : n ≤ 17592186044416) : (Instr.makeSlice 27 (.int .i64 0) (.int .i64 (n : Int))).run Try.prog w = .ok (.slice (some ⟨w.heap.size, 0, none⟩) 0 n) (w.alloc (.cells (madeCells #[.int .i64 0] n) 2)) := by
  obtain ⟨i0, hi, hz0, hz1, hz2⟩ := info_parts infoI64
  have := run_make (P := Try.prog) w 27 2 i0 (.int .i64 0) Try.underlying27 hi hz0 .i64 .i64 0 (n : Int) (by omega) (by omega) (by rw [hz2]; omega) (by omega)
  rw [this, hz1]
  simp [Value.cells]
theorem own_cap (w : World) (n : Nat) (hn : n ≤ maxLen) : (w.alloc (.cells (madeCells #[.int .i64 0] n) 2)).ownsRow w.heap.size 2 1 (.slice (some ⟨w.heap.size, 0, none⟩) 0 n) 0 [] :=
  ⟨rfl, .inr ⟨w.heap.size, n, _, rfl, Nat.le_refl _, heap_alloc_new w _, Nat.zero_le _, hn, by rw [size_madeCells]; simp, by simp⟩⟩
set_option maxHeartbeats 4000000 in
theorem impl_move (v : Value) (zs : List Int) (d : Int) (w : World) (h : IntsAt w v zs) (h1 : zs.length ≤ 1048576) :
    Calls Try.prog 41 #[v, .int .i64 d] w (LCOut (moveE zs d) w) := by
  obtain ⟨i0, hi, hz0, hz1, hz2⟩ := info_parts infoI64
  have q1 := impl_isphrase _ zs w h h1
  have HI := Bx.mk h
  obtain ⟨A, c, rfl⟩ := ints_form h
  clear h
  cases hph : phB zs
  · have HE := Bx.mk (move_no1 (d := d) hph)
    rw [hph] at q1
    clear hph
    go_enter Try.func41, Try.ntmps41
    go_wp2_with (fail)
    refine q1.mono ?_
    rintro r w1 ⟨rfl, rfl⟩
    go_wp2_with (fail)
    go_returns
    exact lc_nil HE.out (Below.refl _ _)
  · obtain ⟨hpt, l2, l3⟩ := ph_yes hph
    have HPT := Bx.mk (pit_yes hpt).2
    have q1' := q1
    rw [hph] at q1'
    by_cases hd : -36 ≤ d ∧ d ≤ 36
    · obtain ⟨hd1, hd2⟩ := hd
      have d1 : decide (d < -36) = false := decide_eq_false (by omega)
      have d2 : decide (d > 36) = false := decide_eq_false (by omega)
      have HEy := Bx.mk (fun hp => move_yes (zs := zs) hph ⟨hd1, hd2⟩ hp)
      have HEn := Bx.mk (fun hp => move_no3 (zs := zs) hph ⟨hd1, hd2⟩ hp)
      have hmk := make_cap w zs.length (by omega)
      clear hph q1 hpt
      go_enter Try.func41, Try.ntmps41
      go_wp2_with (fail)
      refine q1'.mono ?_
      rintro r w1 ⟨rfl, rfl⟩
      go_wp2_with (fail)
      clear d1 d2 hmk q1'
      go_loopw [6, 25] (fun v i wr => ∃ k : Nat, k ≤ zs.length ∧ i = .int .i64 k ∧ wr.ownsRow w.heap.size 2 1 v (mvK zs d k).length (ints (mvK zs d k)) ∧ Below w.heap.size w wr) (fun _ i _ => zs.length - (intOf i).toNat)
      case atStart => exact ⟨0, Nat.zero_le _, rfl, own_cap w zs.length (by unfold maxLen; omega), (Below.refl _ _).alloc (Nat.le_refl _) _⟩
      case round =>
        obtain ⟨k, hk, rfl, hown, hbw⟩ := hrel
        have hsz := hbw.size
        have hll := mvK_len zs d k
        by_cases hlt : k < zs.length
        · obtain ⟨b, o, cc, hv, lb, hc⟩ := HI.out.form (by omega)
          injection hv with hA _ hC
          subst hA hC
          have x1 : wr.cell? ⟨b, o + k, none⟩ = some (.int .i64 (zs.getD k 0)) := (hbw.cell (p := ⟨b, o + k, none⟩) lb).trans (hc k hlt)
          have HS := Bx.mk (mvK_succ zs d k)
          obtain ⟨r1, r2⟩ := HPT.out k hlt
          have k1 : (0 : Int) ≤ (k : Int) := by omega
          have k2 : (k : Int) < (zs.length : Int) := by omega
          have d1 : decide ((k : Int) < (zs.length : Int)) = true := decide_eq_true k2
          clear hc lb HPT HI
          generalize zs.getD k 0 = x at *
          have y0 : IntKind.i64.wrap (x + d) = x + d := IntWalk.i64_in _ (by omega)
          go_wp2_with ((at_builtin; refine wpList_append_own _ rfl _ _ 27 rfl w.heap.size 2 i0 (.int .i64 0) 1 8 Try.underlying27 hi hz0 hz1 hz2 rfl (by decide) _ _ _ rfl (hown.alloc _) ⟨wr.heap.size, 0, none⟩ 1 1 [.int .i64 (x + d)] rfl rfl (cell_one_new _ _ _) (fun x hx => by simp at hx; subst hx; rfl) (by unfold maxLen; omega) (by omega) (by simp; omega) ?_; intro v' w3 hown' hgrow3 hnil3))
          have hown2 : w3.ownsRow w.heap.size 2 1 v' (mvK zs d (k + 1)).length (ints (mvK zs d (k + 1))) := by
            rw [HS.out, ints_snoc', List.length_append]; exact hown'
          have hb2 : Below w.heap.size w w3 := below_app' hbw hown (Nat.le_refl _) hgrow3
          clear hown' hgrow3 hnil3 hown
          go_roundw
          case rel => exact ⟨k + 1, by omega, by go_num, hown2, hb2⟩
          case measure => simp [intOf]; omega
        · obtain rfl : k = zs.length := by omega
          have d1 : decide ((zs.length : Int) < (zs.length : Int)) = false := decide_eq_false (by omega)
          have hq := impl_pits _ (mvK zs d zs.length) wr (IntsAt.own hown) (by omega)
          have HOW := Bx.mk hown
          obtain ⟨A3, c3, rfl⟩ := own_len hown
          clear hown
          have hmk8 : Bx ((mvK zs d zs.length).length ≤ 8) := Bx.mk (by omega)
          clear hll HPT HI hsz
          generalize mvK zs d zs.length = M at *
          cases hp : pitB M
          · have HE := Bx.mk (HEn.out hp)
            rw [hp] at hq
            clear hp HEy HEn
            go_wp2_with (fail)
            refine hq.mono ?_
            rintro r w1 ⟨rfl, rfl⟩
            go_wp2_with (fail)
            go_returns
            exact lc_nil HE.out hbw
          · have HE := Bx.mk (HEy.out hp)
            rw [hp] at hq
            clear hp HEy HEn
            go_wp2_with (fail)
            refine hq.mono ?_
            rintro r w1 ⟨rfl, rfl⟩
            go_wp2_with (fail)
            go_returns
            exact lc_some HE.out HOW.out hbw
    · have HE := Bx.mk (move_no2 hph hd)
      clear hph q1
      by_cases h36 : d < -36
      · have d1 : decide (d < -36) = true := decide_eq_true h36
        clear hd h36
        go_enter Try.func41, Try.ntmps41
        go_wp2_with (fail)
        refine q1'.mono ?_
        rintro r w1 ⟨rfl, rfl⟩
        go_wp2_with (fail)
        go_returns
        exact lc_nil HE.out (Below.refl _ _)
      · have d1 : decide (d < -36) = false := decide_eq_false h36
        have d2 : decide (d > 36) = true := decide_eq_true (by omega)
        clear hd h36
        go_enter Try.func41, Try.ntmps41
        go_wp2_with (fail)
        refine q1'.mono ?_
        rintro r w1 ⟨rfl, rfl⟩
        go_wp2_with (fail)
        go_returns
        exact lc_nil HE.out (Below.refl _ _)
set_option maxHeartbeats 4000000 in
theorem spec_move (v : Value) (zs : List Int) (d : Int) (w : World) (h : IntsAt w v zs) (h1 : zs.length ≤ 1048576) :
    Calls Try.prog 40 #[v, .int .i64 d] w (LCOut (moveE zs d) w) := by
  obtain ⟨i0, hi, hz0, hz1, hz2⟩ := info_parts infoI64
  have q1 := spec_phrase _ zs w h h1
  have qi := fun W => in_any d (-36) 36 W
  have HI := Bx.mk h
  obtain ⟨A, c, rfl⟩ := ints_form h
  clear h
  cases hph : phB zs
  · have HE := Bx.mk (move_no1 (d := d) hph)
    rw [hph] at q1
    clear hph
    go_enter Try.func40, Try.ntmps40
    go_wp2_with (fail)
    refine q1.mono ?_
    rintro r w1 ⟨rfl, rfl⟩
    go_wp2_with (fail)
    go_returns
    exact lc_nil HE.out (Below.refl _ _)
  · obtain ⟨hpt, l2, l3⟩ := ph_yes hph
    have HPT := Bx.mk (pit_yes hpt).2
    have q1' := q1
    rw [hph] at q1'
    by_cases hd : -36 ≤ d ∧ d ≤ 36
    · rw [inB_mk hd] at qi
      have HEy := Bx.mk (fun hp => move_yes (zs := zs) hph hd hp)
      have HEn := Bx.mk (fun hp => move_no3 (zs := zs) hph hd hp)
      obtain ⟨hd1, hd2⟩ := hd
      clear hph q1 hpt
      go_enter Try.func40, Try.ntmps40
      go_wp2_with (fail)
      refine q1'.mono ?_
      rintro r w1 ⟨rfl, rfl⟩
      go_wp2_with (fail)
      refine (qi _).mono ?_
      rintro r w1 ⟨rfl, rfl⟩
      go_wp2_with (fail)
      clear qi q1'
      go_loopw [6, 7] (fun v i wr => ∃ k : Nat, k ≤ zs.length ∧ i = .int .i64 k ∧ Bx (∀ i, i < k → inB (zs.getD i 0 + d) (-12) 23 = true) ∧ wr.ownsRow w.heap.size 2 1 v (mvK zs d k).length (ints (mvK zs d k)) ∧ Below w.heap.size w wr) (fun _ i _ => zs.length - (intOf i).toNat)
      case atStart => exact ⟨0, Nat.zero_le _, rfl, Bx.mk (fun i hi => absurd hi (Nat.not_lt_zero _)), World.ownsRow_lit _ _ _ (Nat.le_refl _) (by decide) (by decide), (Below.refl _ _).alloc (Nat.le_refl _) _⟩
      case round =>
        obtain ⟨k, hk, rfl, HK, hown, hbw⟩ := hrel
        have hsz := hbw.size
        have hll := mvK_len zs d k
        by_cases hlt : k < zs.length
        · obtain ⟨b, o, cc, hv, lb, hc⟩ := HI.out.form (by omega)
          injection hv with hA _ hC
          subst hA hC
          have x1 : wr.cell? ⟨b, o + k, none⟩ = some (.int .i64 (zs.getD k 0)) := (hbw.cell (p := ⟨b, o + k, none⟩) lb).trans (hc k hlt)
          have HS := Bx.mk (mvK_succ zs d k)
          have qp := fun W => spec_pitch (zs.getD k 0 + d) W
          obtain ⟨r1, r2⟩ := HPT.out k hlt
          have k1 : (0 : Int) ≤ (k : Int) := by omega
          have k2 : (k : Int) < (zs.length : Int) := by omega
          have d1 : decide ((k : Int) < (zs.length : Int)) = true := decide_eq_true k2
          cases hp : inB (zs.getD k 0 + d) (-12) 23
          · have HE := Bx.mk (HEn.out (move_at k hlt hp))
            rw [hp] at qp
            clear hc lb HPT HI hp HK HS hown
            generalize zs.getD k 0 = x at *
            have y0 : IntKind.i64.wrap (x + d) = x + d := IntWalk.i64_in _ (by omega)
            go_wp2_with (fail)
            refine (qp _).mono ?_
            rintro r w1 ⟨rfl, rfl⟩
            go_wp2_with (fail)
            go_returns
            exact lc_nil HE.out hbw
          · have HK2 : Bx (∀ i, i < k + 1 → inB (zs.getD i 0 + d) (-12) 23 = true) := Bx.mk (fun i hi => by
              by_cases hik : i = k
              · subst hik; exact hp
              · exact HK.out i (by omega))
            rw [hp] at qp
            clear hc lb HPT HI hp HK HEy HEn
            generalize hx : zs.getD k 0 = x at x1 qp HS r1 r2
            clear hx
            have y0 : IntKind.i64.wrap (x + d) = x + d := IntWalk.i64_in _ (by omega)
            go_wp2_with (fail)
            refine (qp _).mono ?_
            rintro r w1 ⟨rfl, rfl⟩
            go_wp2_with ((at_builtin; refine wpList_append_own _ rfl _ _ 27 rfl w.heap.size 2 i0 (.int .i64 0) 1 8 Try.underlying27 hi hz0 hz1 hz2 rfl (by decide) _ _ _ rfl (hown.alloc _) ⟨wr.heap.size, 0, none⟩ 1 1 [.int .i64 (x + d)] rfl rfl (cell_one_new _ _ _) (fun x hx => by simp at hx; subst hx; rfl) (by unfold maxLen; omega) (by omega) (by simp; omega) ?_; intro v' w3 hown' hgrow3 hnil3))
            have hown2 : w3.ownsRow w.heap.size 2 1 v' (mvK zs d (k + 1)).length (ints (mvK zs d (k + 1))) := by
              rw [HS.out, ints_snoc', List.length_append]; exact hown'
            have hb2 : Below w.heap.size w w3 := below_app' hbw hown (Nat.le_refl _) hgrow3
            clear hown' hgrow3 hnil3 hown
            go_roundw
            case rel => exact ⟨k + 1, by omega, by go_num, HK2, hown2, hb2⟩
            case measure => simp [intOf]; omega
        · obtain rfl : k = zs.length := by omega
          have d1 : decide ((zs.length : Int) < (zs.length : Int)) = false := decide_eq_false (by omega)
          have HE := Bx.mk (HEy.out (move_all l3 HK.out))
          have HOW := Bx.mk hown
          obtain ⟨A3, c3, rfl⟩ := own_len hown
          clear hown HEy HEn HK HI HPT
          go_wp2_with (fail)
          go_returns
          exact lc_some HE.out HOW.out hbw
    · have HE := Bx.mk (move_no2 hph hd)
      have hn : inB d (-36) 36 = false := by
        apply Bool.eq_false_iff.2
        intro h
        exact hd (inB_yes h)
      rw [hn] at qi
      clear hph q1 hn hd
      go_enter Try.func40, Try.ntmps40
      go_wp2_with (fail)
      refine q1'.mono ?_
      rintro r w1 ⟨rfl, rfl⟩
      go_wp2_with (fail)
      refine (qi _).mono ?_
      rintro r w1 ⟨rfl, rfl⟩
      go_wp2_with (fail)
      go_returns
      exact lc_nil HE.out (Below.refl _ _)
end Go.Proofs.Ytobhmoohalkijaa

namespace Go.Proofs.Ytobhmoohalkijaa
open Go.ChangeShapes Go.WideShapes Go.ChangeAt Go.RowKit
set_option linter.unusedVariables false
set_option linter.unusedSimpArgs false
set_option maxRecDepth 100000

/-- what telling one occurrence keeps -/
def Told (B N : Nat) (W w' : World) : Prop := Below B W w' ∧ W.heap.size ≤ w'.heap.size ∧ w'.heap[N]? = W.heap[N]?
theorem ArrAt.told {B N : Nat} {W w' : World} {vs : List Value} {t : TypeId} (h : ArrAt W N vs t) (ht : Told B N W w') : ArrAt w' N vs t := by
  unfold ArrAt at h ⊢
  rw [ht.2.2, h]
def TellStep (m : FuncId) (a : Addr) (B lo len : Nat) (I : Nat → List Nat → World → Prop) : Prop :=
  ∀ (N : Nat) (L : List Nat) (i : Nat) (W : World), lo ≤ N → N < W.heap.size → I N L W → i + len ≤ 64 → L.length ≤ 64 →
    Calls Try.prog m #[.pointer (some a), .int .i64 (i : Nat)] W fun e w' => e = .returned (.tuple #[]) ∧ I N (L ++ [i]) w' ∧ Told B N W w'
theorem store8 {w : World} {g : Nat} {T : List Int} (h : ArrAt w g (ints (List.replicate 8 0)) 68) (hT8 : T.length = 8) : (Instr.storeAt 68 (.pointer (some ⟨g, 0, none⟩)) (.agg (ints T).toArray)).run Try.prog w = .ok () (w.setRow g (ints T).toArray) :=
  h.store (ints T).toArray (info_brd T hT8) (by simp [ints, hT8]) (ints_one T)
theorem nil_pl (a : Addr) (w : World) : (nilAhead 246 62 (.pointer (some a)) "loop.example/g01033/impl.occursAt").run Try.prog w = .ok (some false) w := by kernel_rfl
theorem meth_pl (a : Addr) (w : World) : (method 246 62 (.pointer (some a)) "loop.example/g01033/impl.occursAt").run Try.prog w = .ok (125, .pointer (some a)) w := by kernel_rfl
set_option maxHeartbeats 8000000 in
theorem tell_pl (I : Nat → List Nat → World → Prop) (w0 : World) (a : Addr) (vt vp : Value) (t p : List Int) (w : World) (ht : IntsAt w0 vt t) (hp : IntsAt w0 vp p) (hb : Below w0.heap.size w0 w) (h2 : 2 ≤ p.length) (h8 : p.length ≤ 8) (h64 : t.length ≤ 64)
    (hI : ∀ N W, Below w.heap.size w W → w.heap.size ≤ N → I N [] W) (hs : TellStep 125 a w0.heap.size w.heap.size p.length I) :
    Calls Try.prog 55 #[vt, vp, .iface 62 (.pointer (some a))] w fun e w' => e = .returned (.tuple #[]) ∧ (∃ N, I N (findK p t t.length) w') ∧ Below w0.heap.size w0 w' := by
  have q1 := impl_borders vp p w (hp.below hb) (by omega) h8
  have HT := Bx.mk ht
  have HP := Bx.mk hp
  have HB := Bx.mk hb
  have HI := Bx.mk hI
  have HS := Bx.mk hs
  obtain ⟨A, c, rfl⟩ := ints_form ht
  obtain ⟨B, d, rfl⟩ := ints_form hp
  have hn := nil_pl a
  have hm := meth_pl a
  clear ht hp hb hI hs
  go_enter Try.func55, Try.ntmps55
  go_wp2_with (fail)
  go_step3
  go_wp2_with (fail)
  refine q1.mono ?_
  rintro r w1 ⟨T, rfl, hT8, hTT, hb1⟩
  obtain ⟨t0, t1, t2, t3, t4, t5, t6, t7, hTe⟩ := list8 hT8
  rw [show (ints T).toArray = #[.int .i64 t0, .int .i64 t1, .int .i64 t2, .int .i64 t3, .int .i64 t4, .int .i64 t5, .int .i64 t6, .int .i64 t7] by rw [hTe]; rfl]
  have HA0 : ArrAt (w1.alloc (.cells #[.int .i64 t0, .int .i64 t1, .int .i64 t2, .int .i64 t3, .int .i64 t4, .int .i64 t5, .int .i64 t6, .int .i64 t7] 68)) w1.heap.size (ints T) 68 := by
    rw [hTe]; exact ArrAt.at w1 w1.heap.size _ _ rfl
  have hbA : Below w.heap.size w (w1.alloc (.cells #[.int .i64 t0, .int .i64 t1, .int .i64 t2, .int .i64 t3, .int .i64 t4, .int .i64 t5, .int .i64 t6, .int .i64 t7] 68)) := hb1.alloc hb1.size _
  have hlo := hb1.size
  have H0 := Bx.mk (HI.out w1.heap.size _ hbA hlo)
  have HB0 := Bx.mk (HB.out.trans (hbA.mono HB.out.size))
  have HBT := Bx.mk hTT
  have HA0 := Bx.mk HA0
  have HLo := Bx.mk hlo
  have HT8 := Bx.mk hT8
  clear hTT hTe hb1 hlo hbA HI HB q1 hT8
  go_upto_region 1 with (fail)
  generalize w1.heap.size = N at *
  generalize w1.alloc (.cells #[.int .i64 t0, .int .i64 t1, .int .i64 t2, .int .i64 t3, .int .i64 t4, .int .i64 t5, .int .i64 t6, .int .i64 t7] 68) = W at *
  clear w1
  go_wp2_with (fail)
  go_step3
  go_wp2_with (fail)
  go_loopw [7, 14] (fun bv i wr => ∃ (k b : Nat), k ≤ t.length ∧ i = .int .i64 k ∧ bv = .int .i64 b ∧ Bx (Std p t k b) ∧ Bx (I N (findK p t k) wr) ∧ Bx (ArrAt wr N (ints T) 68) ∧ Bx (Below w0.heap.size w0 wr)) (fun _ i _ => t.length - (intOf i).toNat)
  case atStart => exact ⟨0, 0, Nat.zero_le _, rfl, rfl, Bx.mk (Std.start (by omega)), Bx.mk (by rw [findK_zero (by omega)]; exact H0.out), HA0, HB0⟩
  case round =>
    clear H0 HA0 HB0
    obtain ⟨k, b, hk, rfl, rfl, HSt, HL, HA, HB⟩ := hrel
    by_cases hlt : k < t.length
    · obtain ⟨bt, ot, ct, hvt, lt, hct⟩ := HT.out.form (by omega)
      obtain ⟨bp, op, cp, hvp, lp, hcp⟩ := HP.out.form (by omega)
      injection hvt with hA1 _ hC1
      injection hvp with hA2 _ hC2
      subst hA1 hC1 hA2 hC2
      have d1 : decide ((k : Int) < (t.length : Int)) = true := decide_eq_true (by omega)
      have k1 : (0 : Int) ≤ (k : Int) := by omega
      have k2 : (k : Int) < (t.length : Int) := by omega
      have x2 : wr.cell? ⟨bt, ot + k, none⟩ = some (.int .i64 (t.getD k 0)) := (HB.out.cell (p := ⟨bt, ot + k, none⟩) lt).trans (hct k hlt)
      have HCP := Bx.mk (fun j (hj : j < p.length) => (HB.out.cell (p := ⟨bp, op + j, none⟩) lp).trans (hcp j hj))
      have HY : Bx (∀ j, p.getD j 0 = t.getD k 0 ↔ p.getD j 0 = t.getD k 0) := Bx.mk (fun j => Iff.rfl)
      have HCn0 := Bx.mk HSt.out.cnd
      have HFn := Bx.mk (fun h => findK_no (p := p) hlt h)
      have HFy := Bx.mk (fun h => findK_yes (p := p) hlt h)
      have HLn : Bx ((findK p t k).length ≤ 64) := Bx.mk (Nat.le_trans (findN_len _ _ _) (by omega))
      clear hct hcp HT HP lt lp HSt
      generalize hy : t.getD k 0 = y at x2
      have HYE := Bx.mk hy
      clear hy HY
      obtain ⟨wo, hwo⟩ : ∃ x, x = wr := ⟨_, rfl⟩
      subst hwo
      go_wp2_with (fail)
      go_loopw [7] (fun bv wi => ∃ b : Nat, bv = .int .i64 b ∧ Bx (Cnd p t p.length k b) ∧ wi = wo) (fun bv _ => (intOf bv).toNat)
      case atStart => exact ⟨b, rfl, HCn0, rfl⟩
      case round =>
        clear HCn0
        obtain ⟨b, rfl, HC, rfl⟩ := hrel
        have hbp := HC.out.lt
        have x1 := HCP.out b hbp
        have b1 : (0 : Int) ≤ (b : Int) := by omega
        have b2 : (b : Int) < (p.length : Int) := by omega
        have al := HA.out.lt
        by_cases hxe : p.getD b 0 = y
        · have HE := Bx.mk (hxe.trans HYE.out.symm)
          rw [hxe] at x1
          have y5 : IntKind.i64.wrap ((b : Int) + 1) = ((b + 1 : Nat) : Int) := by rw [IntWalk.i64_in _ (by omega)]; omega
          have d3 : (y != y) = false := by simp
          clear hxe HYE HCP
          by_cases hf : b + 1 = p.length
          · obtain ⟨x', e1, e2⟩ := HBT.out b hbp
            have e2' := e2
            rw [hf] at e2'
            obtain ⟨s1, s2⟩ := HC.out.full HE.out hf e2'
            have hFK := HFy.out s2
            have hle := s2.le
            have HSt2 := Bx.mk s1
            have hq := HS.out N (findK p t k) (k + 1 - p.length) wr HLo.out al HL.out (by omega) HLn.out
            rw [show ((k + 1 - p.length : Nat) : Int) = (k : Int) + 1 - ((b : Int) + 1) by omega] at hq
            have a1 : wr.cell? ⟨N, b, none⟩ = some (.int .i64 (x' : Int)) := by rw [HA.out.cell, ints_at T b (by have := HT8.out; omega), e1]
            have d4 : (((b + 1 : Nat) : Int) == (p.length : Int)) = true := by rw [hf]; simp
            have y6 : IntKind.i64.wrap ((k : Int) + 1) = ((k + 1 : Nat) : Int) := by rw [IntWalk.i64_in _ (by omega)]; omega
            have y8 : IntKind.i64.wrap (((b + 1 : Nat) : Int) - 1) = (b : Int) := by rw [IntWalk.i64_in _ (by omega)]; omega
            have b8 : (b : Int) < 8 := by omega
            have HFK := Bx.mk hFK
            clear e1 e2 e2' s1 s2 hFK HC HE HFy HFn HBT hle hf
            go_wp2_with (fail)
            refine hq.mono ?_
            rintro r w5 ⟨rfl, hI5, hT5⟩
            have HI5 : Bx (I N (findK p t (k + 1)) w5) := Bx.mk (by rw [HFK.out]; exact hI5)
            have HA5 := Bx.mk (HA.out.told hT5)
            have HB5 := Bx.mk (HB.out.trans hT5.1)
            have a2 : w5.cell? ⟨N, b, none⟩ = some (.int .i64 (x' : Int)) := (World.cell?_of_block (a := ⟨N, b, none⟩) hT5.2.2).trans a1
            have hTs := hT5.2.1
            clear hI5 hT5 hq HL HA HB x1 x2 a1 HFK
            go_wp2_with (fail)
            go_roundw
            case rel => exact ⟨k + 1, x', by omega, by go_num, by first | rfl | go_num, HSt2, HI5, HA5, HB5⟩
            case measure => simp [intOf]; omega
          · obtain ⟨s1, s2⟩ := HC.out.std HE.out (by omega)
            have HSt2 := Bx.mk s1
            have HI5 : Bx (I N (findK p t (k + 1)) wr) := Bx.mk (by rw [HFn.out s2]; exact HL.out)
            have d4 : (((b + 1 : Nat) : Int) == (p.length : Int)) = false := beq_eq_false_iff_ne.2 (by omega)
            clear s1 s2 HC HE HFy HFn HBT hf HL
            go_wp2_with (fail)
            go_roundw
            case rel => exact ⟨k + 1, b + 1, by omega, by go_num, by first | rfl | go_num, HSt2, HI5, HA, HB⟩
            case measure => simp [intOf]; omega
        · have HE := Bx.mk (fun (e : p.getD b 0 = t.getD k 0) => hxe (e.trans HYE.out))
          by_cases hb0 : b = 0
          · subst hb0
            obtain ⟨s1, s2⟩ := HC.out.std0 HE.out
            have HSt2 := Bx.mk s1
            have HI5 : Bx (I N (findK p t (k + 1)) wr) := Bx.mk (by rw [HFn.out s2]; exact HL.out)
            simp only [Nat.add_zero] at x1
            generalize p.getD 0 0 = x at x1 hxe
            have d3 : (x != y) = true := by simpa using hxe
            have d4 : ((0 : Int) == 0) = true := by decide
            clear s1 s2 HC HE HFy HFn HBT HL HCP HYE hxe
            go_wp2_with (fail)
            go_roundw
            case rel => exact ⟨k + 1, 0, by omega, by go_num, rfl, HSt2, HI5, HA, HB⟩
            case measure => simp [intOf]; omega
          · obtain ⟨x', e1, e2⟩ := HBT.out (b - 1) (by omega)
            rw [show b - 1 + 1 = b by omega] at e2
            have HN := Bx.mk (HC.out.down e2 HE.out)
            have hxb := e2.lt
            have a1 : wr.cell? ⟨N, b - 1, none⟩ = some (.int .i64 (x' : Int)) := by rw [HA.out.cell, ints_at T (b - 1) (by have := HT8.out; omega), e1]
            generalize p.getD b 0 = x at x1 hxe
            have d3 : (x != y) = true := by simpa using hxe
            have d4 : ((b : Int) == 0) = false := beq_eq_false_iff_ne.2 (by omega)
            have y5 : IntKind.i64.wrap ((b : Int) - 1) = ((b - 1 : Nat) : Int) := by rw [IntWalk.i64_in _ (by omega)]; omega
            have y6 : (0 : Int) ≤ ((b - 1 : Nat) : Int) := by omega
            have y7 : ((b - 1 : Nat) : Int) < 8 := by omega
            have y8 : ((b - 1 : Nat) : Int).toNat = b - 1 := by omega
            clear e1 e2 HC HE hxe
            go_wp2_with (fail)
            go_roundw
            case rel => exact ⟨x', by first | rfl | go_num, HN, by first | rfl | trivial⟩
            case measure => simp [intOf]; omega
    · obtain rfl : k = t.length := by omega
      have d1 : decide ((t.length : Int) < (t.length : Int)) = false := decide_eq_false (by omega)
      go_wp2_with (fail)
      try rw [Exit.noGoto_ret]
      try rw [Exit.noGoto_normal]
      go_end0
      exact ⟨rfl, ⟨N, HL.out⟩, HB.out⟩
theorem nil_ap (a : Addr) (w : World) : (nilAhead 246 66 (.pointer (some a)) "loop.example/g01033/impl.occursAt").run Try.prog w = .ok (some false) w := by kernel_rfl
theorem meth_ap (a : Addr) (w : World) : (method 246 66 (.pointer (some a)) "loop.example/g01033/impl.occursAt").run Try.prog w = .ok (126, .pointer (some a)) w := by kernel_rfl
set_option maxHeartbeats 8000000 in
theorem tell_ap (I : Nat → List Nat → World → Prop) (w0 : World) (a : Addr) (vt vp : Value) (t p : List Int) (w : World) (ht : IntsAt w0 vt t) (hp : IntsAt w0 vp p) (hb : Below w0.heap.size w0 w) (h2 : 2 ≤ p.length) (h8 : p.length ≤ 8) (h64 : t.length ≤ 64)
    (hI : ∀ N W, Below w.heap.size w W → w.heap.size ≤ N → I N [] W) (hs : TellStep 126 a w0.heap.size w.heap.size p.length I) :
    Calls Try.prog 55 #[vt, vp, .iface 66 (.pointer (some a))] w fun e w' => e = .returned (.tuple #[]) ∧ (∃ N, I N (findK p t t.length) w') ∧ Below w0.heap.size w0 w' := by
  have q1 := impl_borders vp p w (hp.below hb) (by omega) h8
  have HT := Bx.mk ht
  have HP := Bx.mk hp
  have HB := Bx.mk hb
  have HI := Bx.mk hI
  have HS := Bx.mk hs
  obtain ⟨A, c, rfl⟩ := ints_form ht
  obtain ⟨B, d, rfl⟩ := ints_form hp
  have hn := nil_ap a
  have hm := meth_ap a
  clear ht hp hb hI hs
  go_enter Try.func55, Try.ntmps55
  go_wp2_with (fail)
  go_step3
  go_wp2_with (fail)
  refine q1.mono ?_
  rintro r w1 ⟨T, rfl, hT8, hTT, hb1⟩
  obtain ⟨t0, t1, t2, t3, t4, t5, t6, t7, hTe⟩ := list8 hT8
  rw [show (ints T).toArray = #[.int .i64 t0, .int .i64 t1, .int .i64 t2, .int .i64 t3, .int .i64 t4, .int .i64 t5, .int .i64 t6, .int .i64 t7] by rw [hTe]; rfl]
  have HA0 : ArrAt (w1.alloc (.cells #[.int .i64 t0, .int .i64 t1, .int .i64 t2, .int .i64 t3, .int .i64 t4, .int .i64 t5, .int .i64 t6, .int .i64 t7] 68)) w1.heap.size (ints T) 68 := by
    rw [hTe]; exact ArrAt.at w1 w1.heap.size _ _ rfl
  have hbA : Below w.heap.size w (w1.alloc (.cells #[.int .i64 t0, .int .i64 t1, .int .i64 t2, .int .i64 t3, .int .i64 t4, .int .i64 t5, .int .i64 t6, .int .i64 t7] 68)) := hb1.alloc hb1.size _
  have hlo := hb1.size
  have H0 := Bx.mk (HI.out w1.heap.size _ hbA hlo)
  have HB0 := Bx.mk (HB.out.trans (hbA.mono HB.out.size))
  have HBT := Bx.mk hTT
  have HA0 := Bx.mk HA0
  have HLo := Bx.mk hlo
  have HT8 := Bx.mk hT8
  clear hTT hTe hb1 hlo hbA HI HB q1 hT8
  go_upto_region 1 with (fail)
  generalize w1.heap.size = N at *
  generalize w1.alloc (.cells #[.int .i64 t0, .int .i64 t1, .int .i64 t2, .int .i64 t3, .int .i64 t4, .int .i64 t5, .int .i64 t6, .int .i64 t7] 68) = W at *
  clear w1
  go_wp2_with (fail)
  go_step3
  go_wp2_with (fail)
  go_loopw [7, 14] (fun bv i wr => ∃ (k b : Nat), k ≤ t.length ∧ i = .int .i64 k ∧ bv = .int .i64 b ∧ Bx (Std p t k b) ∧ Bx (I N (findK p t k) wr) ∧ Bx (ArrAt wr N (ints T) 68) ∧ Bx (Below w0.heap.size w0 wr)) (fun _ i _ => t.length - (intOf i).toNat)
  case atStart => exact ⟨0, 0, Nat.zero_le _, rfl, rfl, Bx.mk (Std.start (by omega)), Bx.mk (by rw [findK_zero (by omega)]; exact H0.out), HA0, HB0⟩
  case round =>
    clear H0 HA0 HB0
    obtain ⟨k, b, hk, rfl, rfl, HSt, HL, HA, HB⟩ := hrel
    by_cases hlt : k < t.length
    · obtain ⟨bt, ot, ct, hvt, lt, hct⟩ := HT.out.form (by omega)
      obtain ⟨bp, op, cp, hvp, lp, hcp⟩ := HP.out.form (by omega)
      injection hvt with hA1 _ hC1
      injection hvp with hA2 _ hC2
      subst hA1 hC1 hA2 hC2
      have d1 : decide ((k : Int) < (t.length : Int)) = true := decide_eq_true (by omega)
      have k1 : (0 : Int) ≤ (k : Int) := by omega
      have k2 : (k : Int) < (t.length : Int) := by omega
      have x2 : wr.cell? ⟨bt, ot + k, none⟩ = some (.int .i64 (t.getD k 0)) := (HB.out.cell (p := ⟨bt, ot + k, none⟩) lt).trans (hct k hlt)
      have HCP := Bx.mk (fun j (hj : j < p.length) => (HB.out.cell (p := ⟨bp, op + j, none⟩) lp).trans (hcp j hj))
      have HY : Bx (∀ j, p.getD j 0 = t.getD k 0 ↔ p.getD j 0 = t.getD k 0) := Bx.mk (fun j => Iff.rfl)
      have HCn0 := Bx.mk HSt.out.cnd
      have HFn := Bx.mk (fun h => findK_no (p := p) hlt h)
      have HFy := Bx.mk (fun h => findK_yes (p := p) hlt h)
      have HLn : Bx ((findK p t k).length ≤ 64) := Bx.mk (Nat.le_trans (findN_len _ _ _) (by omega))
      clear hct hcp HT HP lt lp HSt
      generalize hy : t.getD k 0 = y at x2
      have HYE := Bx.mk hy
      clear hy HY
      obtain ⟨wo, hwo⟩ : ∃ x, x = wr := ⟨_, rfl⟩
      subst hwo
      go_wp2_with (fail)
      go_loopw [7] (fun bv wi => ∃ b : Nat, bv = .int .i64 b ∧ Bx (Cnd p t p.length k b) ∧ wi = wo) (fun bv _ => (intOf bv).toNat)
      case atStart => exact ⟨b, rfl, HCn0, rfl⟩
      case round =>
        clear HCn0
        obtain ⟨b, rfl, HC, rfl⟩ := hrel
        have hbp := HC.out.lt
        have x1 := HCP.out b hbp
        have b1 : (0 : Int) ≤ (b : Int) := by omega
        have b2 : (b : Int) < (p.length : Int) := by omega
        have al := HA.out.lt
        by_cases hxe : p.getD b 0 = y
        · have HE := Bx.mk (hxe.trans HYE.out.symm)
          rw [hxe] at x1
          have y5 : IntKind.i64.wrap ((b : Int) + 1) = ((b + 1 : Nat) : Int) := by rw [IntWalk.i64_in _ (by omega)]; omega
          have d3 : (y != y) = false := by simp
          clear hxe HYE HCP
          by_cases hf : b + 1 = p.length
          · obtain ⟨x', e1, e2⟩ := HBT.out b hbp
            have e2' := e2
            rw [hf] at e2'
            obtain ⟨s1, s2⟩ := HC.out.full HE.out hf e2'
            have hFK := HFy.out s2
            have hle := s2.le
            have HSt2 := Bx.mk s1
            have hq := HS.out N (findK p t k) (k + 1 - p.length) wr HLo.out al HL.out (by omega) HLn.out
            rw [show ((k + 1 - p.length : Nat) : Int) = (k : Int) + 1 - ((b : Int) + 1) by omega] at hq
            have a1 : wr.cell? ⟨N, b, none⟩ = some (.int .i64 (x' : Int)) := by rw [HA.out.cell, ints_at T b (by have := HT8.out; omega), e1]
            have d4 : (((b + 1 : Nat) : Int) == (p.length : Int)) = true := by rw [hf]; simp
            have y6 : IntKind.i64.wrap ((k : Int) + 1) = ((k + 1 : Nat) : Int) := by rw [IntWalk.i64_in _ (by omega)]; omega
            have y8 : IntKind.i64.wrap (((b + 1 : Nat) : Int) - 1) = (b : Int) := by rw [IntWalk.i64_in _ (by omega)]; omega
            have b8 : (b : Int) < 8 := by omega
            have HFK := Bx.mk hFK
            clear e1 e2 e2' s1 s2 hFK HC HE HFy HFn HBT hle hf
            go_wp2_with (fail)
            refine hq.mono ?_
            rintro r w5 ⟨rfl, hI5, hT5⟩
            have HI5 : Bx (I N (findK p t (k + 1)) w5) := Bx.mk (by rw [HFK.out]; exact hI5)
            have HA5 := Bx.mk (HA.out.told hT5)
            have HB5 := Bx.mk (HB.out.trans hT5.1)
            have a2 : w5.cell? ⟨N, b, none⟩ = some (.int .i64 (x' : Int)) := (World.cell?_of_block (a := ⟨N, b, none⟩) hT5.2.2).trans a1
            have hTs := hT5.2.1
            clear hI5 hT5 hq HL HA HB x1 x2 a1 HFK
            go_wp2_with (fail)
            go_roundw
            case rel => exact ⟨k + 1, x', by omega, by go_num, by first | rfl | go_num, HSt2, HI5, HA5, HB5⟩
            case measure => simp [intOf]; omega
          · obtain ⟨s1, s2⟩ := HC.out.std HE.out (by omega)
            have HSt2 := Bx.mk s1
            have HI5 : Bx (I N (findK p t (k + 1)) wr) := Bx.mk (by rw [HFn.out s2]; exact HL.out)
            have d4 : (((b + 1 : Nat) : Int) == (p.length : Int)) = false := beq_eq_false_iff_ne.2 (by omega)
            clear s1 s2 HC HE HFy HFn HBT hf HL
            go_wp2_with (fail)
            go_roundw
            case rel => exact ⟨k + 1, b + 1, by omega, by go_num, by first | rfl | go_num, HSt2, HI5, HA, HB⟩
            case measure => simp [intOf]; omega
        · have HE := Bx.mk (fun (e : p.getD b 0 = t.getD k 0) => hxe (e.trans HYE.out))
          by_cases hb0 : b = 0
          · subst hb0
            obtain ⟨s1, s2⟩ := HC.out.std0 HE.out
            have HSt2 := Bx.mk s1
            have HI5 : Bx (I N (findK p t (k + 1)) wr) := Bx.mk (by rw [HFn.out s2]; exact HL.out)
            simp only [Nat.add_zero] at x1
            generalize p.getD 0 0 = x at x1 hxe
            have d3 : (x != y) = true := by simpa using hxe
            have d4 : ((0 : Int) == 0) = true := by decide
            clear s1 s2 HC HE HFy HFn HBT HL HCP HYE hxe
            go_wp2_with (fail)
            go_roundw
            case rel => exact ⟨k + 1, 0, by omega, by go_num, rfl, HSt2, HI5, HA, HB⟩
            case measure => simp [intOf]; omega
          · obtain ⟨x', e1, e2⟩ := HBT.out (b - 1) (by omega)
            rw [show b - 1 + 1 = b by omega] at e2
            have HN := Bx.mk (HC.out.down e2 HE.out)
            have hxb := e2.lt
            have a1 : wr.cell? ⟨N, b - 1, none⟩ = some (.int .i64 (x' : Int)) := by rw [HA.out.cell, ints_at T (b - 1) (by have := HT8.out; omega), e1]
            generalize p.getD b 0 = x at x1 hxe
            have d3 : (x != y) = true := by simpa using hxe
            have d4 : ((b : Int) == 0) = false := beq_eq_false_iff_ne.2 (by omega)
            have y5 : IntKind.i64.wrap ((b : Int) - 1) = ((b - 1 : Nat) : Int) := by rw [IntWalk.i64_in _ (by omega)]; omega
            have y6 : (0 : Int) ≤ ((b - 1 : Nat) : Int) := by omega
            have y7 : ((b - 1 : Nat) : Int) < 8 := by omega
            have y8 : ((b - 1 : Nat) : Int).toNat = b - 1 := by omega
            clear e1 e2 HC HE hxe
            go_wp2_with (fail)
            go_roundw
            case rel => exact ⟨x', by first | rfl | go_num, HN, by first | rfl | trivial⟩
            case measure => simp [intOf]; omega
    · obtain rfl : k = t.length := by omega
      have d1 : decide ((t.length : Int) < (t.length : Int)) = false := decide_eq_false (by omega)
      go_wp2_with (fail)
      try rw [Exit.noGoto_ret]
      try rw [Exit.noGoto_normal]
      go_end0
      exact ⟨rfl, ⟨N, HL.out⟩, HB.out⟩

theorem kept_alloc {W : World} {o : Obj} {N : Nat} (h : N < W.heap.size) : (W.alloc o).heap[N]? = W.heap[N]? := (World.grownBy_alloc W o none).block N h (by simp)
theorem BoxN.grownP {g : Nat} {w w' : World} {xs : Array Value} {t : TypeId} {row : Option Nat} (h : BoxN w g xs t) (hg : w.grownBy w' row) (hn : ¬ some g = row) : BoxN w' g xs t := by
  have := hg.block g h.lt hn
  unfold BoxN at h ⊢
  rw [this, h]
def natL (L : List Nat) : List Int := L.map fun (i : Nat) => (i : Int)
theorem natL_snoc (L : List Nat) (i : Nat) : natL (L ++ [i]) = natL L ++ [(i : Int)] := by simp [natL]
theorem natL_len (L : List Nat) : (natL L).length = L.length := by simp [natL]
/-- what 'places' holds -/
def PlI (g : Nat) (N : Nat) (L : List Nat) (W : World) : Prop := g ≤ N ∧ ∃ v, BoxN W g #[v] 60 ∧ W.ownsRow (N + 1) 2 1 v (natL L).length (ints (natL L))
set_option maxHeartbeats 4000000 in
theorem place_at (g B lo : Nat) (len : Nat) (hB : B ≤ g) (hg : g < lo) : TellStep 125 ⟨g, 0, none⟩ B lo len (PlI g) := by
  intro N L i W hlo hN hI hi64 hL
  obtain ⟨hgN, v, hX, hown⟩ := hI
  clear hgN
  obtain ⟨i0, hi, hz0, hz1, hz2⟩ := info_parts infoI64
  have HX := Bx.mk hX
  have hll := natL_len L
  have h0 := hX.c (k := 0) rfl
  have hf := hX.fr 0
  have hl := hX.lt
  have HOW := Bx.mk hown
  obtain ⟨A, c, rfl⟩ := own_len hown
  have HR : Bx (∀ x, (Value.slice A (natL L).length c).ownBlock = some x → N + 1 ≤ x) := Bx.mk (own_lo HOW.out)
  have HL : Bx ((natL L).length ≤ 64) := Bx.mk (by omega)
  have HS := Bx.mk (natL_snoc L i)
  have HGN : Bx (g < N ∧ B ≤ g) := Bx.mk ⟨by omega, hB⟩
  clear hX hll
  generalize natL L = zs at *
  have HNS := Bx.mk hN
  clear hL hlo hg hB hi64
  go_enter Try.func125, Try.ntmps125
  go_wp2_with ((at_builtin; refine wpList_append_own _ rfl _ _ 60 rfl (N + 1) 2 i0 (.int .i64 0) 1 8 Try.underlying60 hi hz0 hz1 hz2 rfl (by decide) _ _ _ rfl (HOW.out.alloc _) ⟨W.heap.size, 0, none⟩ 1 1 [.int .i64 (i : Nat)] rfl rfl (cell_one_new _ _ _) (fun x hx => by simp at hx; subst hx; rfl) (by have := HL.out; unfold maxLen; omega) (by have := HL.out; omega) (by simp; omega) ?_; intro v' w3 hown' hgrow3 hnil3; have hgrow3 := (show (W.alloc (.cells #[.int .i64 (i : Nat)] 2)).grownBy w3 (Value.slice A zs.length c).ownBlock from hgrow3); obtain ⟨A4, c4, rfl⟩ := own_len hown'; clear hnil3; have P3 := Bx.mk ((HX.out.alloc _).grownP hgrow3 (fun e => by have := HR.out g e.symm; have := HGN.out; omega)); have c3 := P3.out.c (k := 0) rfl; have f3 := P3.out.fr 0; have l3 := P3.out.lt))
  have P4 := P3.out.put 0 (.slice A4 (zs.length + 1) c4)
  have hs3 := hgrow3.size
  have hN3 : w3.heap[N]? = W.heap[N]? := (hgrow3.block N (by simp; have := HNS.out; omega) (fun e => by have := HR.out N e.symm; omega)).trans (kept_alloc HNS.out)
  have hb3 : Below B W w3 := ((Below.refl B W).alloc (by have := HGN.out; have := HNS.out; omega) _).grown hgrow3 (by simp; have := HGN.out; have := HNS.out; omega) (fun x hx => by have := HR.out x hx; have := HGN.out; omega)
  have hg2 := HGN.out
  have hnn := HNS.out
  first | go_end0 | (go_wp2_with (fail); go_end0)
  refine ⟨rfl, ⟨by omega, _, P4, ?_⟩, hb3.setCell (p := ⟨g, 0, none⟩) hg2.2 _, ?_, ?_⟩
  · refine ownset ?_ (by omega) 0 _
    rw [HS.out, ints_snoc', List.length_append]; exact hown'
  · simp at hs3 ⊢; omega
  · rw [Below.heap_setCell _ _ _ _ (by show N ≠ g; omega)]; exact hN3
/-- what 'apartCounter' holds -/
def ApI (g m : Nat) (N : Nat) (L : List Nat) (W : World) : Prop := BoxN W g #[.int .i64 (m : Nat), .int .i64 ((apartF m L).1 : Nat), .int .i64 ((apartF m L).2 : Nat)] 65 ∧ (apartF m L).1 ≤ 72
set_option maxHeartbeats 4000000 in
theorem apart_at (g m B lo : Nat) (hB : B ≤ g) (hg : g < lo) (hm : m ≤ 8) : TellStep 126 ⟨g, 0, none⟩ B lo m (ApI g m) := by
  intro N L i W hlo hN hI hi64 hL
  obtain ⟨hX, he⟩ := hI
  have hn := apart_le m L
  have HS := Bx.mk (apart_snoc m L i)
  unfold ApI
  generalize apartF m (L ++ [i]) = s2 at *
  generalize apartF m L = s at *
  obtain ⟨e, n⟩ := s
  dsimp only at *
  have h0 := hX.c (k := 0) rfl
  have h1 := hX.c (k := 1) rfl
  have h2 := hX.c (k := 2) rfl
  have hf1 := hX.fr 1
  have hf2 := hX.fr 2
  have hl := hX.lt
  have HX := Bx.mk hX
  have HG := Bx.mk (And.intro hB (And.intro hg (And.intro hlo hN)))
  clear hX hB hg hlo hN
  by_cases hle : e ≤ i
  · have d1 : decide ((i : Int) ≥ (e : Int)) = true := decide_eq_true (by omega)
    have d2 : decide (e ≤ i) = true := decide_eq_true hle
    have HE : Bx (s2 = (i + m, n + 1)) := Bx.mk (by rw [HS.out]; unfold apart1; rw [if_pos hle])
    have y1 : IntKind.i64.wrap ((i : Int) + (m : Int)) = ((i + m : Nat) : Int) := by rw [IntWalk.i64_in _ (by omega)]; omega
    have y2 : IntKind.i64.wrap ((n : Int) + 1) = ((n + 1 : Nat) : Int) := by rw [IntWalk.i64_in _ (by omega)]; omega
    clear HS hle
    go_enter Try.func126, Try.ntmps126
    go_wp2_with (fail)
    go_end0
    have hG := HG.out
    have hsz : ((W.setCell ⟨g, 1, none⟩ (.int .i64 ((i + m : Nat) : Int))).setCell ⟨g, 2, none⟩ (.int .i64 ((n + 1 : Nat) : Int))).heap.size = W.heap.size := by simp
    refine ⟨rfl, ⟨?_, by rw [HE.out]; dsimp only; omega⟩, ((Below.refl B W).setCell (p := ⟨g, 1, none⟩) hG.1 _).setCell (p := ⟨g, 2, none⟩) hG.1 _, by simp, ?_⟩
    · rw [HE.out]
      have := (HX.out.put 1 (.int .i64 ((i + m : Nat) : Int))).put 2 (.int .i64 ((n + 1 : Nat) : Int))
      simpa using this
    · rw [Below.heap_setCell _ _ _ _ (by show N ≠ g; omega), Below.heap_setCell _ _ _ _ (by show N ≠ g; omega)]
  · have d1 : decide ((i : Int) ≥ (e : Int)) = false := decide_eq_false (by omega)
    have d2 : decide (e ≤ i) = false := decide_eq_false hle
    have HE : Bx (s2 = (e, n)) := Bx.mk (by rw [HS.out]; unfold apart1; rw [if_neg hle])
    clear HS hle
    go_enter Try.func126, Try.ntmps126
    go_wp2_with (fail)
    go_end0
    exact ⟨rfl, ⟨by rw [HE.out]; exact HX.out, by rw [HE.out]; exact he⟩, Below.refl B W, Nat.le_refl _, rfl⟩
end Go.Proofs.Ytobhmoohalkijaa

namespace Go.Proofs.Ytobhmoohalkijaa
open Go.ChangeShapes Go.WideShapes Go.ChangeAt Go.RowKit
set_option linter.unusedVariables false
set_option linter.unusedSimpArgs false
set_option maxRecDepth 100000

/-- what occurrences of a length cover -/
def spanB (i l k : Nat) : Bool := decide (i ≤ k) && decide (k < i + l)
def covN (l : Nat) (L : List Nat) (k : Nat) : Bool := L.any fun i => spanB i l k
def spanN (i l : Nat) : Nat := (2 ^ l - 1) * 2 ^ i
theorem span_bit (i l k : Nat) : (spanN i l).testBit k = spanB i l k := by
  unfold spanN spanB
  rw [← Nat.shiftLeft_eq, Nat.testBit_shiftLeft, Nat.testBit_two_pow_sub_one]
  by_cases h : i ≤ k
  · simp only [h, ge_iff_le, decide_true, Bool.true_and, decide_eq_decide]
    omega
  · simp [h]
theorem span_lt {i l : Nat} (h : i + l ≤ 64) : spanN i l < 2 ^ 64 := by
  have h1 : spanN i l < 2 ^ l * 2 ^ i := by
    unfold spanN
    exact Nat.mul_lt_mul_of_pos_right (Nat.sub_lt (Nat.two_pow_pos l) (by decide)) (Nat.two_pow_pos i)
  rw [← Nat.pow_add] at h1
  exact Nat.lt_of_lt_of_le h1 (Nat.pow_le_pow_right (by decide) (by omega))
theorem covN_snoc (l : Nat) (L : List Nat) (i k : Nat) : covN l (L ++ [i]) k = (covN l L k || spanB i l k) := by simp [covN]
/-- .. as bits -/
def covM (l : Nat) (L : List Nat) : Nat := L.foldl (fun M i => M ||| spanN i l) 0
theorem covM_snoc (l : Nat) (L : List Nat) (i : Nat) : covM l (L ++ [i]) = covM l L ||| spanN i l := by simp [covM]
theorem covM_bit (l : Nat) (L : List Nat) (k : Nat) : (covM l L).testBit k = covN l L k := by
  have key : ∀ (L : List Nat) (M : Nat), (L.foldl (fun M i => M ||| spanN i l) M).testBit k = (M.testBit k || covN l L k) := by
    intro L
    induction L with
    | nil => intro M; simp [covN]
    | cons x r ih =>
      intro M
      rw [List.foldl_cons, ih, Nat.testBit_or, span_bit, Bool.or_assoc]
      simp [covN]
  unfold covM
  rw [key]; simp
theorem cv_val {M l i : Nat} (hM : M < 2 ^ 64) (hl : l ≤ 8) (hi : i + l ≤ 64) : bits BinOp.or IntKind.u64 (M : Int) (IntKind.u64.wrap (IntKind.u64.wrap (IntKind.u64.wrap (2 ^ l) - 1) * 2 ^ i)) = ((M ||| spanN i l : Nat) : Int) := by
  have h1 : (2 : Nat) ^ l ≤ 2 ^ 8 := Nat.pow_le_pow_right (by decide) hl
  have h0 : 0 < (2 : Nat) ^ l := Nat.two_pow_pos l
  have e1 : ((2 : Int) ^ l) = ((2 ^ l : Nat) : Int) := by push_cast; rfl
  have e2 : ((2 : Int) ^ i) = ((2 ^ i : Nat) : Int) := by push_cast; rfl
  have a1 : IntKind.u64.wrap ((2 ^ l : Nat) : Int) = ((2 ^ l : Nat) : Int) := IntWalk.u64_in _ (by omega)
  have a2 : IntKind.u64.wrap (((2 ^ l : Nat) : Int) - 1) = ((2 ^ l : Nat) : Int) - 1 := IntWalk.u64_in _ (by omega)
  rw [e1, e2, a1, a2]
  have e3 : (((2 ^ l : Nat) : Int) - 1) * ((2 ^ i : Nat) : Int) = ((spanN i l : Nat) : Int) := by
    unfold spanN
    rw [Int.natCast_mul, Int.natCast_sub h0]; rfl
  have h2 := span_lt hi
  rw [e3, IntWalk.u64_in _ (by omega), u64_or_nat _ _ (by omega) (by omega)]
/-- what 'coverer' holds -/
def CvI (g l : Nat) (N : Nat) (L : List Nat) (W : World) : Prop := BoxN W g #[.int .i64 (l : Nat), .int .u64 (covM l L : Nat)] 112 ∧ covM l L < 2 ^ 64
theorem nil_cv (a : Addr) (w : World) : (nilAhead 246 113 (.pointer (some a)) "loop.example/g01033/impl.occursAt").run Try.prog w = .ok (some false) w := by kernel_rfl
theorem meth_cv (a : Addr) (w : World) : (method 246 113 (.pointer (some a)) "loop.example/g01033/impl.occursAt").run Try.prog w = .ok (127, .pointer (some a)) w := by kernel_rfl
set_option maxHeartbeats 8000000 in
theorem tell_cv (I : Nat → List Nat → World → Prop) (w0 : World) (a : Addr) (vt vp : Value) (t p : List Int) (w : World) (ht : IntsAt w0 vt t) (hp : IntsAt w0 vp p) (hb : Below w0.heap.size w0 w) (h2 : 2 ≤ p.length) (h8 : p.length ≤ 8) (h64 : t.length ≤ 64)
    (hI : ∀ N W, Below w.heap.size w W → w.heap.size ≤ N → I N [] W) (hs : TellStep 127 a w0.heap.size w.heap.size p.length I) :
    Calls Try.prog 55 #[vt, vp, .iface 113 (.pointer (some a))] w fun e w' => e = .returned (.tuple #[]) ∧ (∃ N, I N (findK p t t.length) w') ∧ Below w0.heap.size w0 w' := by
  have q1 := impl_borders vp p w (hp.below hb) (by omega) h8
  have HT := Bx.mk ht
  have HP := Bx.mk hp
  have HB := Bx.mk hb
  have HI := Bx.mk hI
  have HS := Bx.mk hs
  obtain ⟨A, c, rfl⟩ := ints_form ht
  obtain ⟨B, d, rfl⟩ := ints_form hp
  have hn := nil_cv a
  have hm := meth_cv a
  clear ht hp hb hI hs
  go_enter Try.func55, Try.ntmps55
  go_wp2_with (fail)
  go_step3
  go_wp2_with (fail)
  refine q1.mono ?_
  rintro r w1 ⟨T, rfl, hT8, hTT, hb1⟩
  obtain ⟨t0, t1, t2, t3, t4, t5, t6, t7, hTe⟩ := list8 hT8
  rw [show (ints T).toArray = #[.int .i64 t0, .int .i64 t1, .int .i64 t2, .int .i64 t3, .int .i64 t4, .int .i64 t5, .int .i64 t6, .int .i64 t7] by rw [hTe]; rfl]
  have HA0 : ArrAt (w1.alloc (.cells #[.int .i64 t0, .int .i64 t1, .int .i64 t2, .int .i64 t3, .int .i64 t4, .int .i64 t5, .int .i64 t6, .int .i64 t7] 68)) w1.heap.size (ints T) 68 := by
    rw [hTe]; exact ArrAt.at w1 w1.heap.size _ _ rfl
  have hbA : Below w.heap.size w (w1.alloc (.cells #[.int .i64 t0, .int .i64 t1, .int .i64 t2, .int .i64 t3, .int .i64 t4, .int .i64 t5, .int .i64 t6, .int .i64 t7] 68)) := hb1.alloc hb1.size _
  have hlo := hb1.size
  have H0 := Bx.mk (HI.out w1.heap.size _ hbA hlo)
  have HB0 := Bx.mk (HB.out.trans (hbA.mono HB.out.size))
  have HBT := Bx.mk hTT
  have HA0 := Bx.mk HA0
  have HLo := Bx.mk hlo
  have HT8 := Bx.mk hT8
  clear hTT hTe hb1 hlo hbA HI HB q1 hT8
  go_upto_region 1 with (fail)
  generalize w1.heap.size = N at *
  generalize w1.alloc (.cells #[.int .i64 t0, .int .i64 t1, .int .i64 t2, .int .i64 t3, .int .i64 t4, .int .i64 t5, .int .i64 t6, .int .i64 t7] 68) = W at *
  clear w1
  go_wp2_with (fail)
  go_step3
  go_wp2_with (fail)
  go_loopw [7, 14] (fun bv i wr => ∃ (k b : Nat), k ≤ t.length ∧ i = .int .i64 k ∧ bv = .int .i64 b ∧ Bx (Std p t k b) ∧ Bx (I N (findK p t k) wr) ∧ Bx (ArrAt wr N (ints T) 68) ∧ Bx (Below w0.heap.size w0 wr)) (fun _ i _ => t.length - (intOf i).toNat)
  case atStart => exact ⟨0, 0, Nat.zero_le _, rfl, rfl, Bx.mk (Std.start (by omega)), Bx.mk (by rw [findK_zero (by omega)]; exact H0.out), HA0, HB0⟩
  case round =>
    clear H0 HA0 HB0
    obtain ⟨k, b, hk, rfl, rfl, HSt, HL, HA, HB⟩ := hrel
    by_cases hlt : k < t.length
    · obtain ⟨bt, ot, ct, hvt, lt, hct⟩ := HT.out.form (by omega)
      obtain ⟨bp, op, cp, hvp, lp, hcp⟩ := HP.out.form (by omega)
      injection hvt with hA1 _ hC1
      injection hvp with hA2 _ hC2
      subst hA1 hC1 hA2 hC2
      have d1 : decide ((k : Int) < (t.length : Int)) = true := decide_eq_true (by omega)
      have k1 : (0 : Int) ≤ (k : Int) := by omega
      have k2 : (k : Int) < (t.length : Int) := by omega
      have x2 : wr.cell? ⟨bt, ot + k, none⟩ = some (.int .i64 (t.getD k 0)) := (HB.out.cell (p := ⟨bt, ot + k, none⟩) lt).trans (hct k hlt)
      have HCP := Bx.mk (fun j (hj : j < p.length) => (HB.out.cell (p := ⟨bp, op + j, none⟩) lp).trans (hcp j hj))
      have HY : Bx (∀ j, p.getD j 0 = t.getD k 0 ↔ p.getD j 0 = t.getD k 0) := Bx.mk (fun j => Iff.rfl)
      have HCn0 := Bx.mk HSt.out.cnd
      have HFn := Bx.mk (fun h => findK_no (p := p) hlt h)
      have HFy := Bx.mk (fun h => findK_yes (p := p) hlt h)
      have HLn : Bx ((findK p t k).length ≤ 64) := Bx.mk (Nat.le_trans (findN_len _ _ _) (by omega))
      clear hct hcp HT HP lt lp HSt
      generalize hy : t.getD k 0 = y at x2
      have HYE := Bx.mk hy
      clear hy HY
      obtain ⟨wo, hwo⟩ : ∃ x, x = wr := ⟨_, rfl⟩
      subst hwo
      go_wp2_with (fail)
      go_loopw [7] (fun bv wi => ∃ b : Nat, bv = .int .i64 b ∧ Bx (Cnd p t p.length k b) ∧ wi = wo) (fun bv _ => (intOf bv).toNat)
      case atStart => exact ⟨b, rfl, HCn0, rfl⟩
      case round =>
        clear HCn0
        obtain ⟨b, rfl, HC, rfl⟩ := hrel
        have hbp := HC.out.lt
        have x1 := HCP.out b hbp
        have b1 : (0 : Int) ≤ (b : Int) := by omega
        have b2 : (b : Int) < (p.length : Int) := by omega
        have al := HA.out.lt
        by_cases hxe : p.getD b 0 = y
        · have HE := Bx.mk (hxe.trans HYE.out.symm)
          rw [hxe] at x1
          have y5 : IntKind.i64.wrap ((b : Int) + 1) = ((b + 1 : Nat) : Int) := by rw [IntWalk.i64_in _ (by omega)]; omega
          have d3 : (y != y) = false := by simp
          clear hxe HYE HCP
          by_cases hf : b + 1 = p.length
          · obtain ⟨x', e1, e2⟩ := HBT.out b hbp
            have e2' := e2
            rw [hf] at e2'
            obtain ⟨s1, s2⟩ := HC.out.full HE.out hf e2'
            have hFK := HFy.out s2
            have hle := s2.le
            have HSt2 := Bx.mk s1
            have hq := HS.out N (findK p t k) (k + 1 - p.length) wr HLo.out al HL.out (by omega) HLn.out
            rw [show ((k + 1 - p.length : Nat) : Int) = (k : Int) + 1 - ((b : Int) + 1) by omega] at hq
            have a1 : wr.cell? ⟨N, b, none⟩ = some (.int .i64 (x' : Int)) := by rw [HA.out.cell, ints_at T b (by have := HT8.out; omega), e1]
            have d4 : (((b + 1 : Nat) : Int) == (p.length : Int)) = true := by rw [hf]; simp
            have y6 : IntKind.i64.wrap ((k : Int) + 1) = ((k + 1 : Nat) : Int) := by rw [IntWalk.i64_in _ (by omega)]; omega
            have y8 : IntKind.i64.wrap (((b + 1 : Nat) : Int) - 1) = (b : Int) := by rw [IntWalk.i64_in _ (by omega)]; omega
            have b8 : (b : Int) < 8 := by omega
            have HFK := Bx.mk hFK
            clear e1 e2 e2' s1 s2 hFK HC HE HFy HFn HBT hle hf
            go_wp2_with (fail)
            refine hq.mono ?_
            rintro r w5 ⟨rfl, hI5, hT5⟩
            have HI5 : Bx (I N (findK p t (k + 1)) w5) := Bx.mk (by rw [HFK.out]; exact hI5)
            have HA5 := Bx.mk (HA.out.told hT5)
            have HB5 := Bx.mk (HB.out.trans hT5.1)
            have a2 : w5.cell? ⟨N, b, none⟩ = some (.int .i64 (x' : Int)) := (World.cell?_of_block (a := ⟨N, b, none⟩) hT5.2.2).trans a1
            have hTs := hT5.2.1
            clear hI5 hT5 hq HL HA HB x1 x2 a1 HFK
            go_wp2_with (fail)
            go_roundw
            case rel => exact ⟨k + 1, x', by omega, by go_num, by first | rfl | go_num, HSt2, HI5, HA5, HB5⟩
            case measure => simp [intOf]; omega
          · obtain ⟨s1, s2⟩ := HC.out.std HE.out (by omega)
            have HSt2 := Bx.mk s1
            have HI5 : Bx (I N (findK p t (k + 1)) wr) := Bx.mk (by rw [HFn.out s2]; exact HL.out)
            have d4 : (((b + 1 : Nat) : Int) == (p.length : Int)) = false := beq_eq_false_iff_ne.2 (by omega)
            clear s1 s2 HC HE HFy HFn HBT hf HL
            go_wp2_with (fail)
            go_roundw
            case rel => exact ⟨k + 1, b + 1, by omega, by go_num, by first | rfl | go_num, HSt2, HI5, HA, HB⟩
            case measure => simp [intOf]; omega
        · have HE := Bx.mk (fun (e : p.getD b 0 = t.getD k 0) => hxe (e.trans HYE.out))
          by_cases hb0 : b = 0
          · subst hb0
            obtain ⟨s1, s2⟩ := HC.out.std0 HE.out
            have HSt2 := Bx.mk s1
            have HI5 : Bx (I N (findK p t (k + 1)) wr) := Bx.mk (by rw [HFn.out s2]; exact HL.out)
            simp only [Nat.add_zero] at x1
            generalize p.getD 0 0 = x at x1 hxe
            have d3 : (x != y) = true := by simpa using hxe
            have d4 : ((0 : Int) == 0) = true := by decide
            clear s1 s2 HC HE HFy HFn HBT HL HCP HYE hxe
            go_wp2_with (fail)
            go_roundw
            case rel => exact ⟨k + 1, 0, by omega, by go_num, rfl, HSt2, HI5, HA, HB⟩
            case measure => simp [intOf]; omega
          · obtain ⟨x', e1, e2⟩ := HBT.out (b - 1) (by omega)
            rw [show b - 1 + 1 = b by omega] at e2
            have HN := Bx.mk (HC.out.down e2 HE.out)
            have hxb := e2.lt
            have a1 : wr.cell? ⟨N, b - 1, none⟩ = some (.int .i64 (x' : Int)) := by rw [HA.out.cell, ints_at T (b - 1) (by have := HT8.out; omega), e1]
            generalize p.getD b 0 = x at x1 hxe
            have d3 : (x != y) = true := by simpa using hxe
            have d4 : ((b : Int) == 0) = false := beq_eq_false_iff_ne.2 (by omega)
            have y5 : IntKind.i64.wrap ((b : Int) - 1) = ((b - 1 : Nat) : Int) := by rw [IntWalk.i64_in _ (by omega)]; omega
            have y6 : (0 : Int) ≤ ((b - 1 : Nat) : Int) := by omega
            have y7 : ((b - 1 : Nat) : Int) < 8 := by omega
            have y8 : ((b - 1 : Nat) : Int).toNat = b - 1 := by omega
            clear e1 e2 HC HE hxe
            go_wp2_with (fail)
            go_roundw
            case rel => exact ⟨x', by first | rfl | go_num, HN, by first | rfl | trivial⟩
            case measure => simp [intOf]; omega
    · obtain rfl : k = t.length := by omega
      have d1 : decide ((t.length : Int) < (t.length : Int)) = false := decide_eq_false (by omega)
      go_wp2_with (fail)
      try rw [Exit.noGoto_ret]
      try rw [Exit.noGoto_normal]
      go_end0
      exact ⟨rfl, ⟨N, HL.out⟩, HB.out⟩
set_option maxHeartbeats 4000000 in
theorem cover_at (g l B lo : Nat) (hB : B ≤ g) (hg : g < lo) (hl : 1 ≤ l ∧ l ≤ 8) : TellStep 127 ⟨g, 0, none⟩ B lo l (CvI g l) := by
  intro N L i W hlo hN hI hi64 hL
  obtain ⟨hX, hM⟩ := hI
  obtain ⟨l1, l2⟩ := hl
  have HV := Bx.mk (cv_val hM l2 hi64)
  have HS := Bx.mk (covM_snoc l L i)
  have HLt : Bx (covM l L ||| spanN i l < 2 ^ 64) := Bx.mk (Nat.or_lt_two_pow hM (span_lt hi64))
  have h0 := hX.c (k := 0) rfl
  have h1 := hX.c (k := 1) rfl
  have hf1 := hX.fr 1
  have hl0 := hX.lt
  have HX := Bx.mk hX
  have HG := Bx.mk (And.intro hB (And.intro hg (And.intro hlo hN)))
  unfold CvI
  clear hX hB hg hlo hN
  generalize covM l (L ++ [i]) = M2 at *
  generalize covM l L = M at *
  have z0 : (0 : Int) ≤ (l : Int) := by omega
  have z1 : (0 : Int) ≤ (i : Int) := by omega
  go_enter Try.func127, Try.ntmps127
  go_still_tail 14, (by kernel_rfl)
  change wpList _ _ _ _ _ W.drew
  have h0 : W.drew.cell? ⟨g, 0, none⟩ = some (.int .i64 (l : Nat)) := HX.out.c (k := 0) rfl
  have h1 : W.drew.cell? ⟨g, 1, none⟩ = some (.int .u64 (M : Nat)) := HX.out.c (k := 1) rfl
  have hf1 : W.drew.frozen? ⟨g, 1, none⟩ = false := HX.out.fr 1
  have hl0 : g < W.drew.heap.size := hl0
  have HX2 : Bx (BoxN W.drew g #[.int .i64 (l : Nat), .int .u64 (M : Nat)] 112) := Bx.mk HX.out
  have HB2 : Bx (Below B W W.drew ∧ W.drew.heap.size = W.heap.size ∧ W.drew.heap[N]? = W.heap[N]?) := Bx.mk ⟨(Below.refl B W).drew, rfl, rfl⟩
  generalize W.drew = w2 at *
  go_wp2_with (fail)
  rw [HV.out]
  go_end0
  have hG := HG.out
  have hb := HB2.out
  refine ⟨rfl, ⟨?_, by rw [HS.out]; exact HLt.out⟩, hb.1.setCell (p := ⟨g, 1, none⟩) hG.1 _, by simp; omega, ?_⟩
  · rw [HS.out]
    have := HX2.out.put 1 (.int .u64 ((M ||| spanN i l : Nat) : Int))
    simpa using this
  · rw [Below.heap_setCell _ _ _ _ (by show N ≠ g; omega)]; exact hb.2.2
/-- the masks of phrases -/
def maskP (t p : List Int) : Nat := covM p.length (findK p t t.length)
def cvals (Ms : List Nat) : List Value := Ms.map fun (m : Nat) => .int .u64 (m : Int)
theorem cvals_snoc (Ms : List Nat) (m : Nat) : cvals (Ms ++ [m]) = cvals Ms ++ [.int .u64 (m : Int)] := by simp [cvals]
theorem cvals_at (Ms : List Nat) (k : Nat) (h : k < Ms.length) : (cvals Ms)[k]? = some (.int .u64 (Ms.getD k 0 : Nat)) := by simp [cvals, h]
def orM (Ms : List Nat) (k : Nat) : Nat := (Ms.take k).foldl (· ||| ·) 0
theorem orM_succ (Ms : List Nat) (k : Nat) (h : k < Ms.length) : orM Ms (k + 1) = orM Ms k ||| Ms.getD k 0 := by
  unfold orM
  rw [List.take_succ_eq_append_getElem h, List.foldl_append]
  simp [List.getD, List.getElem?_eq_getElem h]
theorem orM_lt {Ms : List Nat} (h : ∀ k, k < Ms.length → Ms.getD k 0 < 2 ^ 64) : ∀ k, k ≤ Ms.length → orM Ms k < 2 ^ 64 := by
  intro k
  induction k with
  | zero => intro _; simp [orM]
  | succ k ih =>
    intro hk
    rw [orM_succ Ms k (by omega)]
    exact Nat.or_lt_two_pow (ih (by omega)) (h k (by omega))
theorem orM_bit (Ms : List Nat) (x : Nat) : ∀ k, k ≤ Ms.length → (orM Ms k).testBit x = (Ms.take k).any (fun m => m.testBit x) := by
  intro k
  induction k with
  | zero => intro _; simp [orM]
  | succ k ih =>
    intro hk
    have h : k < Ms.length := by omega
    rw [orM_succ Ms k h, Nat.testBit_or, ih (by omega), List.take_succ_eq_append_getElem h, List.any_append]
    simp [List.getD, List.getElem?_eq_getElem h]
set_option maxHeartbeats 1000000 in
theorem impl_joined (v : Value) (Ms : List Nat) (base : Nat) (w : World) (h : w.ownsRow base 85 1 v Ms.length (cvals Ms)) (hM : ∀ k, k < Ms.length → Ms.getD k 0 < 2 ^ 64) (hn : Ms.length ≤ 1048576) :
    Calls Try.prog 70 #[v] w fun e w' => e = .returned (.int .u64 (orM Ms Ms.length : Nat)) ∧ w = w' := by
  have HO := Bx.mk h
  obtain ⟨A, c, rfl⟩ := own_len h
  have HM := Bx.mk hM
  have HLt := Bx.mk (orM_lt hM)
  clear h hM
  go_enter Try.func70, Try.ntmps70
  go_wp2_with (fail)
  go_loopw [3, 8] (fun m i wr => ∃ k : Nat, k ≤ Ms.length ∧ i = .int .i64 k ∧ m = .int .u64 (orM Ms k : Nat) ∧ wr = w) (fun _ i _ => Ms.length - (intOf i).toNat)
  case atStart => exact ⟨0, Nat.zero_le _, rfl, by simp [orM], rfl⟩
  case round =>
    obtain ⟨k, hk, rfl, rfl, rfl⟩ := hrel
    by_cases hlt : k < Ms.length
    · obtain ⟨g, cap, hv, _, lg⟩ := HO.out.form (by omega)
      injection hv with hA _ hC
      subst hA hC
      have c1 : wr.cell? ⟨g, k, none⟩ = some (.int .u64 (Ms.getD k 0 : Nat)) := by rw [HO.out.cellAt k (by omega), cvals_at Ms k hlt]
      have k1 : (0 : Int) ≤ (k : Int) := by omega
      have k2 : (k : Int) < (Ms.length : Int) := by omega
      have d1 : decide ((k : Int) < (Ms.length : Int)) = true := decide_eq_true k2
      have hor := u64_or_nat (orM Ms k) (Ms.getD k 0) (HLt.out k hk) (HM.out k hlt)
      rw [← orM_succ Ms k hlt] at hor
      have HOr := Bx.mk hor
      clear hor HLt HM HO
      generalize orM Ms k = m1 at *
      generalize Ms.getD k 0 = m0 at *
      go_wp2_with (fail)
      go_roundw
      case rel => exact ⟨k + 1, by omega, by go_num, congrArg (Value.int .u64) HOr.out, by first | rfl | trivial⟩
      case measure => simp [intOf]; omega
    · obtain rfl : k = Ms.length := by omega
      have d1 : decide ((Ms.length : Int) < (Ms.length : Int)) = false := decide_eq_false (by omega)
      go_wp2_with (fail)
      go_ret
      exact ⟨rfl, rfl⟩
/-- the indices of bits -/
def bitL (M : Nat) (k : Nat) : List Int := natL ((List.range k).filter fun j => M.testBit j)
theorem bitL_no {M k : Nat} (h : M.testBit k = false) : bitL M (k + 1) = bitL M k := by simp [bitL, List.range_succ, List.filter_append, h]
theorem bitL_yes {M k : Nat} (h : M.testBit k = true) : bitL M (k + 1) = bitL M k ++ [(k : Int)] := by simp [bitL, natL, List.range_succ, List.filter_append, h]
theorem bitL_len (M k : Nat) : (bitL M k).length ≤ k := by
  unfold bitL
  rw [natL_len]
  exact Nat.le_trans (List.length_filter_le _ _) (by simp)
theorem bit_test {M k : Nat} (hM : M < 2 ^ 64) : (bits BinOp.and IntKind.u64 ((M : Int) / 2 ^ k) 1 != 0) = M.testBit k := by
  have e : (M : Int) / 2 ^ k = ((M / 2 ^ k : Nat) : Int) := by push_cast; rfl
  have hlt : M / 2 ^ k < 2 ^ 64 := Nat.lt_of_le_of_lt (Nat.div_le_self _ _) hM
  rw [e, show (1 : Int) = ((1 : Nat) : Int) from rfl, u64_and_nat _ _ (by omega) (by decide)]
  have ht : M.testBit k = (M / 2 ^ k &&& 1 != 0) := by
    unfold Nat.testBit
    rw [Nat.shiftRight_eq_div_pow, Nat.and_comm]
  rw [ht]
  generalize M / 2 ^ k &&& 1 = a
  rw [Bool.eq_iff_iff]
  simp only [bne_iff_ne, ne_eq]
  omega
set_option maxHeartbeats 2000000 in
theorem impl_indices (M : Nat) (w : World) (hM : M < 2 ^ 64) : Calls Try.prog 72 #[.int .u64 (M : Nat)] w (NewRow (bitL M 64) w) := by
  obtain ⟨i0, hi, hz0, hz1, hz2⟩ := info_parts infoI64
  go_enter Try.func72, Try.ntmps72
  go_wp2_with (fail)
  go_loopw [3, 5] (fun v i wr => ∃ k : Nat, k ≤ 64 ∧ i = .int .i64 k ∧ wr.ownsRow w.heap.size 2 1 v (bitL M k).length (ints (bitL M k)) ∧ Below w.heap.size w wr) (fun _ i _ => 64 - (intOf i).toNat)
  case atStart => exact ⟨0, Nat.zero_le _, rfl, World.ownsRow_nil _ _ _ _, Below.refl _ _⟩
  case round =>
    obtain ⟨k, hk, rfl, hown, hbw⟩ := hrel
    have hsz := hbw.size
    by_cases hlt : k < 64
    · have k0 : (0 : Int) ≤ (k : Int) := by omega
      have k1 : (k : Int) < 64 := by omega
      have HL := Bx.mk (bitL_len M k)
      have ht := bit_test (k := k) hM
      cases ho : M.testBit k
      · have HS := Bx.mk (bitL_no ho)
        rw [ho] at ht
        clear ho
        go_wp2_with (fail)
        go_roundw
        case rel => exact ⟨k + 1, by omega, by go_num, by rw [HS.out]; exact hown, hbw⟩
        case measure => simp [intOf]; omega
      · have HS := Bx.mk (bitL_yes ho)
        rw [ho] at ht
        clear ho
        go_wp2_with ((at_builtin; refine wpList_append_own _ rfl _ _ 27 rfl w.heap.size 2 i0 (.int .i64 0) 1 8 Try.underlying27 hi hz0 hz1 hz2 rfl (by decide) _ _ _ rfl (hown.alloc _) ⟨wr.heap.size, 0, none⟩ 1 1 [.int .i64 k] rfl rfl (cell_one_new _ _ _) (fun x hx => by simp at hx; subst hx; rfl) (by have := HL.out; unfold maxLen; omega) (by have := HL.out; omega) (by simp; omega) ?_; intro v' w3 hown' hgrow3 hnil3))
        have hown2 : w3.ownsRow w.heap.size 2 1 v' (bitL M (k + 1)).length (ints (bitL M (k + 1))) := by
          rw [HS.out, ints_snoc', List.length_append]; exact hown'
        have hb2 : Below w.heap.size w w3 := below_app' hbw hown (Nat.le_refl _) hgrow3
        clear hown' hgrow3 hnil3 hown
        go_roundw
        case rel => exact ⟨k + 1, by omega, by go_num, hown2, hb2⟩
        case measure => simp [intOf]; omega
    · obtain rfl : k = 64 := by omega
      go_wp2_with (fail)
      go_ret
      exact ⟨_, rfl, hown, hbw⟩
end Go.Proofs.Ytobhmoohalkijaa

namespace Go.Proofs.Ytobhmoohalkijaa
open Go.ChangeShapes Go.WideShapes Go.ChangeAt Go.RowKit
set_option linter.unusedVariables false
set_option linter.unusedSimpArgs false
set_option maxRecDepth 100000

theorem infoCv : (Try.prog.info? 85).map (fun i => (i.zero, i.size, i.bytes)) = some (some (.int .u64 0), 1, 8) := by kernel_rfl
def cvsK (t : List Int) (P : List (List Int)) (k : Nat) : List Nat := (P.take k).map (maskP t)
theorem cvsK_succ (t : List Int) (P : List (List Int)) (k : Nat) (h : k < P.length) : cvsK t P (k + 1) = cvsK t P k ++ [maskP t (P.getD k [])] := by
  unfold cvsK
  rw [List.take_succ_eq_append_getElem h, List.map_append]
  simp [List.getD, List.getElem?_eq_getElem h]
theorem cvsK_len (t : List Int) (P : List (List Int)) (k : Nat) (h : k ≤ P.length) : (cvsK t P k).length = k := by simp [cvsK]; omega
theorem cvsK_all (t : List Int) (P : List (List Int)) : cvsK t P P.length = P.map (maskP t) := by simp [cvsK]
theorem covM_lt {l : Nat} {L : List Nat} (h : ∀ i, i ∈ L → i + l ≤ 64) : covM l L < 2 ^ 64 := by
  have key : ∀ (L : List Nat) (M : Nat), M < 2 ^ 64 → (∀ i, i ∈ L → i + l ≤ 64) → L.foldl (fun M i => M ||| spanN i l) M < 2 ^ 64 := by
    intro L
    induction L with
    | nil => intro M hM _; exact hM
    | cons x r ih => intro M hM hx; exact ih _ (Nat.or_lt_two_pow hM (span_lt (hx x (by simp)))) (fun i hi => hx i (by simp [hi]))
  exact key L 0 (by decide) h
theorem maskP_lt {t p : List Int} (ht : t.length ≤ 64) : maskP t p < 2 ^ 64 := by
  unfold maskP
  refine covM_lt (fun i hi => ?_)
  unfold findK at hi
  have := ((occ_iff _ _ _).1 (findN_mem.1 hi).2).1
  omega
set_option maxHeartbeats 4000000 in
theorem impl_covers (vt vL : Value) (t : List Int) (P : List (List Int)) (w : World) (ht : IntsAt w vt t) (hL : RowsAt w vL P) (h64 : t.length ≤ 64) (hP : P.length ≤ 12) (hph : ∀ k, k < P.length → 2 ≤ (P.getD k []).length ∧ (P.getD k []).length ≤ 8) :
    Calls Try.prog 71 #[vt, vL] w fun e w' => ∃ v, e = .returned v ∧ w'.ownsRow w.heap.size 85 1 v (cvsK t P P.length).length (cvals (cvsK t P P.length)) ∧ Below w.heap.size w w' := by
  obtain ⟨i0, hi, hz0, hz1, hz2⟩ := info_parts infoCv
  have HT := Bx.mk ht
  have HL := Bx.mk hL
  have HPH := Bx.mk hph
  obtain ⟨A, c, rfl⟩ := ints_form ht
  obtain ⟨B, d, rfl⟩ := rows_form hL
  clear ht hL hph
  go_enter Try.func71, Try.ntmps71
  go_wp2_with (fail)
  go_loopw [5, 11] (fun v i wr => ∃ k : Nat, k ≤ P.length ∧ i = .int .i64 k ∧ wr.ownsRow w.heap.size 85 1 v (cvsK t P k).length (cvals (cvsK t P k)) ∧ Below w.heap.size w wr) (fun _ i _ => P.length - (intOf i).toNat)
  case atStart => exact ⟨0, Nat.zero_le _, rfl, World.ownsRow_nil _ _ _ _, Below.refl _ _⟩
  case round =>
    obtain ⟨k, hk, rfl, hown, hbw⟩ := hrel
    have hsz := hbw.size
    by_cases hlt : k < P.length
    · obtain ⟨b, o, rfl, _, lb, hx⟩ := rows_at HL.out (by omega)
      obtain ⟨A1, e1, c1, i1⟩ := hx k hlt
      have c1 : wr.cell? ⟨b, o + k, none⟩ = some (.slice A1 (P.getD k []).length e1) := (hbw.cell (p := ⟨b, o + k, none⟩) lb).trans c1
      have i1 := i1.below hbw
      have k1 : (0 : Int) ≤ (k : Int) := by omega
      have k2 : (k : Int) < (P.length : Int) := by omega
      have d1 : decide ((k : Int) < (P.length : Int)) = true := decide_eq_true k2
      obtain ⟨l2, l8⟩ := HPH.out k hlt
      have HS := Bx.mk (cvsK_succ t P k hlt)
      have hlk := cvsK_len t P k hk
      have HLN : Bx ((cvsK t P k).length ≤ 12) := Bx.mk (by omega)
      have HMP : Bx (maskP t (P.getD k []) = covM (P.getD k []).length (findK (P.getD k []) t t.length)) := Bx.mk rfl
      clear hlk hx HPH
      generalize P.getD k [] = p at *
      have q3 := tell_cv (CvI wr.heap.size p.length) wr ⟨wr.heap.size, 0, none⟩ _ _ t p (wr.alloc (.cells #[.int .i64 (p.length : Nat), .int .u64 0] 112)) (HT.out.below hbw) i1 ((Below.refl _ _).alloc (Nat.le_refl _) _) l2 l8 h64
        (fun N W hW hN => ⟨(BoxN.at wr wr.heap.size #[.int .i64 (p.length : Nat), .int .u64 0] 112 rfl).below hW, by simp [covM]⟩)
        (cover_at wr.heap.size p.length wr.heap.size _ (Nat.le_refl _) (by simp) ⟨by omega, l8⟩)
      clear i1
      go_wp2_with (fail)
      refine q3.mono ?_
      rintro r w5 ⟨rfl, ⟨N, hX, _⟩, hb5⟩
      have h1 : w5.cell? ⟨wr.heap.size, 1, none⟩ = some (.int .u64 (maskP t p : Nat)) := by rw [HMP.out]; exact hX.c (k := 1) rfl
      have hl := hX.lt
      have hown5 := own_below hown hb5
      have hbw5 := hbw.trans (hb5.mono hsz)
      have hsz5 := hbw5.size
      clear hX hb5 hown hbw q3 HMP
      generalize maskP t p = m at *
      go_wp2_with ((at_builtin; refine wpList_append_own _ rfl _ _ 87 rfl w.heap.size 85 i0 (.int .u64 0) 1 8 Try.underlying87 hi hz0 hz1 hz2 rfl (by decide) _ _ _ rfl (hown5.alloc _) ⟨w5.heap.size, 0, none⟩ 1 1 [.int .u64 (m : Nat)] rfl rfl (cell_one_new _ _ _) (fun x hx => by simp at hx; subst hx; rfl) (by have := HLN.out; unfold maxLen; omega) (by have := HLN.out; omega) (by simp; omega) ?_; intro v' w3 hown' hgrow3 hnil3))
      have hown2 : w3.ownsRow w.heap.size 85 1 v' (cvsK t P (k + 1)).length (cvals (cvsK t P (k + 1))) := by
        rw [HS.out, cvals_snoc, List.length_append]; exact hown'
      have hb2 : Below w.heap.size w w3 := below_app' hbw5 hown5 (Nat.le_refl _) hgrow3
      clear hown' hgrow3 hnil3 hown5
      go_roundw
      case rel => exact ⟨k + 1, by omega, by go_num, hown2, hb2⟩
      case measure => simp [intOf]; omega
    · obtain rfl : k = P.length := by omega
      have d1 : decide ((P.length : Int) < (P.length : Int)) = false := decide_eq_false (by omega)
      go_wp2_with (fail)
      go_ret
      exact ⟨_, rfl, hown, hbw⟩
def unionM (t : List Int) (P : List (List Int)) : Nat := orM (cvsK t P P.length) (cvsK t P P.length).length
def coverE (t : List Int) (P : List (List Int)) : List Int × Int := if phsB P = true then (if pitB t = true then (bitL (unionM t P) 64, 0) else ([], 7)) else ([], 1)
theorem cvs_lt {t : List Int} {P : List (List Int)} (h64 : t.length ≤ 64) : ∀ k, k < (cvsK t P P.length).length → (cvsK t P P.length).getD k 0 < 2 ^ 64 := by
  intro k hk
  have hk2 : k < P.length := by rwa [cvsK_len _ _ _ (Nat.le_refl _)] at hk
  rw [cvsK_all]
  simp [List.getD, hk2, maskP_lt h64]
theorem coverE_len (t : List Int) (P : List (List Int)) : (coverE t P).1.length ≤ 64 := by
  unfold coverE
  repeat' split
  all_goals simp
  exact bitL_len _ _
set_option maxHeartbeats 4000000 in
theorem impl_coveredby (vt vL : Value) (t : List Int) (P : List (List Int)) (w : World) (ht : IntsAt w vt t) (hL : RowsAt w vL P) (h1 : t.length ≤ 1048576) (hn : P.length ≤ 1048576) (hg : ∀ k, k < P.length → (P.getD k []).length ≤ 1048576) :
    Calls Try.prog 38 #[vt, vL] w (LCOut (coverE t P) w) := by
  have q1 := impl_validphrases vL P w hL hn hg
  have q2 := fun m => impl_pits vt t (w.drewN m) (ht.draws m) h1
  have HT := Bx.mk ht
  have HL := Bx.mk hL
  have HO : Bx (coverE t P = if phsB P = true then (if pitB t = true then (bitL (unionM t P) 64, 0) else ([], 7)) else ([], 1)) := Bx.mk rfl
  obtain ⟨A, c, rfl⟩ := ints_form ht
  obtain ⟨B, d, rfl⟩ := rows_form hL
  clear ht hL hg
  generalize coverE t P = u at HO ⊢
  cases hph : phsB P
  · have HE : Bx (u = ([], 1)) := Bx.mk (by rw [HO.out, hph]; rfl)
    rw [hph] at q1
    clear HO hph
    go_enter Try.func38, Try.ntmps38
    go_wp2_with (fail)
    refine q1.mono ?_
    rintro r w1 ⟨rfl, n, rfl⟩
    go_wp2_with (fail)
    go_returns
    exact lc_nil HE.out (below_draws (Below.refl _ _) n)
  · rw [hph] at q1
    cases hpt : pitB t
    · have HE : Bx (u = ([], 7)) := Bx.mk (by rw [HO.out, hph, hpt]; rfl)
      rw [hpt] at q2
      clear HO hph hpt
      go_enter Try.func38, Try.ntmps38
      go_wp2_with (fail)
      refine q1.mono ?_
      rintro r w1 ⟨rfl, n, rfl⟩
      go_wp2_with (fail)
      refine (q2 _).mono ?_
      rintro r w1 ⟨rfl, rfl⟩
      go_wp2_with (fail)
      go_returns
      exact lc_nil HE.out (below_draws (Below.refl _ _) n)
    · have HE : Bx (u = (bitL (unionM t P) 64, 0)) := Bx.mk (by rw [HO.out, hph, hpt]; rfl)
      have l1 := (pit_yes hpt).1
      obtain ⟨l2, l3⟩ := phs_yes hph
      have q3 := fun W (hW : Below w.heap.size w W) => impl_covers _ _ t P W (HT.out.below hW) (HL.out.below hW) l1 l2 (fun k hk => (ph_yes (l3 k hk)).2)
      have HM := Bx.mk (cvs_lt (t := t) (P := P) l1)
      have HMlt : Bx (unionM t P < 2 ^ 64) := Bx.mk (orM_lt HM.out _ (Nat.le_refl _))
      have hlen := cvsK_len t P P.length (Nat.le_refl _)
      have HLN : Bx ((cvsK t P P.length).length ≤ 1048576) := Bx.mk (by omega)
      have HU : Bx (unionM t P = orM (cvsK t P P.length) (cvsK t P P.length).length) := Bx.mk rfl
      rw [hpt] at q2
      clear HO hph hpt l3 hlen
      generalize cvsK t P P.length = Ms at *
      generalize unionM t P = um at *
      go_enter Try.func38, Try.ntmps38
      go_wp2_with (fail)
      refine q1.mono ?_
      rintro r w1 ⟨rfl, n, rfl⟩
      go_wp2_with (fail)
      refine (q2 _).mono ?_
      rintro r w1 ⟨rfl, rfl⟩
      have B1 := below_draws (Below.refl w.heap.size w) n
      go_wp2_with (fail)
      refine (q3 _ B1).mono ?_
      rintro r w3 ⟨v, rfl, ho, hb⟩
      have q4 := impl_joined v Ms _ w3 ho HM.out HLN.out
      rw [← HU.out] at q4
      have B3 := B1.trans (hb.mono B1.size)
      obtain ⟨A3, c3, rfl⟩ := own_len ho
      clear ho hb q3
      go_wp2_with (fail)
      refine q4.mono ?_
      rintro r w4 ⟨rfl, rfl⟩
      go_wp2_with (fail)
      refine (impl_indices um w3 HMlt.out).mono ?_
      rintro r w5 ⟨v5, rfl, ho5, hb5⟩
      have B5 := B3.trans (hb5.mono B3.size)
      have HO5 := Bx.mk (owndown (b1 := w.heap.size) B3.size ho5)
      clear ho5 hb5
      go_wp2_with (fail)
      go_returns
      exact lc_some HE.out HO5.out B5
end Go.Proofs.Ytobhmoohalkijaa

namespace Go.Proofs.Ytobhmoohalkijaa
open Go.ChangeShapes Go.WideShapes Go.ChangeAt Go.RowKit
set_option linter.unusedVariables false
set_option linter.unusedSimpArgs false
set_option maxRecDepth 100000

def bls (f : Nat → Bool) (n : Nat) : List Value := (List.range n).map fun k => .bool (f k)
theorem bls_len (f : Nat → Bool) (n : Nat) : (bls f n).length = n := by simp [bls]
theorem bls_at (f : Nat → Bool) (n k : Nat) (h : k < n) : (bls f n)[k]? = some (.bool (f k)) := by simp [bls, h]
theorem bls_set (f : Nat → Bool) (n k : Nat) : (bls f n).set k (.bool true) = bls (fun x => f x || decide (x = k)) n := by
  apply List.ext_getElem?
  intro i
  unfold bls
  by_cases hn : i < n
  · by_cases h : k = i
    · subst h; simp [hn]
    · have : ¬ i = k := fun e => h e.symm
      simp [hn, h, this]
  · rw [List.getElem?_eq_none (by simp; omega), List.getElem?_eq_none (by simp; omega)]
theorem bls_congr {f g : Nat → Bool} {n : Nat} (h : ∀ x, f x = g x) : bls f n = bls g n := by
  unfold bls
  apply List.map_congr_left
  intro i _
  rw [h]
theorem bls_false (n : Nat) : bls (fun _ => false) n = List.replicate n (.bool false) := by
  apply List.ext_getElem?; intro i
  by_cases hi : i < n <;> simp [bls, hi]
theorem infoBo : (Try.prog.info? 4).map (fun i => (i.zero, i.size, i.bytes)) = some (some (.bool false), 1, 1) := by kernel_rfl
theorem make_bools (w : World) (n : Nat) (hn : n ≤ 17592186044416) : (Instr.makeSlice 82 (.int .i64 (n : Int)) (.int .i64 (n : Int))).run Try.prog w = .ok (.slice (some ⟨w.heap.size, 0, none⟩) n n) (w.alloc (.cells (madeCells #[.bool false] n) 4)) := by
  obtain ⟨i0, hi, hz0, hz1, hz2⟩ := info_parts infoBo
  have := run_make (P := Try.prog) w 82 4 i0 (.bool false) Try.underlying82 hi hz0 .i64 .i64 (n : Int) (n : Int) (by omega) (by omega) (by rw [hz2]; omega) (by omega)
  rw [this, hz1]
  simp [Value.cells]
/-- what phrases cover -/
def covL (t : List Int) (P : List (List Int)) (x : Nat) : Bool := P.any fun p => covN p.length (findN p t t.length) x
theorem covL_succ (t : List Int) (P : List (List Int)) (i : Nat) (h : i < P.length) (x : Nat) : covL t (P.take (i + 1)) x = (covL t (P.take i) x || covN (P.getD i []).length (findN (P.getD i []) t t.length) x) := by
  unfold covL
  rw [List.take_succ_eq_append_getElem h, List.any_append]
  simp [List.getD, List.getElem?_eq_getElem h]
theorem covN_take (l : Nat) (L : List Nat) (k : Nat) (h : k < L.length) (x : Nat) : covN l (L.take (k + 1)) x = (covN l (L.take k) x || spanB (L.getD k 0) l x) := by
  rw [List.take_succ_eq_append_getElem h, covN_snoc]
  simp [List.getD, List.getElem?_eq_getElem h]
theorem span_succ (a j x : Nat) : spanB a (j + 1) x = (spanB a j x || decide (x = a + j)) := by
  unfold spanB
  rw [Bool.eq_iff_iff]
  simp only [Bool.and_eq_true, Bool.or_eq_true, decide_eq_true_eq]
  omega
theorem span_zero (a x : Nat) : spanB a 0 x = false := by
  unfold spanB
  apply Bool.eq_false_iff.2
  simp only [Bool.and_eq_true, decide_eq_true_eq, ne_eq]
  omega
theorem fin_nat (p t : List Int) : finL p t t.length = natL (findN p t t.length) := rfl
theorem natL_at (L : List Nat) (k : Nat) (h : k < L.length) : (ints (natL L))[k]? = some (.int .i64 ((L.getD k 0 : Nat) : Int)) := by simp [ints, natL, h]
theorem fin_at {p t : List Int} {k : Nat} (h : k < (findN p t t.length).length) : (findN p t t.length).getD k 0 + p.length ≤ t.length := by
  have hm : (findN p t t.length).getD k 0 ∈ findN p t t.length := by
    rw [List.getD, List.getElem?_eq_getElem h]; exact List.getElem_mem _
  exact ((occ_iff _ _ _).1 (findN_mem.1 hm).2).1
set_option maxHeartbeats 8000000 in
theorem spec_covered (vt vL : Value) (t : List Int) (P : List (List Int)) (w : World) (ht : IntsAt w vt t) (hL : RowsAt w vL P) (h64 : t.length ≤ 64) (hP : P.length ≤ 12) (hph : ∀ k, k < P.length → (P.getD k []).length ≤ 8) :
    Calls Try.prog 69 #[vt, vL] w fun e w' => ∃ v, e = .returned v ∧ w'.ownsRow w.heap.size 4 1 v t.length (bls (covL t P) t.length) ∧ Below w.heap.size w w' := by
  have hmk := make_bools w t.length (by omega)
  have HT := Bx.mk ht
  have HL := Bx.mk hL
  have HPH := Bx.mk hph
  obtain ⟨A, c, rfl⟩ := ints_form ht
  obtain ⟨B, d, rfl⟩ := rows_form hL
  clear ht hL hph
  go_enter Try.func69, Try.ntmps69
  go_wp2_with (fail)
  go_loopw [6] (fun i wr => ∃ (k : Nat) (f : Nat → Bool), k ≤ P.length ∧ i = .int .i64 k ∧ Bx (∀ x, f x = covL t (P.take k) x) ∧ Bx (wr.ownsRow w.heap.size 4 1 (.slice (some ⟨w.heap.size, 0, none⟩) t.length t.length) t.length (bls f t.length)) ∧ Bx (Below w.heap.size w wr)) (fun i _ => P.length - (intOf i).toNat)
  case atStart =>
    refine ⟨0, fun _ => false, Nat.zero_le _, rfl, Bx.mk (fun x => by simp [covL]), Bx.mk ?_, Bx.mk ((Below.refl _ _).alloc (Nat.le_refl _) _)⟩
    have := World.ownsRow_lit (base := w.heap.size) (e := 4) (size := 1) w (madeCells #[.bool false] t.length) t.length (Nat.le_refl _) (by unfold maxLen; omega) (by rw [size_madeCells]; omega)
    rw [toList_madeCells_one] at this
    rw [bls_false]
    exact this
  case round =>
    clear hmk
    obtain ⟨k, f, hk, rfl, HF, HO, HB⟩ := hrel
    by_cases hlt : k < P.length
    · obtain ⟨b, o, rfl, _, lb, hx⟩ := rows_at HL.out (by omega)
      obtain ⟨A1, e1, c1, i1⟩ := hx k hlt
      have hc1 := c1
      have c1 : wr.cell? ⟨b, o + k, none⟩ = some (.slice A1 (P.getD k []).length e1) := (HB.out.cell (p := ⟨b, o + k, none⟩) lb).trans c1
      have k1 : (0 : Int) ≤ (k : Int) := by omega
      have k2 : (k : Int) < (P.length : Int) := by omega
      have d1 : decide ((k : Int) < (P.length : Int)) = true := decide_eq_true k2
      have l8 := HPH.out k hlt
      have HS := Bx.mk (covL_succ t P k hlt)
      have q3 := spec_find _ _ t (P.getD k []) wr (HT.out.below HB.out) (i1.below HB.out) (by omega) (by omega)
      have HC1 := Bx.mk hc1
      have HLB := Bx.mk lb
      clear hx HPH i1 hc1 lb
      generalize P.getD k [] = p at *
      rw [fin_nat] at q3
      have HAt := Bx.mk (fun k h => fin_at (p := p) (t := t) (k := k) h)
      have HLN : Bx ((findN p t t.length).length ≤ 64) := Bx.mk (Nat.le_trans (findN_len _ _ _) h64)
      generalize findN p t t.length = Q at *
      go_wp2_with (fail)
      refine q3.mono ?_
      rintro r w1 ⟨v7, rfl, ho7, hb1⟩
      have HO1 := Bx.mk (own_below HO.out hb1)
      have HB1 := Bx.mk (HB.out.trans (hb1.mono HB.out.size))
      have HQ : Bx (∃ base, w.heap.size < base ∧ w1.ownsRow base 2 1 v7 (natL Q).length (ints (natL Q))) := Bx.mk ⟨wr.heap.size, by
        rcases HO.out.2 with ⟨h, _⟩ | ⟨g, cap, cur, hv, _, hc, _⟩
        · cases h
        · injection hv with h1 _ _
          injection h1 with h1
          injection h1 with h1
          subst h1
          exact (Array.getElem?_eq_some_iff.1 hc).1, ho7⟩
      obtain ⟨A7, c7, rfl⟩ := own_len ho7
      obtain ⟨base, hbase, ho7⟩ := HQ.out
      have H7 := Bx.mk ho7
      clear hb1 ho7 HO HB q3 HQ
      rw [natL_len]
      rw [natL_len] at H7
      go_wp2_with (fail)
      go_loopw [8] (fun i wr => ∃ (m : Nat) (f : Nat → Bool), m ≤ Q.length ∧ i = .int .i64 m ∧ Bx (∀ x, f x = (covL t (P.take k) x || covN p.length (Q.take m) x)) ∧ Bx (wr.ownsRow w.heap.size 4 1 (.slice (some ⟨w.heap.size, 0, none⟩) t.length t.length) t.length (bls f t.length)) ∧ Bx (wr.ownsRow base 2 1 (.slice A7 Q.length c7) Q.length (ints (natL Q))) ∧ Bx (Below w.heap.size w wr)) (fun i _ => Q.length - (intOf i).toNat)
      case atStart => exact ⟨0, f, Nat.zero_le _, rfl, Bx.mk (fun x => by rw [HF.out x]; simp [covN]), HO1, H7, HB1⟩
      case round =>
        clear HO1 H7 HB1 HF f
        obtain ⟨m, f, hm, rfl, HF, HO, H7, HB⟩ := hrel
        have hl64 := HLN.out
        by_cases hlm : m < Q.length
        · have m1 : (0 : Int) ≤ (m : Int) := by omega
          have m2 : (m : Int) < (Q.length : Int) := by omega
          have d2 : decide ((m : Int) < (Q.length : Int)) = true := decide_eq_true m2
          obtain ⟨g7, cap7, hv7, _, _⟩ := H7.out.form (by omega)
          injection hv7 with hA7 _ hC7
          subst hA7 hC7
          have hat := HAt.out m hlm
          have HN := Bx.mk (covN_take p.length Q m hlm)
          have HQa := Bx.mk (natL_at Q m hlm)
          generalize Q.getD m 0 = a at *
          go_wp2_with (fail)
          go_loopw [9] (fun i wr => ∃ (j : Nat) (f : Nat → Bool), j ≤ p.length ∧ i = .int .i64 j ∧ Bx (∀ x, f x = ((covL t (P.take k) x || covN p.length (Q.take m) x) || spanB a j x)) ∧ Bx (wr.ownsRow w.heap.size 4 1 (.slice (some ⟨w.heap.size, 0, none⟩) t.length t.length) t.length (bls f t.length)) ∧ Bx (wr.ownsRow base 2 1 (.slice (some ⟨g7, 0, none⟩) Q.length c7) Q.length (ints (natL Q))) ∧ Bx (Below w.heap.size w wr)) (fun i _ => p.length - (intOf i).toNat)
          case atStart => exact ⟨0, f, Nat.zero_le _, rfl, Bx.mk (fun x => by rw [HF.out x, span_zero, Bool.or_false]), HO, H7, HB⟩
          case round =>
            clear HO H7 HB HF f
            obtain ⟨j, f, hj, rfl, HF, HO, H7, HB⟩ := hrel
            have c1 : wr.cell? ⟨b, o + k, none⟩ = some (.slice A1 p.length e1) := (HB.out.cell (p := ⟨b, o + k, none⟩) HLB.out).trans HC1.out
            by_cases hlj : j < p.length
            · have c7' : wr.cell? ⟨g7, m, none⟩ = some (.int .i64 (a : Nat)) := by rw [H7.out.cellAt m (by omega)]; exact HQa.out
              have j1 : (0 : Int) ≤ (j : Int) := by omega
              have d3 : decide ((j : Int) < (p.length : Int)) = true := decide_eq_true (by omega)
              have y1 : IntKind.i64.wrap ((a : Int) + (j : Int)) = (a : Int) + (j : Int) := IntWalk.i64_in _ (by omega)
              have y2 : (0 : Int) ≤ (a : Int) + (j : Int) := by omega
              have y3 : (a : Int) + (j : Int) < (t.length : Int) := by omega
              have y4 : ((a : Int) + (j : Int)).toNat = a + j := by omega
              have c0 : wr.cell? ⟨w.heap.size, a + j, none⟩ = some (.bool (f (a + j))) := by rw [HO.out.cellAt (a + j) (by omega)]; exact bls_at f t.length (a + j) (by omega)
              have f0 := HO.out.frozenAt (a + j)
              have HO2 : Bx ((wr.setCell ⟨w.heap.size, a + j, none⟩ (.bool true)).ownsRow w.heap.size 4 1 (.slice (some ⟨w.heap.size, 0, none⟩) t.length t.length) t.length (bls (fun x => f x || decide (x = a + j)) t.length)) := Bx.mk (by
                rw [← bls_set]; exact (HO.out.stored (a + j) (.bool true)).1)
              have H72 := Bx.mk (ownset H7.out (b := w.heap.size) hbase (a + j) (.bool true))
              have HB2 := Bx.mk (HB.out.setCell (p := ⟨w.heap.size, a + j, none⟩) (Nat.le_refl _) (.bool true))
              have HF2 : Bx (∀ x, (f x || decide (x = a + j)) = ((covL t (P.take k) x || covN p.length (Q.take m) x) || spanB a (j + 1) x)) := Bx.mk (fun x => by
                simp only [HF.out x, span_succ, Bool.or_assoc])
              generalize f (a + j) = fb at c0
              clear HF HO H7 HB HN HAt HS hat
              go_wp2_with (fail)
              go_roundw
              case rel => exact ⟨j + 1, _, by omega, by go_num, HF2, HO2, H72, HB2⟩
              case measure => simp [intOf]; omega
            · obtain rfl : j = p.length := by omega
              have d3 : decide ((p.length : Int) < (p.length : Int)) = false := decide_eq_false (by omega)
              have HF2 : Bx (∀ x, f x = (covL t (P.take k) x || covN p.length (Q.take (m + 1)) x)) := Bx.mk (fun x => by rw [HF.out x, HN.out x, Bool.or_assoc])
              clear HF HN HAt HS hat
              go_wp2_with (fail)
              go_roundw
              case rel => exact ⟨m + 1, f, by omega, by go_num, HF2, HO, H7, HB⟩
              case measure => simp [intOf]; omega
        · obtain rfl : m = Q.length := by omega
          have d2 : decide ((Q.length : Int) < (Q.length : Int)) = false := decide_eq_false (by omega)
          have HF2 : Bx (∀ x, f x = covL t (P.take (k + 1)) x) := Bx.mk (fun x => by rw [HF.out x, HS.out x, List.take_length])
          clear HF HAt HS H7
          go_wp2_with (fail)
          go_roundw
          case rel => exact ⟨k + 1, f, by omega, by go_num, HF2, HO, HB⟩
          case measure => simp [intOf]; omega
    · obtain rfl : k = P.length := by omega
      have d1 : decide ((P.length : Int) < (P.length : Int)) = false := decide_eq_false (by omega)
      have HE : Bx (bls f t.length = bls (covL t P) t.length) := Bx.mk (bls_congr (fun x => by rw [HF.out x, List.take_length]))
      go_wp2_with (fail)
      go_ret
      exact ⟨_, rfl, by rw [← HE.out]; exact HO.out, HB.out⟩
/-- the indices of what is covered -/
def covI (t : List Int) (P : List (List Int)) (k : Nat) : List Int := natL ((List.range k).filter (covL t P))
theorem covI_no {t : List Int} {P : List (List Int)} {k : Nat} (h : covL t P k = false) : covI t P (k + 1) = covI t P k := by simp [covI, List.range_succ, List.filter_append, h]
theorem covI_yes {t : List Int} {P : List (List Int)} {k : Nat} (h : covL t P k = true) : covI t P (k + 1) = covI t P k ++ [(k : Int)] := by simp [covI, natL, List.range_succ, List.filter_append, h]
theorem covI_len (t : List Int) (P : List (List Int)) (k : Nat) : (covI t P k).length ≤ k := by
  unfold covI
  rw [natL_len]
  exact Nat.le_trans (List.length_filter_le _ _) (by simp)
theorem union_bit {t : List Int} {P : List (List Int)} (hp : ∀ k, k < P.length → 0 < (P.getD k []).length) (x : Nat) : (unionM t P).testBit x = covL t P x := by
  unfold unionM
  rw [orM_bit _ _ _ (Nat.le_refl _), List.take_length, cvsK_all]
  unfold covL
  rw [List.any_map]
  have key : ∀ p, p ∈ P → (maskP t p).testBit x = covN p.length (findN p t t.length) x := fun p hp' => by
    obtain ⟨i, hi, rfl⟩ := List.mem_iff_getElem.1 hp'
    have h0 := hp i hi
    rw [List.getD, List.getElem?_eq_getElem hi, Option.getD_some] at h0
    unfold maskP
    rw [covM_bit, findN_all h0]
  have all : ∀ R : List (List Int), (∀ p, p ∈ R → (maskP t p).testBit x = covN p.length (findN p t t.length) x) → R.any ((fun m => m.testBit x) ∘ maskP t) = R.any (fun p => covN p.length (findN p t t.length) x) := by
    intro R
    induction R with
    | nil => intro _; rfl
    | cons q r ih =>
      intro h
      rw [List.any_cons, List.any_cons, ih (fun p hp => h p (by simp [hp]))]
      show ((maskP t q).testBit x || _) = _
      rw [h q (by simp)]
  exact all P key
theorem covL_far {t : List Int} {P : List (List Int)} {x : Nat} (h : t.length ≤ x) : covL t P x = false := by
  unfold covL
  rw [List.any_eq_false]
  intro p _
  unfold covN
  simp only [Bool.not_eq_true]
  rw [List.any_eq_false]
  intro i hi
  have := ((occ_iff _ _ _).1 (findN_mem.1 hi).2).1
  unfold spanB
  simp only [Bool.and_eq_true, decide_eq_true_eq, not_and]
  omega
theorem covI_far (t : List Int) (P : List (List Int)) (d : Nat) : covI t P (t.length + d) = covI t P t.length := by
  induction d with
  | zero => rfl
  | succ d ih => rw [← Nat.add_assoc, covI_no (covL_far (by omega)), ih]
theorem cover_same {t : List Int} {P : List (List Int)} (h64 : t.length ≤ 64) (hp : ∀ k, k < P.length → 0 < (P.getD k []).length) : bitL (unionM t P) 64 = covI t P t.length := by
  rw [← covI_far t P (64 - t.length), show t.length + (64 - t.length) = 64 by omega]
  unfold bitL covI
  congr 1
  apply List.filter_congr
  intro x _
  exact union_bit hp x
set_option maxHeartbeats 4000000 in
theorem spec_coveredby (vt vL : Value) (t : List Int) (P : List (List Int)) (w : World) (ht : IntsAt w vt t) (hL : RowsAt w vL P) (h1 : t.length ≤ 1048576) (hn : P.length ≤ 1048576) (hg : ∀ k, k < P.length → (P.getD k []).length ≤ 1048576) :
    Calls Try.prog 37 #[vt, vL] w (LCOut (coverE t P) w) := by
  obtain ⟨i0, hi, hz0, hz1, hz2⟩ := info_parts infoI64
  have q1 := spec_ok6 vL P w hL hn hg
  have q2 := fun m => spec_pits vt t (w.drewN m) (ht.draws m) h1
  have HT := Bx.mk ht
  have HL := Bx.mk hL
  have HO : Bx (coverE t P = if phsB P = true then (if pitB t = true then (bitL (unionM t P) 64, 0) else ([], 7)) else ([], 1)) := Bx.mk rfl
  obtain ⟨A, c, rfl⟩ := ints_form ht
  obtain ⟨B, d, rfl⟩ := rows_form hL
  clear ht hL hg
  generalize coverE t P = u at HO ⊢
  cases hph : phsB P
  · have HE : Bx (u = ([], 1)) := Bx.mk (by rw [HO.out, hph]; rfl)
    rw [hph] at q1
    clear HO hph
    go_enter Try.func37, Try.ntmps37
    go_wp2_with (fail)
    refine q1.mono ?_
    rintro r w1 ⟨rfl, n, rfl⟩
    go_wp2_with (fail)
    go_returns
    exact lc_nil HE.out (below_draws (Below.refl _ _) n)
  · rw [hph] at q1
    cases hpt : pitB t
    · have HE : Bx (u = ([], 7)) := Bx.mk (by rw [HO.out, hph, hpt]; rfl)
      rw [hpt] at q2
      clear HO hph hpt
      go_enter Try.func37, Try.ntmps37
      go_wp2_with (fail)
      refine q1.mono ?_
      rintro r w1 ⟨rfl, n, rfl⟩
      go_wp2_with (fail)
      refine (q2 _).mono ?_
      rintro r w1 ⟨rfl, rfl⟩
      go_wp2_with (fail)
      go_returns
      exact lc_nil HE.out (below_draws (Below.refl _ _) n)
    · have l1 := (pit_yes hpt).1
      obtain ⟨l2, l3⟩ := phs_yes hph
      have HE : Bx (u = (covI t P t.length, 0)) := Bx.mk (by rw [HO.out, hph, hpt, cover_same l1 (fun k hk => by have := (ph_yes (l3 k hk)).2; omega)]; rfl)
      have q3 := fun W (hW : Below w.heap.size w W) => spec_covered _ _ t P W (HT.out.below hW) (HL.out.below hW) l1 l2 (fun k hk => (ph_yes (l3 k hk)).2.2)
      rw [hpt] at q2
      clear HO hph hpt l3
      go_enter Try.func37, Try.ntmps37
      go_wp2_with (fail)
      refine q1.mono ?_
      rintro r w1 ⟨rfl, n, rfl⟩
      go_wp2_with (fail)
      refine (q2 _).mono ?_
      rintro r w1 ⟨rfl, rfl⟩
      have B1 := below_draws (Below.refl w.heap.size w) n
      go_wp2_with (fail)
      refine (q3 _ B1).mono ?_
      rintro r w3 ⟨v, rfl, ho, hb⟩
      have B3 := Bx.mk (B1.trans (hb.mono B1.size))
      have HR := Bx.mk (owndown (b1 := w.heap.size) B1.size ho)
      obtain ⟨A3, c3, rfl⟩ := own_len ho
      have hs3 := B3.out.size
      clear ho hb q3 B1 HT HL
      go_wp2_with (fail)
      go_loopw [7, 8] (fun v i wr => ∃ k : Nat, k ≤ t.length ∧ i = .int .i64 k ∧ wr.ownsRow w3.heap.size 2 1 v (covI t P k).length (ints (covI t P k)) ∧ Below w3.heap.size w3 wr) (fun _ i _ => t.length - (intOf i).toNat)
      case atStart => exact ⟨0, Nat.zero_le _, rfl, World.ownsRow_lit _ _ _ (Nat.le_refl _) (by decide) (by decide), (Below.refl _ _).alloc (Nat.le_refl _) _⟩
      case round =>
        obtain ⟨k, hk, rfl, hown, hbw⟩ := hrel
        have hsz := hbw.size
        by_cases hlt : k < t.length
        · have k0 : (0 : Int) ≤ (k : Int) := by omega
          have k1 : (k : Int) < (t.length : Int) := by omega
          have d1 : decide ((k : Int) < (t.length : Int)) = true := decide_eq_true k1
          have HLk := Bx.mk (covI_len t P k)
          obtain ⟨g, cap, hv, _, lg⟩ := HR.out.form (by omega)
          injection hv with hA _ hC
          subst hA hC
          have c1 : wr.cell? ⟨g, k, none⟩ = some (.bool (covL t P k)) := (hbw.cell (p := ⟨g, k, none⟩) lg).trans (by rw [HR.out.cellAt k (by omega), bls_at _ _ _ hlt])
          cases ho : covL t P k
          · have HS := Bx.mk (covI_no ho)
            rw [ho] at c1
            clear ho
            go_wp2_with (fail)
            go_roundw
            case rel => exact ⟨k + 1, by omega, by go_num, by rw [HS.out]; exact hown, hbw⟩
            case measure => simp [intOf]; omega
          · have HS := Bx.mk (covI_yes ho)
            rw [ho] at c1
            clear ho
            go_wp2_with ((at_builtin; refine wpList_append_own _ rfl _ _ 27 rfl w3.heap.size 2 i0 (.int .i64 0) 1 8 Try.underlying27 hi hz0 hz1 hz2 rfl (by decide) _ _ _ rfl (hown.alloc _) ⟨wr.heap.size, 0, none⟩ 1 1 [.int .i64 k] rfl rfl (cell_one_new _ _ _) (fun x hx => by simp at hx; subst hx; rfl) (by have := HLk.out; unfold maxLen; omega) (by have := HLk.out; omega) (by simp; omega) ?_; intro v' w4 hown' hgrow3 hnil3))
            have hown2 : w4.ownsRow w3.heap.size 2 1 v' (covI t P (k + 1)).length (ints (covI t P (k + 1))) := by
              rw [HS.out, ints_snoc', List.length_append]; exact hown'
            have hb2 : Below w3.heap.size w3 w4 := below_app' hbw hown (Nat.le_refl _) hgrow3
            clear hown' hgrow3 hnil3 hown
            go_roundw
            case rel => exact ⟨k + 1, by omega, by go_num, hown2, hb2⟩
            case measure => simp [intOf]; omega
        · obtain rfl : k = t.length := by omega
          have d1 : decide ((t.length : Int) < (t.length : Int)) = false := decide_eq_false (by omega)
          have HOW := Bx.mk (owndown (b1 := w.heap.size) hs3 hown)
          have HBW := Bx.mk (B3.out.trans (hbw.mono hs3))
          obtain ⟨A4, c4, rfl⟩ := own_len hown
          clear hown hbw
          go_wp2_with (fail)
          go_returns
          exact lc_some HE.out HOW.out HBW.out
end Go.Proofs.Ytobhmoohalkijaa

namespace Go.Proofs.Ytobhmoohalkijaa.fnExactCoveredBy
open Go.ChangeShapes Go.WideShapes Go.ChangeAt Go.RowKit
set_option linter.unusedVariables false
set_option linter.unusedSimpArgs false
set_option maxRecDepth 100000

set_option maxHeartbeats 4000000 in
theorem walk (v0 : Value) (zs0 : List Int) {w : World} (w0 : IntsAt w v0 zs0 ∧ zs0.length ≤ 9223372036854775807) (v1 : Value) (LL1 : List (List Int)) (w1 : RowsAt w v1 LL1 ∧ LL1.length ≤ 9223372036854775807 ∧ ∀ k, k < LL1.length → (LL1.getD k []).length ≤ 9223372036854775807) :
    Calls Try.prog 10 #[v0, v1] w fun e w' => e = .returned (.bool true) ∧ Below w.heap.size w w' := by
  obtain ⟨hi1, hln1, hlg1⟩ := w1
  obtain ⟨A1, c1, rfl⟩ := rows_form hi1
  have HI1 := Bx.mk hi1
  have HG1 := Bx.mk hlg1
  clear hi1 hlg1
  obtain ⟨hi0, hmax0⟩ := w0
  obtain ⟨A0, c0, rfl⟩ := len_of hi0
  by_cases hb0 : 1048576 < zs0.length
  · clear hi0
    go_enter Try.func10, Try.ntmps10
    go_wp2_with (fail)
    go_ret
    exact ⟨rfl, Below.refl _ _⟩
  · have hz0 : zs0.length ≤ 1048576 := by omega
    have HI0 := Bx.mk hi0
    clear hi0
    have B0 : Bx (Below w.heap.size w w) := Bx.mk (Below.refl _ _)
    go_enter Try.func10, Try.ntmps10
    go_wp2_with (fail)
    refine (sz_rows _ LL1 1048576 w (HI1.out.below B0.out) ⟨by decide, by decide⟩ hln1 HG1.out).mono ?_
    rintro e1 q1 ⟨z1, rfl, hz1, hb⟩
    have B1 : Bx (Below w.heap.size w q1) := Bx.mk (B0.out.trans (hb.mono B0.out.size))
    have SZ1 : Bx (w.heap.size ≤ q1.heap.size) := Bx.mk hb.size
    clear hb
    rcases hz1 with rfl | ⟨hy1, hx1, SM1⟩
    · go_wp2_with (fail)
      go_ret
      exact ⟨rfl, B1.out⟩
    have SM1 := Bx.mk SM1
    have hd1 : decide (z1 < 0) = false := decide_eq_false (by omega)
    go_wp2_with (fail)
    have hs : ∀ u0 u1 W, IntsAt W u0 zs0 → RowsAt W u1 LL1 → Calls Try.prog 37 #[u0, u1] W (RowOut ((coverE zs0 LL1).1) (.int .i64 (coverE zs0 LL1).2) W) := fun u0 u1 W h0 h1 => spec_coveredby u0 u1 zs0 LL1 W h0 h1 (by omega) SM1.out.1 SM1.out.2
    have hi : ∀ u0 u1 W, IntsAt W u0 zs0 → RowsAt W u1 LL1 → Calls Try.prog 38 #[u0, u1] W (RowOut ((coverE zs0 LL1).1) (.int .i64 (coverE zs0 LL1).2) W) := fun u0 u1 W h0 h1 => impl_coveredby u0 u1 zs0 LL1 W h0 h1 (by omega) SM1.out.1 SM1.out.2
    have HL : Bx (((coverE zs0 LL1).1).length ≤ 64) := Bx.mk (coverE_len zs0 LL1)
    generalize (coverE zs0 LL1).1 = ys at hs hi HL
    generalize (coverE zs0 LL1).2 = cc at hs hi
    refine (copy_ints _ zs0 q1 (HI0.out.below B1.out) (by omega)).mono ?_
    rintro e2 q2 ⟨va0, rfl, ho, hb⟩
    have B2 : Bx (Below w.heap.size w q2) := Bx.mk (B1.out.trans (hb.mono B1.out.size))
    have SZ2 : Bx (q1.heap.size ≤ q2.heap.size) := Bx.mk hb.size
    have Oa0_2 := Bx.mk ho
    have Ua0 := Bx.mk (own_hi ho)
    clear ho
    clear hb
    go_wp2_with (fail)
    refine (copy_rows _ LL1 q2 (HI1.out.below B2.out) SM1.out.1 SM1.out.2).mono ?_
    rintro e3 q3 ⟨va1, Va1, rfl, ho, hb⟩
    have B3 : Bx (Below w.heap.size w q3) := Bx.mk (B2.out.trans (hb.mono B2.out.size))
    have SZ3 : Bx (q2.heap.size ≤ q3.heap.size) := Bx.mk hb.size
    have Oa0_3 := Bx.mk (own_below Oa0_2.out hb)
    clear Oa0_2
    have Oa1_3 := Bx.mk ho
    have Ua1 := Bx.mk (fun i hi => own_hi (ho.row i hi))
    clear ho
    clear hb
    go_wp2_with (fail)
    refine (hs _ _ _ (IntsAt.own Oa0_3.out) (Oa1_3.out.at)).mono ?_
    rintro e4 q4 ⟨vw, rfl, ho, hb⟩
    have B4 : Bx (Below w.heap.size w q4) := Bx.mk (B3.out.trans (hb.mono B3.out.size))
    have SZ4 : Bx (q3.heap.size ≤ q4.heap.size) := Bx.mk hb.size
    have Oa0_4 := Bx.mk (own_below Oa0_3.out hb)
    have Oa1_4 := Bx.mk (RowsOwn.below Oa1_3.out hb)
    clear Oa0_3 Oa1_3
    have Ow_4 := Bx.mk ho
    have Uw := Bx.mk (own_hi ho)
    clear ho
    clear hb
    go_wp2_with (fail)
    refine (copy_ints _ zs0 q4 (HI0.out.below B4.out) (by omega)).mono ?_
    rintro e5 q5 ⟨vb0, rfl, ho, hb⟩
    have B5 : Bx (Below w.heap.size w q5) := Bx.mk (B4.out.trans (hb.mono B4.out.size))
    have SZ5 : Bx (q4.heap.size ≤ q5.heap.size) := Bx.mk hb.size
    have Oa0_5 := Bx.mk (own_below Oa0_4.out hb)
    have Oa1_5 := Bx.mk (RowsOwn.below Oa1_4.out hb)
    have Ow_5 := Bx.mk (own_below Ow_4.out hb)
    clear Oa0_4 Oa1_4 Ow_4
    have Ob0_5 := Bx.mk ho
    have Ub0 := Bx.mk (own_hi ho)
    clear ho
    clear hb
    go_wp2_with (fail)
    refine (copy_rows _ LL1 q5 (HI1.out.below B5.out) SM1.out.1 SM1.out.2).mono ?_
    rintro e6 q6 ⟨vb1, Vb1, rfl, ho, hb⟩
    have B6 : Bx (Below w.heap.size w q6) := Bx.mk (B5.out.trans (hb.mono B5.out.size))
    have SZ6 : Bx (q5.heap.size ≤ q6.heap.size) := Bx.mk hb.size
    have Oa0_6 := Bx.mk (own_below Oa0_5.out hb)
    have Oa1_6 := Bx.mk (RowsOwn.below Oa1_5.out hb)
    have Ow_6 := Bx.mk (own_below Ow_5.out hb)
    have Ob0_6 := Bx.mk (own_below Ob0_5.out hb)
    clear Oa0_5 Oa1_5 Ow_5 Ob0_5
    have Ob1_6 := Bx.mk ho
    have Ub1 := Bx.mk (fun i hi => own_hi (ho.row i hi))
    clear ho
    clear hb
    go_wp2_with (fail)
    refine (hi _ _ _ (IntsAt.own Ob0_6.out) (Ob1_6.out.at)).mono ?_
    rintro e7 q7 ⟨vg, rfl, ho, hb⟩
    have B7 : Bx (Below w.heap.size w q7) := Bx.mk (B6.out.trans (hb.mono B6.out.size))
    have SZ7 : Bx (q6.heap.size ≤ q7.heap.size) := Bx.mk hb.size
    have Oa0_7 := Bx.mk (own_below Oa0_6.out hb)
    have Oa1_7 := Bx.mk (RowsOwn.below Oa1_6.out hb)
    have Ow_7 := Bx.mk (own_below Ow_6.out hb)
    have Ob0_7 := Bx.mk (own_below Ob0_6.out hb)
    have Ob1_7 := Bx.mk (RowsOwn.below Ob1_6.out hb)
    clear Oa0_6 Oa1_6 Ow_6 Ob0_6 Ob1_6
    have Og_7 := Bx.mk ho
    have Ug := Bx.mk (own_hi ho)
    clear ho
    clear hb
    go_wp2_with (fail)
    refine (eq_ints _ _ ys ys _ (IntsAt.own Og_7.out) (IntsAt.own Ow_7.out) (by have := HL.out; omega) (by have := HL.out; omega)).mono ?_
    rintro e8 q8 ⟨rfl, hd⟩
    have hb := below_dr hd
    clear hd
    have B8 : Bx (Below w.heap.size w q8) := Bx.mk (B7.out.trans (hb.mono B7.out.size))
    have SZ8 : Bx (q7.heap.size ≤ q8.heap.size) := Bx.mk hb.size
    have Oa0_8 := Bx.mk (own_below Oa0_7.out hb)
    have Oa1_8 := Bx.mk (RowsOwn.below Oa1_7.out hb)
    have Ow_8 := Bx.mk (own_below Ow_7.out hb)
    have Ob0_8 := Bx.mk (own_below Ob0_7.out hb)
    have Ob1_8 := Bx.mk (RowsOwn.below Ob1_7.out hb)
    have Og_8 := Bx.mk (own_below Og_7.out hb)
    clear Oa0_7 Oa1_7 Ow_7 Ob0_7 Ob1_7 Og_7
    clear hb
    go_wp2_with (fail)
    refine (copy_ints _ zs0 q8 (HI0.out.below B8.out) (by omega)).mono ?_
    rintro e9 q9 ⟨vc0, rfl, ho, hb⟩
    have B9 : Bx (Below w.heap.size w q9) := Bx.mk (B8.out.trans (hb.mono B8.out.size))
    have SZ9 : Bx (q8.heap.size ≤ q9.heap.size) := Bx.mk hb.size
    have Oa0_9 := Bx.mk (own_below Oa0_8.out hb)
    have Oa1_9 := Bx.mk (RowsOwn.below Oa1_8.out hb)
    have Ow_9 := Bx.mk (own_below Ow_8.out hb)
    have Ob0_9 := Bx.mk (own_below Ob0_8.out hb)
    have Ob1_9 := Bx.mk (RowsOwn.below Ob1_8.out hb)
    have Og_9 := Bx.mk (own_below Og_8.out hb)
    clear Oa0_8 Oa1_8 Ow_8 Ob0_8 Ob1_8 Og_8
    have Oc0_9 := Bx.mk ho
    have Uc0 := Bx.mk (own_hi ho)
    clear ho
    clear hb
    go_wp2_with (fail)
    refine (eq_ints _ _ zs0 zs0 _ (IntsAt.own Ob0_9.out) (IntsAt.own Oc0_9.out) (by omega) (by omega)).mono ?_
    rintro e10 q10 ⟨rfl, hd⟩
    have hb := below_dr hd
    clear hd
    have B10 : Bx (Below w.heap.size w q10) := Bx.mk (B9.out.trans (hb.mono B9.out.size))
    have SZ10 : Bx (q9.heap.size ≤ q10.heap.size) := Bx.mk hb.size
    have Oa0_10 := Bx.mk (own_below Oa0_9.out hb)
    have Oa1_10 := Bx.mk (RowsOwn.below Oa1_9.out hb)
    have Ow_10 := Bx.mk (own_below Ow_9.out hb)
    have Ob0_10 := Bx.mk (own_below Ob0_9.out hb)
    have Ob1_10 := Bx.mk (RowsOwn.below Ob1_9.out hb)
    have Og_10 := Bx.mk (own_below Og_9.out hb)
    have Oc0_10 := Bx.mk (own_below Oc0_9.out hb)
    clear Oa0_9 Oa1_9 Ow_9 Ob0_9 Ob1_9 Og_9 Oc0_9
    clear hb
    go_wp2_with (fail)
    refine (copy_rows _ LL1 q10 (HI1.out.below B10.out) SM1.out.1 SM1.out.2).mono ?_
    rintro e11 q11 ⟨vc1, Vc1, rfl, ho, hb⟩
    have B11 : Bx (Below w.heap.size w q11) := Bx.mk (B10.out.trans (hb.mono B10.out.size))
    have SZ11 : Bx (q10.heap.size ≤ q11.heap.size) := Bx.mk hb.size
    have Oa0_11 := Bx.mk (own_below Oa0_10.out hb)
    have Oa1_11 := Bx.mk (RowsOwn.below Oa1_10.out hb)
    have Ow_11 := Bx.mk (own_below Ow_10.out hb)
    have Ob0_11 := Bx.mk (own_below Ob0_10.out hb)
    have Ob1_11 := Bx.mk (RowsOwn.below Ob1_10.out hb)
    have Og_11 := Bx.mk (own_below Og_10.out hb)
    have Oc0_11 := Bx.mk (own_below Oc0_10.out hb)
    clear Oa0_10 Oa1_10 Ow_10 Ob0_10 Ob1_10 Og_10 Oc0_10
    have Oc1_11 := Bx.mk ho
    have Uc1 := Bx.mk (fun i hi => own_hi (ho.row i hi))
    clear ho
    clear hb
    go_wp2_with (fail)
    refine (eq_rows _ _ LL1 LL1 _ (Ob1_11.out.at) (Oc1_11.out.at) (by have := SM1.out.1; omega) (by have := SM1.out.1; omega) (fun k hk => Nat.le_trans (SM1.out.2 k hk) (by decide)) (fun k hk => Nat.le_trans (SM1.out.2 k hk) (by decide))).mono ?_
    rintro e12 q12 ⟨rfl, hd⟩
    have hb := below_dr hd
    clear hd
    have B12 : Bx (Below w.heap.size w q12) := Bx.mk (B11.out.trans (hb.mono B11.out.size))
    have SZ12 : Bx (q11.heap.size ≤ q12.heap.size) := Bx.mk hb.size
    have Oa0_12 := Bx.mk (own_below Oa0_11.out hb)
    have Oa1_12 := Bx.mk (RowsOwn.below Oa1_11.out hb)
    have Ow_12 := Bx.mk (own_below Ow_11.out hb)
    have Ob0_12 := Bx.mk (own_below Ob0_11.out hb)
    have Ob1_12 := Bx.mk (RowsOwn.below Ob1_11.out hb)
    have Og_12 := Bx.mk (own_below Og_11.out hb)
    have Oc0_12 := Bx.mk (own_below Oc0_11.out hb)
    have Oc1_12 := Bx.mk (RowsOwn.below Oc1_11.out hb)
    clear Oa0_11 Oa1_11 Ow_11 Ob0_11 Ob1_11 Og_11 Oc0_11 Oc1_11
    clear hb
    go_wp2_with (fail)
    clear Oa0_12 Oa1_12 Oc0_12 Oc1_12
    refine (mark_ints _ zs0 q4.heap.size 1 _ Ob0_12.out (by omega) (by omega) (by omega)).mono ?_
    rintro e13 q13 ⟨rfl, hm, hg⟩
    have B13 : Bx (Below w.heap.size w q13) := Bx.mk (below_mark B12.out Ob0_12.out (B4.out.size) hg)
    have SZ13 : Bx (q12.heap.size ≤ q13.heap.size) := Bx.mk (grown_size hg)
    have Ow_13 := Bx.mk (own_young Ow_12.out Uw.out Ob0_12.out (by have := SZ1.out; have := SZ2.out; have := SZ3.out; have := SZ4.out; have := SZ5.out; have := SZ6.out; have := SZ7.out; have := SZ8.out; have := SZ9.out; have := SZ10.out; have := SZ11.out; have := SZ12.out; have := SZ13.out; omega) hg)
    have Ob1_13 := Bx.mk (rows_kept Ob1_12.out hg (fun g hg => by have := Ub0.out g hg; have := SZ1.out; have := SZ2.out; have := SZ3.out; have := SZ4.out; have := SZ5.out; have := SZ6.out; have := SZ7.out; have := SZ8.out; have := SZ9.out; have := SZ10.out; have := SZ11.out; have := SZ12.out; have := SZ13.out; omega))
    have Og_13 := Bx.mk (own_old Og_12.out Ub0.out (by have := SZ1.out; have := SZ2.out; have := SZ3.out; have := SZ4.out; have := SZ5.out; have := SZ6.out; have := SZ7.out; have := SZ8.out; have := SZ9.out; have := SZ10.out; have := SZ11.out; have := SZ12.out; have := SZ13.out; omega) hg)
    clear Ow_12 Ob0_12 Ob1_12 Og_12
    have Ob0_13 := Bx.mk hm
    clear hm hg
    go_wp2_with (fail)
    refine (mark_rows _ LL1 Vb1 q5.heap.size q6.heap.size (1 + zs0.length) _ Ob1_13.out Ub1.out SM1.out.1 SM1.out.2 (by omega)).mono ?_
    rintro e14 q14 ⟨zm, rfl, hzm, ht⟩
    have hdm : decide (zm < 0) = false := decide_eq_false (by omega)
    have B14 : Bx (Below w.heap.size w q14) := Bx.mk (ht.keeps B13.out (by have := B0.out.size; have := SZ1.out; have := SZ2.out; have := SZ3.out; have := SZ4.out; have := SZ5.out; have := SZ6.out; have := SZ7.out; have := SZ8.out; have := SZ9.out; have := SZ10.out; have := SZ11.out; have := SZ12.out; have := SZ13.out; omega) B13.out.size)
    have SZ14 : Bx (q13.heap.size ≤ q14.heap.size) := Bx.mk ht.size
    have Ow_14 := Bx.mk (own_turn Ow_13.out ht (fun g hg => .inl (by have := Uw.out g hg; have := SZ1.out; have := SZ2.out; have := SZ3.out; have := SZ4.out; have := SZ5.out; have := SZ6.out; have := SZ7.out; have := SZ8.out; have := SZ9.out; have := SZ10.out; have := SZ11.out; have := SZ12.out; have := SZ13.out; have := SZ14.out; omega)))
    have Og_14 := Bx.mk (own_turn Og_13.out ht (fun g hg => .inr (by have := own_lo Og_13.out g hg; have := SZ1.out; have := SZ2.out; have := SZ3.out; have := SZ4.out; have := SZ5.out; have := SZ6.out; have := SZ7.out; have := SZ8.out; have := SZ9.out; have := SZ10.out; have := SZ11.out; have := SZ12.out; have := SZ13.out; have := SZ14.out; omega)))
    clear Ow_13 Ob0_13 Ob1_13 Og_13
    clear ht
    go_wp2_with (fail)
    refine (eq_ints _ _ ys ys _ (IntsAt.own Og_14.out) (IntsAt.own Ow_14.out) (by have := HL.out; omega) (by have := HL.out; omega)).mono ?_
    rintro e15 q15 ⟨rfl, hd⟩
    have hb := below_dr hd
    clear hd
    have B15 : Bx (Below w.heap.size w q15) := Bx.mk (B14.out.trans (hb.mono B14.out.size))
    have SZ15 : Bx (q14.heap.size ≤ q15.heap.size) := Bx.mk hb.size
    have Ow_15 := Bx.mk (own_below Ow_14.out hb)
    have Og_15 := Bx.mk (own_below Og_14.out hb)
    clear Ow_14 Og_14
    clear hb
    go_wp2_with (fail)
    refine (mark_ints _ ys q6.heap.size 1 _ Og_15.out (by have := HL.out; omega) (by omega) (by omega)).mono ?_
    rintro e16 q16 ⟨rfl, hm, hg⟩
    have B16 : Bx (Below w.heap.size w q16) := Bx.mk (below_mark B15.out Og_15.out (B6.out.size) hg)
    have SZ16 : Bx (q15.heap.size ≤ q16.heap.size) := Bx.mk (grown_size hg)
    have Ow_16 := Bx.mk (own_young Ow_15.out Uw.out Og_15.out (by have := SZ1.out; have := SZ2.out; have := SZ3.out; have := SZ4.out; have := SZ5.out; have := SZ6.out; have := SZ7.out; have := SZ8.out; have := SZ9.out; have := SZ10.out; have := SZ11.out; have := SZ12.out; have := SZ13.out; have := SZ14.out; have := SZ15.out; have := SZ16.out; omega) hg)
    clear Ow_15 Og_15
    have Og_16 := Bx.mk hm
    clear hm hg
    go_wp2_with (fail)
    refine (held_ints _ ys.length 1 _ (IntsAt.own (by rw [marks_len]; exact Og_16.out)) (by have := HL.out; omega) (by omega) (by omega)).mono ?_
    rintro e17 q17 ⟨rfl, hd⟩
    have hb := below_eq hd
    clear hd
    have B17 : Bx (Below w.heap.size w q17) := Bx.mk (B16.out.trans (hb.mono B16.out.size))
    have SZ17 : Bx (q16.heap.size ≤ q17.heap.size) := Bx.mk hb.size
    have Ow_17 := Bx.mk (own_below Ow_16.out hb)
    have Og_17 := Bx.mk (own_below Og_16.out hb)
    clear Ow_16 Og_16
    clear hb
    go_wp2_with (fail)
    refine (copy_ints _ zs0 q17 (HI0.out.below B17.out) (by omega)).mono ?_
    rintro e18 q18 ⟨vd0, rfl, ho, hb⟩
    have B18 : Bx (Below w.heap.size w q18) := Bx.mk (B17.out.trans (hb.mono B17.out.size))
    have SZ18 : Bx (q17.heap.size ≤ q18.heap.size) := Bx.mk hb.size
    have Ow_18 := Bx.mk (own_below Ow_17.out hb)
    have Og_18 := Bx.mk (own_below Og_17.out hb)
    clear Ow_17 Og_17
    have Od0_18 := Bx.mk ho
    have Ud0 := Bx.mk (own_hi ho)
    clear ho
    clear hb
    go_wp2_with (fail)
    refine (copy_rows _ LL1 q18 (HI1.out.below B18.out) SM1.out.1 SM1.out.2).mono ?_
    rintro e19 q19 ⟨vd1, Vd1, rfl, ho, hb⟩
    have B19 : Bx (Below w.heap.size w q19) := Bx.mk (B18.out.trans (hb.mono B18.out.size))
    have SZ19 : Bx (q18.heap.size ≤ q19.heap.size) := Bx.mk hb.size
    have Ow_19 := Bx.mk (own_below Ow_18.out hb)
    have Og_19 := Bx.mk (own_below Og_18.out hb)
    have Od0_19 := Bx.mk (own_below Od0_18.out hb)
    clear Ow_18 Og_18 Od0_18
    have Od1_19 := Bx.mk ho
    have Ud1 := Bx.mk (fun i hi => own_hi (ho.row i hi))
    clear ho
    clear hb
    go_wp2_with (fail)
    refine (hi _ _ _ (IntsAt.own Od0_19.out) (Od1_19.out.at)).mono ?_
    rintro e20 q20 ⟨vh, rfl, ho, hb⟩
    have B20 : Bx (Below w.heap.size w q20) := Bx.mk (B19.out.trans (hb.mono B19.out.size))
    have SZ20 : Bx (q19.heap.size ≤ q20.heap.size) := Bx.mk hb.size
    have Ow_20 := Bx.mk (own_below Ow_19.out hb)
    have Og_20 := Bx.mk (own_below Og_19.out hb)
    have Od0_20 := Bx.mk (own_below Od0_19.out hb)
    have Od1_20 := Bx.mk (RowsOwn.below Od1_19.out hb)
    clear Ow_19 Og_19 Od0_19 Od1_19
    have Oh_20 := Bx.mk ho
    have Uh := Bx.mk (own_hi ho)
    clear ho
    clear hb
    go_wp2_with (fail)
    refine (eq_ints _ _ ys ys _ (IntsAt.own Oh_20.out) (IntsAt.own Ow_20.out) (by have := HL.out; omega) (by have := HL.out; omega)).mono ?_
    rintro e21 q21 ⟨rfl, hd⟩
    have hb := below_dr hd
    clear hd
    have B21 : Bx (Below w.heap.size w q21) := Bx.mk (B20.out.trans (hb.mono B20.out.size))
    have SZ21 : Bx (q20.heap.size ≤ q21.heap.size) := Bx.mk hb.size
    have Ow_21 := Bx.mk (own_below Ow_20.out hb)
    have Og_21 := Bx.mk (own_below Og_20.out hb)
    have Od0_21 := Bx.mk (own_below Od0_20.out hb)
    have Od1_21 := Bx.mk (RowsOwn.below Od1_20.out hb)
    have Oh_21 := Bx.mk (own_below Oh_20.out hb)
    clear Ow_20 Og_20 Od0_20 Od1_20 Oh_20
    clear hb
    go_wp2_with (fail)
    refine (held_ints _ ys.length 1 _ (IntsAt.own (by rw [marks_len]; exact Og_21.out)) (by have := HL.out; omega) (by omega) (by omega)).mono ?_
    rintro e22 q22 ⟨rfl, hd⟩
    have hb := below_eq hd
    clear hd
    have B22 : Bx (Below w.heap.size w q22) := Bx.mk (B21.out.trans (hb.mono B21.out.size))
    have SZ22 : Bx (q21.heap.size ≤ q22.heap.size) := Bx.mk hb.size
    have Ow_22 := Bx.mk (own_below Ow_21.out hb)
    have Og_22 := Bx.mk (own_below Og_21.out hb)
    have Od0_22 := Bx.mk (own_below Od0_21.out hb)
    have Od1_22 := Bx.mk (RowsOwn.below Od1_21.out hb)
    have Oh_22 := Bx.mk (own_below Oh_21.out hb)
    clear Ow_21 Og_21 Od0_21 Od1_21 Oh_21
    clear hb
    go_wp2_with (fail)
    go_ret
    exact ⟨rfl, B22.out⟩

theorem own : ownKnob Try.prog.godebug = none := by kernel_rfl
theorem laidOut : laidOutB Try.prog = true := by kernel_rfl

set_option maxRecDepth 100000 in
theorem lifted (os : Os) (started : os.Started) (H : Type) (enc : TypeId × Value → H) :
    ReturnsInHanded {} Try.checked os 10 .any (Rows.fnExactCoveredBySpec.pre6 enc Try.prog Try.f10 Rows.fnExactCoveredByRow.domain false) (Rows.fnExactCoveredBySpec.post enc Try.prog Try.f10 false true false false) := by
  refine returnsInHanded_of_change (C := Try.checked) own started (by kernel_rfl) Try.func10
    (ChangeSpec.witness6 (enc := enc) (C := Try.checked) false ⟨#[], #[.slice none 0 0, .slice none 0 0], []⟩ 8 (by kernel_rfl) (by kernel_rfl) (by kernel_rfl) (by kernel_rfl)) ?_
  intro W base args ds gs before hval0 hW hcnd _
  have hval : ∀ (j : Nat) t v, Try.f10.params[j]? = some t → args[j]? = some v → Value.okWide Try.prog W .any base t v := hval0
  have hW' := hW
  obtain ⟨p, q, hA0, hV, rfl, hfz, hnd⟩ := hW
  have hA : DataW.TrodAll enc Try.prog W 0 (fun _ => true) true Try.f10.params.toList args.toList ds p := hA0
  rw [Try.params10] at hA hval
  obtain ⟨v0, vs0, d0, ds0, p0, q0, hargs, rfl, rfl, h0, r0⟩ := trodAll_cons hA
  obtain ⟨v1, vs1, d1, ds1, p1, q1, rfl, rfl, rfl, h1, r1⟩ := trodAll_cons r0
  obtain ⟨rfl, rfl, rfl⟩ := trodAll_nil r1
  obtain rfl : args = #[v0, v1] := by cases args; simp_all
  obtain ⟨rfl, rfl⟩ := trodVars_none hV
  obtain ⟨zs0, w0⟩ := arg_ints (hval 0 27 v0 rfl rfl) h0 (fun x hx => hW'.lt x (by simp [hx]))
  obtain ⟨LL1, w1⟩ := arg_rows (hval 1 22 v1 rfl rfl) h1
  clear hA0 hval0
  refine (walk v0 zs0 w0 v1 LL1 w1).mono fun e W' ⟨he, hb⟩ => ?_
  subst he
  exact ⟨_, rfl, post_law laidOut (by kernel_rfl) (by kernel_rfl) Try.underlying4 rfl hW' rfl hb⟩

theorem closed : joinedFacts Try.pinned.checked.prog 10 Try.f10 Rows.fnExactCoveredBySpec Rows.fnExactCoveredByRow = true := by
  unfold joinedFacts
  rw [may, lifts, made]
  kernel_rfl
theorem over : Rows.fnExactCoveredByRow.holds Try.pinned (OpenSpec.ofChange Rows.fnExactCoveredBySpec) :=
  OpenClaim.holds_of_wide 10 Try.f10 rfl rfl rfl rfl rfl rfl rfl ⟨rfl, rfl, rfl, rfl, rfl⟩ rfl rfl rfl rfl rfl (by kernel_rfl) Try.func10 closed
    (of_decide_eq_true (by kernel_rfl)) (by unfold Func.isWrapper; first | (rw [if_pos (by decide +kernel)]; kernel_rfl) | (rw [if_neg (by decide +kernel)]; exact ⟨rfl, rfl⟩))
    (fun os started H enc _ => lifted os started H enc)

theorem proved : Rows.FnExactCoveredBySaid := over
#print axioms proved
end Go.Proofs.Ytobhmoohalkijaa.fnExactCoveredBy
