/- Slots with their windows, FitsTime and NextStart: the program. -/
import Derived.Test.YtidblpamolimpaaHg2
import Derived.Test.YtidblpamolimpaaAr
import Derived.Laws.Tables
namespace Go.Proofs.Ytidblpamolimpaa
open Go.ChangeShapes Go.WideShapes Go.ChangeAt Go.RowKit
set_option linter.unusedVariables false
set_option linter.unusedSimpArgs false
set_option maxRecDepth 100000

def lenW (x : It) : Int := (x.u - x.f + 1440) % 1440
/-- a function value that tells at which times an item may begin -/
def WinAt (w : World) (F : Value) (x : It) (s : Int) : Prop :=
  (F = .func (.func 37) #[] #[] ∧ seaB x s = false) ∨
  ∃ g h, F = .func (.func 39) #[] #[.pointer (some ⟨g, 0, none⟩), .pointer (some ⟨h, 0, none⟩)] ∧ BoxN w g #[.string x.nm, .int .i64 x.f, .int .i64 x.u, .int .i64 x.s, .int .i64 x.m, .int .i64 x.p] 25 ∧ BoxN w h #[.int .i64 (lenW x)] 2 ∧ seaB x s = true
theorem WinAt.below {w w' : World} {F : Value} {x : It} {s : Int} (h : WinAt w F x s) (hb : Below w.heap.size w w') : WinAt w' F x s := by
  rcases h with h | ⟨g, h1, e, b1, b2, hs⟩
  · exact .inl h
  · exact .inr ⟨g, h1, e, b1.below hb, b2.below hb, hs⟩
def slotV (x : It) (F : Value) : Value := .agg #[.string x.nm, .int .i64 x.f, .int .i64 x.u, .int .i64 x.s, .int .i64 x.m, .int .i64 x.p, F]
theorem impl_win1 (t : Int) (w : World) : Calls Try.prog 37 #[.int .i64 t] w fun e w' => e = .returned (.bool false) ∧ w = w' := by
  go_enter Try.func37, Try.ntmps37
  go_wp2_with (fail)
  go_ret
  exact ⟨rfl, rfl⟩
theorem impl_win2 (t : Int) (x : It) (g h : Nat) (w : World) (b1 : BoxN w g #[.string x.nm, .int .i64 x.f, .int .i64 x.u, .int .i64 x.s, .int .i64 x.m, .int .i64 x.p] 25) (b2 : BoxN w h #[.int .i64 (lenW x)] 2) (hx : OkI x) (ht : 0 ≤ t ∧ t ≤ 1000000000000) :
    Calls Try.prog 39 #[.int .i64 t, .pointer (some ⟨g, 0, none⟩), .pointer (some ⟨h, 0, none⟩)] w fun e w' => e = .returned (.bool (winB x t)) ∧ ∃ n, w' = w.drewN n := by
  have c1 := b1.c (k := 1) rfl
  have d0 := b2.c (k := 0) rfl
  have l1 := b1.lt
  have l2 := b2.lt
  have hq := fun W => impl_behind x.f t W hx.f ht
  have HW : Bx (winB x t = decide ((t - x.f + 1440) % 1440 < lenW x)) := Bx.mk rfl
  generalize (t - x.f + 1440) % 1440 = a at hq HW
  generalize lenW x = b at d0 HW
  clear b1 b2 hx
  go_enter Try.func39, Try.ntmps39
  go_wp2_with (fail)
  go_quiet ((go_at_call 38; with_reducible exact quiet_eq (hq _)))
  go_wp2_with (fail)
  go_ret
  exact ⟨ret_bool HW.out.symm, _, rfl⟩
theorem BoxN.arr {w : World} {g : Nat} {xs : Array Value} {t : TypeId} (h : BoxN w g xs t) : ArrAt w g xs.toList t := by
  unfold ArrAt; unfold BoxN at h; simpa using h
theorem BoxN.load {P : Program} {w : World} {g : Nat} {xs : Array Value} {t : TypeId} (h : BoxN w g xs t) (d : TypeDesc) (hu : P.underlying t = some d) (hd : (match d with | .struct _ | .array _ _ => true | _ => false) = true) (hi : (P.info? t).map (·.size) = some xs.size) :
    (Instr.loadAt t (.pointer (some ⟨g, 0, none⟩))).run P w = .ok (.agg xs) w := by
  simp only [Instr.loadAt, Instr.sureAddr, Sem.run_bind, Sem.run_pure, Result.andThen]
  exact run_loadVar_row _ _ t t xs (0, 0) _ h hu hd hi
theorem BoxN.store {P : Program} {w : World} {g : Nat} {xs : Array Value} {t : TypeId} (h : BoxN w g xs t) (c' : Array Value) (hi : (P.info? t).map (·.size) = some c'.size) (ho : xs.size = c'.size) (h1 : c'.all (·.oneCell') = true) :
    (Instr.storeAt t (.pointer (some ⟨g, 0, none⟩)) (.agg c')).run P w = .ok () (w.setRow g c') := by
  simp only [Instr.storeAt, Instr.sureAddr, Sem.run_bind, Sem.run_pure, Result.andThen]
  exact run_storeVar_row _ _ t t xs c' h hi ho h1
theorem BoxN.row {w : World} {g : Nat} {xs : Array Value} {t : TypeId} (h : BoxN w g xs t) (c' : Array Value) : BoxN (w.setRow g c') g c' t := by
  unfold BoxN at h ⊢
  simp [World.setRow, Array.getElem?_modify, h]
theorem BoxN.rowo {w : World} {g b : Nat} {xs : Array Value} {t : TypeId} (h : BoxN w g xs t) (hb : b ≠ g) (c' : Array Value) : BoxN (w.setRow b c') g xs t := by
  unfold BoxN at h ⊢
  simp only [World.setRow, Array.getElem?_modify]
  rw [if_neg hb]; exact h
theorem info_item : (Try.prog.info? 25).map (·.size) = some 6 := by kernel_rfl
theorem info_slot : (Try.prog.info? 50).map (·.size) = some 7 := by kernel_rfl
theorem wpR_bld {P : Program} {ops : Array Oper} {Q : Exit → Act → World → Prop} {a : Act} {w : World} {rest : List Oper} {o : Oper} (hg : o.guard = none) (t : TypeId) (parts : Array (Nat × Operand)) (hop : o.op = Op.build t parts) (vs : Array (Nat × Value)) (hv : (parts.map fun (i, x) => (i, a.eval x)) = vs) (v : Value)
    (hrun : (Instr.build t vs).run P w = .ok v w) (hK : wpList P ops Q rest (a.put o.dst v) w) : wpList P ops Q (o :: rest) a w := by
  refine wpR_val hg v (w2 := w) ?_ hK
  unfold execOp
  simp only [hop]
  rw [hv, Sem.run_bind, hrun]
  rfl
theorem wpR_mkf {P : Program} {ops : Array Oper} {Q : Exit → Act → World → Prop} {a : Act} {w : World} {rest : List Oper} {o : Oper} (hg : o.guard = none) (fn : Fn) (first cap : Array Operand) (hop : o.op = Op.makeFunc fn first cap) (f2 c2 : Array Value) (h1 : first.map a.eval = f2) (h2 : cap.map a.eval = c2)
    (hK : wpList P ops Q rest (a.put o.dst (.func fn f2 c2)) w) : wpList P ops Q (o :: rest) a w := by
  refine wpR_val hg _ (w2 := w) ?_ hK
  unfold execOp
  simp only [hop]
  rw [h1, h2]
  rfl
theorem built_slot (a b c d e f : Value) (fn : Fn) (p q : Array Value) : Try.prog.built 50 [(0, .agg #[a, b, c, d, e, f]), (1, .func fn p q)] = some #[a, b, c, d, e, f, .func fn p q] := by
  kernel_rfl
theorem build_slot (x : It) (fn : Fn) (p q : Array Value) (w : World) : (Instr.build 50 #[(0, itV x), (1, .func fn p q)]).run Try.prog w = .ok (slotV x (.func fn p q)) w :=
  run_build w 50 _ _ (built_slot _ _ _ _ _ _ _ _ _)
set_option maxHeartbeats 4000000 in
theorem impl_slotof (x : It) (s : Int) (w : World) (hx : OkI x) :
    Calls Try.prog 22 #[itV x, .int .i64 s] w fun e w' => ∃ F, e = .returned (slotV x F) ∧ WinAt w' F x s ∧ Below w.heap.size w w' := by
  have hp := fun W => impl_played x s W
  have hq := fun W => impl_behind x.f x.u W hx.f ⟨hx.u.1, by have := hx.u.2; omega⟩
  rw [show (x.u - x.f + 1440) % 1440 = lenW x from rfl] at hq
  have hmf : ∀ (fn : Fn) (first cap : Array Value) (w : World), (Instr.makeFunc fn first cap).run Try.prog w = .ok (.func fn first cap) w := fun _ _ _ _ => rfl
  have hbs := Bx.mk (build_slot x)
  unfold itV at *
  have P0 := (BoxN.at w w.heap.size #[.string x.nm, .int .i64 x.f, .int .i64 x.u, .int .i64 x.s, .int .i64 x.m, .int .i64 x.p] 25 rfl).alloc (.cells #[.string ⟨#[]⟩, .int .i64 0, .int .i64 0, .int .i64 0, .int .i64 0, .int .i64 0, .nilFunc] 50)
  have R0 := BoxN.at (w.alloc (.cells #[.string x.nm, .int .i64 x.f, .int .i64 x.u, .int .i64 x.s, .int .i64 x.m, .int .i64 x.p] 25)) (w.heap.size + 1) #[.string ⟨#[]⟩, .int .i64 0, .int .i64 0, .int .i64 0, .int .i64 0, .int .i64 0, .nilFunc] 50 (by simp)
  have B0 : Below w.heap.size w ((w.alloc (.cells #[.string x.nm, .int .i64 x.f, .int .i64 x.u, .int .i64 x.s, .int .i64 x.m, .int .i64 x.p] 25)).alloc (.cells #[.string ⟨#[]⟩, .int .i64 0, .int .i64 0, .int .i64 0, .int .i64 0, .int .i64 0, .nilFunc] 50)) := ((Below.refl _ _).alloc (Nat.le_refl _) _).alloc (by simp) _
  generalize hW : (w.alloc (.cells #[.string x.nm, .int .i64 x.f, .int .i64 x.u, .int .i64 x.s, .int .i64 x.m, .int .i64 x.p] 25)).alloc (.cells #[.string ⟨#[]⟩, .int .i64 0, .int .i64 0, .int .i64 0, .int .i64 0, .int .i64 0, .nilFunc] 50) = W0 at P0 R0 B0
  have B0 := Bx.mk B0
  have P0 := Bx.mk P0
  have R0 := Bx.mk R0
  cases f : seaB x s
  · simp only [f] at hp
    have c0 := P0.out.c (k := 0) rfl
    have c1 := P0.out.c (k := 1) rfl
    have c2 := P0.out.c (k := 2) rfl
    have c3 := P0.out.c (k := 3) rfl
    have c4 := P0.out.c (k := 4) rfl
    have c5 := P0.out.c (k := 5) rfl
    have pl := P0.out.lt
    go_enter Try.func22, Try.ntmps22
    go_wp2_with (fail)
    try rw [hW]
    try clear hW
    refine (hp _).mono ?_
    rintro r w1 ⟨rfl, hb⟩
    have B1 := Bx.mk (B0.out.trans (hb.mono B0.out.size))
    have P1 := Bx.mk (P0.out.below hb)
    have R1 := Bx.mk (R0.out.below hb)
    clear hb B0 P0 R0 c0 c1 c2 c3 c4 c5 pl hp
    go_upto_region 2 with (fail)
    have hld := P1.out.load _ Try.underlying25 rfl info_item
    have hst := R1.out.store #[.string x.nm, .int .i64 x.f, .int .i64 x.u, .int .i64 x.s, .int .i64 x.m, .int .i64 x.p, .func (.func 37) #[] #[]] info_slot rfl (by simp [Value.oneCell'])
    have RF := R1.out.row #[.string x.nm, .int .i64 x.f, .int .i64 x.u, .int .i64 x.s, .int .i64 x.m, .int .i64 x.p, .func (.func 37) #[] #[]]
    have hB := setRow_below B1.out (show w.heap.size ≤ w.heap.size + 1 by omega) #[.string x.nm, .int .i64 x.f, .int .i64 x.u, .int .i64 x.s, .int .i64 x.m, .int .i64 x.p, .func (.func 37) #[] #[]]
    refine wp_region_lit ?_
    refine wpR_lod rfl 25 _ rfl (.pointer (some ⟨w.heap.size, 0, none⟩)) _ rfl hld ?_
    refine wpR_bld rfl 50 _ rfl #[(0, .agg #[.string x.nm, .int .i64 x.f, .int .i64 x.u, .int .i64 x.s, .int .i64 x.m, .int .i64 x.p]), (1, .func (.func 37) #[] #[])] (by simp [go_sem, Act.put, Act.eval]) (slotV x (.func (.func 37) #[] #[])) (hbs.out _ _ _ _) ?_
    unfold slotV
    refine wpR_sto rfl 50 _ _ rfl (.pointer (some ⟨w.heap.size + 1, 0, none⟩)) _ rfl rfl hst ?_
    refine wpList_nil ?_
    generalize (w1).setRow (w.heap.size + 1) _ = W2 at *
    clear hst hld
    go_wp2_with (fail)
    refine bodyPost_ret (v := slotV x (.func (.func 37) #[] #[])) ?_ rfl ⟨_, rfl, .inl ⟨rfl, f⟩, hB⟩
    exact results_cell_row Try.results22 _ W2 (w.heap.size + 1) _ _ (0, 0) _ (by simp [go_sem, Act.put]) RF Try.underlying50 rfl info_slot
  · simp only [f] at hp
    have c0 := P0.out.c (k := 0) rfl
    have c1 := P0.out.c (k := 1) rfl
    have c2 := P0.out.c (k := 2) rfl
    have c3 := P0.out.c (k := 3) rfl
    have c4 := P0.out.c (k := 4) rfl
    have c5 := P0.out.c (k := 5) rfl
    have pl := P0.out.lt
    go_enter Try.func22, Try.ntmps22
    go_wp2_with (fail)
    try rw [hW]
    try clear hW
    refine (hp _).mono ?_
    rintro r w1 ⟨rfl, hb⟩
    have B1 := Bx.mk (B0.out.trans (hb.mono B0.out.size))
    have P1 := Bx.mk (P0.out.below hb)
    have R1 := Bx.mk (R0.out.below hb)
    clear hb B0 P0 R0 c0 c1 c2 c3 c4 c5 pl hp
    have c0 := P1.out.c (k := 0) rfl
    have c1 := P1.out.c (k := 1) rfl
    have c2 := P1.out.c (k := 2) rfl
    have c3 := P1.out.c (k := 3) rfl
    have c4 := P1.out.c (k := 4) rfl
    have c5 := P1.out.c (k := 5) rfl
    have pl := P1.out.lt
    have S1 : w.heap.size + 1 < w1.heap.size := R1.out.lt
    go_upto_region 4 with (go_at_call 38; refine (hq _).mono ?_; rintro r w2 ⟨rfl, rfl⟩)
    have B2 := Bx.mk (B1.out.alloc B1.out.size (.cells #[.int .i64 (lenW x)] 2))
    have L2 := Bx.mk (BoxN.at w1 w1.heap.size #[.int .i64 (lenW x)] 2 rfl)
    have P2 := Bx.mk (P1.out.alloc (.cells #[.int .i64 (lenW x)] 2))
    have R2 := Bx.mk (R1.out.alloc (.cells #[.int .i64 (lenW x)] 2))
    clear B1 P1 R1 c0 c1 c2 c3 c4 c5 pl hq
    have hld := P2.out.load _ Try.underlying25 rfl info_item
    have hst := R2.out.store #[.string x.nm, .int .i64 x.f, .int .i64 x.u, .int .i64 x.s, .int .i64 x.m, .int .i64 x.p, .func (.func 39) #[] #[.pointer (some ⟨w.heap.size, 0, none⟩), .pointer (some ⟨w1.heap.size, 0, none⟩)]] info_slot rfl (by simp [Value.oneCell'])
    have RF := R2.out.row #[.string x.nm, .int .i64 x.f, .int .i64 x.u, .int .i64 x.s, .int .i64 x.m, .int .i64 x.p, .func (.func 39) #[] #[.pointer (some ⟨w.heap.size, 0, none⟩), .pointer (some ⟨w1.heap.size, 0, none⟩)]]
    have hB := setRow_below B2.out (show w.heap.size ≤ w.heap.size + 1 by omega) #[.string x.nm, .int .i64 x.f, .int .i64 x.u, .int .i64 x.s, .int .i64 x.m, .int .i64 x.p, .func (.func 39) #[] #[.pointer (some ⟨w.heap.size, 0, none⟩), .pointer (some ⟨w1.heap.size, 0, none⟩)]]
    have hwin : WinAt ((w1.alloc (.cells #[.int .i64 (lenW x)] 2)).setRow (w.heap.size + 1) #[.string x.nm, .int .i64 x.f, .int .i64 x.u, .int .i64 x.s, .int .i64 x.m, .int .i64 x.p, .func (.func 39) #[] #[.pointer (some ⟨w.heap.size, 0, none⟩), .pointer (some ⟨w1.heap.size, 0, none⟩)]]) (.func (.func 39) #[] #[.pointer (some ⟨w.heap.size, 0, none⟩), .pointer (some ⟨w1.heap.size, 0, none⟩)]) x s := .inr ⟨_, _, rfl, P2.out.rowo (by omega) _, L2.out.rowo (by omega) _, f⟩
    refine wp_region_lit ?_
    refine wpR_lod rfl 25 _ rfl (.pointer (some ⟨w.heap.size, 0, none⟩)) _ rfl hld ?_
    refine wpR_mkf rfl _ _ _ rfl #[] #[.pointer (some ⟨w.heap.size, 0, none⟩), .pointer (some ⟨w1.heap.size, 0, none⟩)] (by simp [go_sem, Act.put, Act.eval]) (by simp [go_sem, Act.put, Act.eval]) ?_
    refine wpR_bld rfl 50 _ rfl #[(0, .agg #[.string x.nm, .int .i64 x.f, .int .i64 x.u, .int .i64 x.s, .int .i64 x.m, .int .i64 x.p]), (1, .func (.func 39) #[] #[.pointer (some ⟨w.heap.size, 0, none⟩), .pointer (some ⟨w1.heap.size, 0, none⟩)])] (by simp [go_sem, Act.put, Act.eval]) (slotV x (.func (.func 39) #[] #[.pointer (some ⟨w.heap.size, 0, none⟩), .pointer (some ⟨w1.heap.size, 0, none⟩)])) (hbs.out _ _ _ _) ?_
    unfold slotV
    refine wpR_sto rfl 50 _ _ rfl (.pointer (some ⟨w.heap.size + 1, 0, none⟩)) _ rfl rfl hst ?_
    refine wpList_nil ?_
    generalize (w1.alloc (.cells #[.int .i64 (lenW x)] 2)).setRow (w.heap.size + 1) _ = W2 at *
    clear hst hld
    go_wp2_with (fail)
    refine bodyPost_ret (v := slotV x (.func (.func 39) #[] #[.pointer (some ⟨w.heap.size, 0, none⟩), .pointer (some ⟨w1.heap.size, 0, none⟩)])) ?_ rfl ⟨_, rfl, hwin, hB⟩
    exact results_cell_row Try.results22 _ W2 (w.heap.size + 1) _ _ (0, 0) _ (by simp [go_sem, Act.put]) RF Try.underlying50 rfl info_slot
end Go.Proofs.Ytidblpamolimpaa
