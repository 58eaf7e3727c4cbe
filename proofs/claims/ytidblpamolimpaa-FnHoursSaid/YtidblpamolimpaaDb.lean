/- An item with one field turned: what the model draws. -/
import Derived.Test.YtidblpamolimpaaDr
namespace Go.Proofs.Ytidblpamolimpaa
open Go.ChangeShapes Go.WideShapes Go.ChangeAt Go.RowKit
set_option linter.unusedVariables false
set_option linter.unusedSimpArgs false
set_option maxRecDepth 100000

theorem am_g (g T : Nat) (z : Int) (w : World) (h : Src w g T) (hT : T ≤ 100000) : Calls Try.prog 32 #[.pointer (some ⟨g, 0, none⟩), .slice (some ⟨w.heap.size, 0, none⟩) 4 4] (w.alloc (.cells #[.int .i64 (-1), .int .i64 1439, .int .i64 1440, .int .i64 z] 2)) (AmongOut g T [(-1), 1439, 1440, z] (w.alloc (.cells #[.int .i64 (-1), .int .i64 1439, .int .i64 1440, .int .i64 z] 2))) :=
  among_any g T w.heap.size 4 [(-1), 1439, 1440, z] _ (srcD_row h (World.grownBy_alloc w _ none) (fun k e => by cases e)) (by omega) rfl (by omega) ⟨by have := srcD_lt h; omega, by simp⟩ (fun k hk => by
    have P := BoxN.at w w.heap.size #[.int .i64 (-1), .int .i64 1439, .int .i64 1440, .int .i64 z] 2 rfl
    match k, hk with
    | 0, _ => exact P.c (k := 0) rfl
    | 1, _ => exact P.c (k := 1) rfl
    | 2, _ => exact P.c (k := 2) rfl
    | 3, _ => exact P.c (k := 3) rfl)


set_option maxHeartbeats 4000000 in
theorem draw_bend (g T : Nat) (x : It) (w : World) (h : Src w g T) (hT : T ≤ 10000) (hx : Dr x) : Calls Try.prog 15 #[.pointer (some ⟨g, 0, none⟩), itV x] w (ItOut g (T + 4) w) := by
  have S0 := ((St.start h).alloc (.cells #[.string x.nm, .int .i64 x.f, .int .i64 x.u, .int .i64 x.s, .int .i64 x.m, .int .i64 x.p] 25)).alloc (.cells #[.string ⟨#[]⟩, .int .i64 0, .int .i64 0, .int .i64 0, .int .i64 0, .int .i64 0] 25)
  have X0 := (BoxN.at w w.heap.size #[.string x.nm, .int .i64 x.f, .int .i64 x.u, .int .i64 x.s, .int .i64 x.m, .int .i64 x.p] 25 rfl).alloc (.cells #[.string ⟨#[]⟩, .int .i64 0, .int .i64 0, .int .i64 0, .int .i64 0, .int .i64 0] 25)
  have hz1 : (w.alloc (.cells #[.string x.nm, .int .i64 x.f, .int .i64 x.u, .int .i64 x.s, .int .i64 x.m, .int .i64 x.p] 25)).heap.size = w.heap.size + 1 := by simp only [World.alloc, Array.size_push]
  have R0 := BoxN.at (w.alloc (.cells #[.string x.nm, .int .i64 x.f, .int .i64 x.u, .int .i64 x.s, .int .i64 x.m, .int .i64 x.p] 25)) (w.heap.size + 1) #[.string ⟨#[]⟩, .int .i64 0, .int .i64 0, .int .i64 0, .int .i64 0, .int .i64 0] 25 hz1.symm
  have hgl := srcD_lt h
  generalize hW : (w.alloc (.cells #[.string x.nm, .int .i64 x.f, .int .i64 x.u, .int .i64 x.s, .int .i64 x.m, .int .i64 x.p] 25)).alloc (.cells #[.string ⟨#[]⟩, .int .i64 0, .int .i64 0, .int .i64 0, .int .i64 0, .int .i64 0] 25) = W0 at S0 X0 R0
  have S0 := Bx.mk S0
  have R0 := Bx.mk R0
  have X0 := Bx.mk X0
  have HX := Bx.mk hx
  have HWW := Bx.mk hW
  have HZ := Bx.mk hz1
  clear h hx hz1 hW
  unfold itV
  go_enter Try.func15, Try.ntmps15
  go_wp2_with (fail)
  rw [HWW.out]
  clear HWW HZ
  refine (pick_any g T 22 W0 S0.out.src (by omega) (by omega) (by omega)).mono ?_
  rintro e w1 ⟨n, hn, rfl, hs, hg⟩
  have S1 := Bx.mk (S0.out.next hs hg)
  have R1 := Bx.mk (R0.out.pick hg (by omega))
  have X1 := Bx.mk (X0.out.pick hg (by omega))
  clear hs hg S0 R0 X0
  obtain ⟨b0, hb0⟩ : ∃ b, b = w.heap.size := ⟨_, rfl⟩
  rw [← hb0] at X1 R1 hgl ⊢
  have hge : w.heap.size ≤ b0 := by omega
  clear hb0
  by_cases e0 : n = 0
  · subst e0
    have y := X1.out.c (k := 1) rfl
    have yl := X1.out.lt
    go_wp2_with (fail)
    refine (am_f g (T + 2) w1 S1.out.src (by omega)).mono ?_
    rintro e w4 ⟨z, hz, rfl, hs, hg⟩
    have S4 := Bx.mk ((S1.out.alloc (.cells #[.int .i64 (-1), .int .i64 1439, .int .i64 1440] 2)).next hs hg)
    have R4 := Bx.mk ((R1.out.alloc (.cells #[.int .i64 (-1), .int .i64 1439, .int .i64 1440] 2)).pick hg (by omega))
    have X4 := Bx.mk ((X1.out.alloc (.cells #[.int .i64 (-1), .int .i64 1439, .int .i64 1440] 2)).pick hg (by omega))
    have hzb : -10 ≤ z ∧ z ≤ 2000 := by
        simp at hz
        omega
    clear hs hg hz S1 R1 X1 y yl
    try clear y1
    have y := X4.out.c (k := 1) rfl
    have yf := X4.out.fr 1
    have yl := X4.out.lt
    go_upto_region 12 with (fail)
    have S5 := S4.out.set (b := b0) (by omega) 1 (.int .i64 z)
    have R5 := R4.out.other (b := b0) (o := 1) (by omega) (.int .i64 z)
    have X5 := X4.out.put 1 (.int .i64 z)
    generalize w4.setCell ⟨b0, 1, none⟩ (.int .i64 z) = w5 at S5 R5 X5 ⊢
    clear S4 R4 X4 y yf yl
    have hld := X5.load (P := Try.prog) _ Try.underlying25 rfl info_item
    have hst := R5.store (P := Try.prog) #[.string x.nm, .int .i64 z, .int .i64 x.u, .int .i64 x.s, .int .i64 x.m, .int .i64 x.p] info_item rfl (by simp [Value.oneCell'])
    have RF := R5.row #[.string x.nm, .int .i64 z, .int .i64 x.u, .int .i64 x.s, .int .i64 x.m, .int .i64 x.p]
    have SF := S5.row (b := b0 + 1) (by omega) #[.string x.nm, .int .i64 z, .int .i64 x.u, .int .i64 x.s, .int .i64 x.m, .int .i64 x.p]
    refine wp_region_lit ?_
    refine wpR_lod rfl 25 _ rfl (.pointer (some ⟨b0, 0, none⟩)) _ rfl hld ?_
    refine wpR_sto rfl 25 _ _ rfl (.pointer (some ⟨b0 + 1, 0, none⟩)) _ rfl rfl hst ?_
    refine wpList_nil ?_
    generalize w5.setRow (b0 + 1) _ = W2 at *
    clear hst hld
    go_wp2_with (fail)
    refine bodyPost_ret (v := .agg #[.string x.nm, .int .i64 z, .int .i64 x.u, .int .i64 x.s, .int .i64 x.m, .int .i64 x.p]) ?_ rfl ⟨⟨x.nm, z, x.u, x.s, x.m, x.p⟩, rfl, ⟨HX.out.n, hzb, HX.out.u, HX.out.s, HX.out.m, HX.out.p⟩, SF.src.more (by omega), SF.gr⟩
    exact results_cell_row Try.results15 _ W2 (b0 + 1) _ _ (0, 0) _ (by simp [go_sem, Act.put]) RF Try.underlying25 rfl info_item
  by_cases e1 : n = 1
  · subst e1
    have y := X1.out.c (k := 2) rfl
    have yl := X1.out.lt
    have y1 := X1.out.c (k := 1) rfl
    go_wp2_with (fail)
    refine (am_g g (T + 2) x.f w1 S1.out.src (by omega)).mono ?_
    rintro e w4 ⟨z, hz, rfl, hs, hg⟩
    have S4 := Bx.mk ((S1.out.alloc (.cells #[.int .i64 (-1), .int .i64 1439, .int .i64 1440, .int .i64 x.f] 2)).next hs hg)
    have R4 := Bx.mk ((R1.out.alloc (.cells #[.int .i64 (-1), .int .i64 1439, .int .i64 1440, .int .i64 x.f] 2)).pick hg (by omega))
    have X4 := Bx.mk ((X1.out.alloc (.cells #[.int .i64 (-1), .int .i64 1439, .int .i64 1440, .int .i64 x.f] 2)).pick hg (by omega))
    have hzb : -10 ≤ z ∧ z ≤ 2000 := by
        have := HX.out.f
        simp at hz
        omega
    clear hs hg hz S1 R1 X1 y yl
    try clear y1
    have y := X4.out.c (k := 2) rfl
    have yf := X4.out.fr 2
    have yl := X4.out.lt
    go_upto_region 12 with (fail)
    have S5 := S4.out.set (b := b0) (by omega) 2 (.int .i64 z)
    have R5 := R4.out.other (b := b0) (o := 2) (by omega) (.int .i64 z)
    have X5 := X4.out.put 2 (.int .i64 z)
    generalize w4.setCell ⟨b0, 2, none⟩ (.int .i64 z) = w5 at S5 R5 X5 ⊢
    clear S4 R4 X4 y yf yl
    have hld := X5.load (P := Try.prog) _ Try.underlying25 rfl info_item
    have hst := R5.store (P := Try.prog) #[.string x.nm, .int .i64 x.f, .int .i64 z, .int .i64 x.s, .int .i64 x.m, .int .i64 x.p] info_item rfl (by simp [Value.oneCell'])
    have RF := R5.row #[.string x.nm, .int .i64 x.f, .int .i64 z, .int .i64 x.s, .int .i64 x.m, .int .i64 x.p]
    have SF := S5.row (b := b0 + 1) (by omega) #[.string x.nm, .int .i64 x.f, .int .i64 z, .int .i64 x.s, .int .i64 x.m, .int .i64 x.p]
    refine wp_region_lit ?_
    refine wpR_lod rfl 25 _ rfl (.pointer (some ⟨b0, 0, none⟩)) _ rfl hld ?_
    refine wpR_sto rfl 25 _ _ rfl (.pointer (some ⟨b0 + 1, 0, none⟩)) _ rfl rfl hst ?_
    refine wpList_nil ?_
    generalize w5.setRow (b0 + 1) _ = W2 at *
    clear hst hld
    go_wp2_with (fail)
    refine bodyPost_ret (v := .agg #[.string x.nm, .int .i64 x.f, .int .i64 z, .int .i64 x.s, .int .i64 x.m, .int .i64 x.p]) ?_ rfl ⟨⟨x.nm, x.f, z, x.s, x.m, x.p⟩, rfl, ⟨HX.out.n, HX.out.f, hzb, HX.out.s, HX.out.m, HX.out.p⟩, SF.src.more (by omega), SF.gr⟩
    exact results_cell_row Try.results15 _ W2 (b0 + 1) _ _ (0, 0) _ (by simp [go_sem, Act.put]) RF Try.underlying25 rfl info_item
  by_cases e2 : n = 2
  · subst e2
    have y := X1.out.c (k := 3) rfl
    have yl := X1.out.lt
    go_wp2_with (fail)
    refine (am_s g (T + 2) w1 S1.out.src (by omega)).mono ?_
    rintro e w4 ⟨z, hz, rfl, hs, hg⟩
    have S4 := Bx.mk ((S1.out.alloc (.cells #[.int .i64 (-2), .int .i64 5, .int .i64 6] 2)).next hs hg)
    have R4 := Bx.mk ((R1.out.alloc (.cells #[.int .i64 (-2), .int .i64 5, .int .i64 6] 2)).pick hg (by omega))
    have X4 := Bx.mk ((X1.out.alloc (.cells #[.int .i64 (-2), .int .i64 5, .int .i64 6] 2)).pick hg (by omega))
    have hzb : -10 ≤ z ∧ z ≤ 2000 := by
        simp at hz
        omega
    clear hs hg hz S1 R1 X1 y yl
    try clear y1
    have y := X4.out.c (k := 3) rfl
    have yf := X4.out.fr 3
    have yl := X4.out.lt
    go_upto_region 12 with (fail)
    have S5 := S4.out.set (b := b0) (by omega) 3 (.int .i64 z)
    have R5 := R4.out.other (b := b0) (o := 3) (by omega) (.int .i64 z)
    have X5 := X4.out.put 3 (.int .i64 z)
    generalize w4.setCell ⟨b0, 3, none⟩ (.int .i64 z) = w5 at S5 R5 X5 ⊢
    clear S4 R4 X4 y yf yl
    have hld := X5.load (P := Try.prog) _ Try.underlying25 rfl info_item
    have hst := R5.store (P := Try.prog) #[.string x.nm, .int .i64 x.f, .int .i64 x.u, .int .i64 z, .int .i64 x.m, .int .i64 x.p] info_item rfl (by simp [Value.oneCell'])
    have RF := R5.row #[.string x.nm, .int .i64 x.f, .int .i64 x.u, .int .i64 z, .int .i64 x.m, .int .i64 x.p]
    have SF := S5.row (b := b0 + 1) (by omega) #[.string x.nm, .int .i64 x.f, .int .i64 x.u, .int .i64 z, .int .i64 x.m, .int .i64 x.p]
    refine wp_region_lit ?_
    refine wpR_lod rfl 25 _ rfl (.pointer (some ⟨b0, 0, none⟩)) _ rfl hld ?_
    refine wpR_sto rfl 25 _ _ rfl (.pointer (some ⟨b0 + 1, 0, none⟩)) _ rfl rfl hst ?_
    refine wpList_nil ?_
    generalize w5.setRow (b0 + 1) _ = W2 at *
    clear hst hld
    go_wp2_with (fail)
    refine bodyPost_ret (v := .agg #[.string x.nm, .int .i64 x.f, .int .i64 x.u, .int .i64 z, .int .i64 x.m, .int .i64 x.p]) ?_ rfl ⟨⟨x.nm, x.f, x.u, z, x.m, x.p⟩, rfl, ⟨HX.out.n, HX.out.f, HX.out.u, hzb, HX.out.m, HX.out.p⟩, SF.src.more (by omega), SF.gr⟩
    exact results_cell_row Try.results15 _ W2 (b0 + 1) _ _ (0, 0) _ (by simp [go_sem, Act.put]) RF Try.underlying25 rfl info_item
  by_cases e3 : n = 3
  · subst e3
    have y := X1.out.c (k := 4) rfl
    have yl := X1.out.lt
    go_wp2_with (fail)
    refine (am_m g (T + 2) w1 S1.out.src (by omega)).mono ?_
    rintro e w4 ⟨z, hz, rfl, hs, hg⟩
    have S4 := Bx.mk ((S1.out.alloc (.cells #[.int .i64 0, .int .i64 1, .int .i64 240, .int .i64 241] 2)).next hs hg)
    have R4 := Bx.mk ((R1.out.alloc (.cells #[.int .i64 0, .int .i64 1, .int .i64 240, .int .i64 241] 2)).pick hg (by omega))
    have X4 := Bx.mk ((X1.out.alloc (.cells #[.int .i64 0, .int .i64 1, .int .i64 240, .int .i64 241] 2)).pick hg (by omega))
    have hzb : -10 ≤ z ∧ z ≤ 2000 := by
        simp at hz
        omega
    clear hs hg hz S1 R1 X1 y yl
    try clear y1
    have y := X4.out.c (k := 4) rfl
    have yf := X4.out.fr 4
    have yl := X4.out.lt
    go_upto_region 12 with (fail)
    have S5 := S4.out.set (b := b0) (by omega) 4 (.int .i64 z)
    have R5 := R4.out.other (b := b0) (o := 4) (by omega) (.int .i64 z)
    have X5 := X4.out.put 4 (.int .i64 z)
    generalize w4.setCell ⟨b0, 4, none⟩ (.int .i64 z) = w5 at S5 R5 X5 ⊢
    clear S4 R4 X4 y yf yl
    have hld := X5.load (P := Try.prog) _ Try.underlying25 rfl info_item
    have hst := R5.store (P := Try.prog) #[.string x.nm, .int .i64 x.f, .int .i64 x.u, .int .i64 x.s, .int .i64 z, .int .i64 x.p] info_item rfl (by simp [Value.oneCell'])
    have RF := R5.row #[.string x.nm, .int .i64 x.f, .int .i64 x.u, .int .i64 x.s, .int .i64 z, .int .i64 x.p]
    have SF := S5.row (b := b0 + 1) (by omega) #[.string x.nm, .int .i64 x.f, .int .i64 x.u, .int .i64 x.s, .int .i64 z, .int .i64 x.p]
    refine wp_region_lit ?_
    refine wpR_lod rfl 25 _ rfl (.pointer (some ⟨b0, 0, none⟩)) _ rfl hld ?_
    refine wpR_sto rfl 25 _ _ rfl (.pointer (some ⟨b0 + 1, 0, none⟩)) _ rfl rfl hst ?_
    refine wpList_nil ?_
    generalize w5.setRow (b0 + 1) _ = W2 at *
    clear hst hld
    go_wp2_with (fail)
    refine bodyPost_ret (v := .agg #[.string x.nm, .int .i64 x.f, .int .i64 x.u, .int .i64 x.s, .int .i64 z, .int .i64 x.p]) ?_ rfl ⟨⟨x.nm, x.f, x.u, x.s, z, x.p⟩, rfl, ⟨HX.out.n, HX.out.f, HX.out.u, HX.out.s, hzb, HX.out.p⟩, SF.src.more (by omega), SF.gr⟩
    exact results_cell_row Try.results15 _ W2 (b0 + 1) _ _ (0, 0) _ (by simp [go_sem, Act.put]) RF Try.underlying25 rfl info_item
  by_cases e4 : n = 4
  · subst e4
    have y := X1.out.c (k := 5) rfl
    have yl := X1.out.lt
    go_wp2_with (fail)
    refine (am_p g (T + 2) w1 S1.out.src (by omega)).mono ?_
    rintro e w4 ⟨z, hz, rfl, hs, hg⟩
    have S4 := Bx.mk ((S1.out.alloc (.cells #[.int .i64 (-1), .int .i64 0, .int .i64 1000, .int .i64 1001] 2)).next hs hg)
    have R4 := Bx.mk ((R1.out.alloc (.cells #[.int .i64 (-1), .int .i64 0, .int .i64 1000, .int .i64 1001] 2)).pick hg (by omega))
    have X4 := Bx.mk ((X1.out.alloc (.cells #[.int .i64 (-1), .int .i64 0, .int .i64 1000, .int .i64 1001] 2)).pick hg (by omega))
    have hzb : -10 ≤ z ∧ z ≤ 2000 := by
        simp at hz
        omega
    clear hs hg hz S1 R1 X1 y yl
    try clear y1
    have y := X4.out.c (k := 5) rfl
    have yf := X4.out.fr 5
    have yl := X4.out.lt
    go_upto_region 12 with (fail)
    have S5 := S4.out.set (b := b0) (by omega) 5 (.int .i64 z)
    have R5 := R4.out.other (b := b0) (o := 5) (by omega) (.int .i64 z)
    have X5 := X4.out.put 5 (.int .i64 z)
    generalize w4.setCell ⟨b0, 5, none⟩ (.int .i64 z) = w5 at S5 R5 X5 ⊢
    clear S4 R4 X4 y yf yl
    have hld := X5.load (P := Try.prog) _ Try.underlying25 rfl info_item
    have hst := R5.store (P := Try.prog) #[.string x.nm, .int .i64 x.f, .int .i64 x.u, .int .i64 x.s, .int .i64 x.m, .int .i64 z] info_item rfl (by simp [Value.oneCell'])
    have RF := R5.row #[.string x.nm, .int .i64 x.f, .int .i64 x.u, .int .i64 x.s, .int .i64 x.m, .int .i64 z]
    have SF := S5.row (b := b0 + 1) (by omega) #[.string x.nm, .int .i64 x.f, .int .i64 x.u, .int .i64 x.s, .int .i64 x.m, .int .i64 z]
    refine wp_region_lit ?_
    refine wpR_lod rfl 25 _ rfl (.pointer (some ⟨b0, 0, none⟩)) _ rfl hld ?_
    refine wpR_sto rfl 25 _ _ rfl (.pointer (some ⟨b0 + 1, 0, none⟩)) _ rfl rfl hst ?_
    refine wpList_nil ?_
    generalize w5.setRow (b0 + 1) _ = W2 at *
    clear hst hld
    go_wp2_with (fail)
    refine bodyPost_ret (v := .agg #[.string x.nm, .int .i64 x.f, .int .i64 x.u, .int .i64 x.s, .int .i64 x.m, .int .i64 z]) ?_ rfl ⟨⟨x.nm, x.f, x.u, x.s, x.m, z⟩, rfl, ⟨HX.out.n, HX.out.f, HX.out.u, HX.out.s, HX.out.m, hzb⟩, SF.src.more (by omega), SF.gr⟩
    exact results_cell_row Try.results15 _ W2 (b0 + 1) _ _ (0, 0) _ (by simp [go_sem, Act.put]) RF Try.underlying25 rfl info_item
  go_upto_region 12 with (fail)
  have hld := X1.out.load (P := Try.prog) _ Try.underlying25 rfl info_item
  have hst := R1.out.store (P := Try.prog) #[.string x.nm, .int .i64 x.f, .int .i64 x.u, .int .i64 x.s, .int .i64 x.m, .int .i64 x.p] info_item rfl (by simp [Value.oneCell'])
  have RF := R1.out.row #[.string x.nm, .int .i64 x.f, .int .i64 x.u, .int .i64 x.s, .int .i64 x.m, .int .i64 x.p]
  have SF := S1.out.row (b := b0 + 1) (by omega) #[.string x.nm, .int .i64 x.f, .int .i64 x.u, .int .i64 x.s, .int .i64 x.m, .int .i64 x.p]
  refine wp_region_lit ?_
  refine wpR_lod rfl 25 _ rfl (.pointer (some ⟨b0, 0, none⟩)) _ rfl hld ?_
  refine wpR_sto rfl 25 _ _ rfl (.pointer (some ⟨b0 + 1, 0, none⟩)) _ rfl rfl hst ?_
  refine wpList_nil ?_
  generalize w1.setRow (b0 + 1) _ = W2 at *
  clear hst hld
  go_wp2_with (fail)
  refine bodyPost_ret (v := .agg #[.string x.nm, .int .i64 x.f, .int .i64 x.u, .int .i64 x.s, .int .i64 x.m, .int .i64 x.p]) ?_ rfl ⟨⟨x.nm, x.f, x.u, x.s, x.m, x.p⟩, rfl, HX.out, SF.src.more (by omega), SF.gr⟩
  exact results_cell_row Try.results15 _ W2 (b0 + 1) _ _ (0, 0) _ (by simp [go_sem, Act.put]) RF Try.underlying25 rfl info_item
end Go.Proofs.Ytidblpamolimpaa
