/- Draws of two ratios, and of a ratio and a power; a text that is read back. -/
import Derived.Test.YtdhgbincebcobaaDoorRatD2
import Derived.Test.YtdhgbincebcobaaDoorRatRM
import Derived.Test.YtdhgbincebcobaaDoorRatLaw3
import Derived.Test.YtdhgbincebcobaaDoorRatJ
namespace Go.Proofs.YtdhgbincebcobaaDoor
open Go.ChangeShapes Go.WideShapes Go.ChangeAt Go.RowKit
set_option linter.unusedVariables false
set_option linter.unusedSimpArgs false
set_option maxRecDepth 100000

theorem itoa_no (v : Int) : (47 : UInt8) ∉ Lib.itoa v := by
  intro hm
  by_cases hv : v < 0
  · rw [itoa_neg' v hv] at hm
    rcases List.mem_cons.1 hm with h | h
    · cases h
    · exact dec_no _ h
  · rw [itoa_pos' v (by omega)] at hm
    exact dec_no _ hm
theorem index_first47 : ∀ (a b : List UInt8), (47 : UInt8) ∉ a → Lib.indexByte (a ++ 47 :: b) 47 = a.length
  | [], b, _ => by simp [Lib.indexByte]
  | x :: a, b, h => by
    have hx : ¬ x = 47 := fun e => h (by simp [e])
    have ih := index_first47 a b (fun hm => h (List.mem_cons_of_mem _ hm))
    rw [List.cons_append, Lib.indexByte, ih]
    simp [hx]
theorem read_text (n d : Int) (h : okR n d = true) : readRE (ratT n d) = (n, d, true) := by
  obtain ⟨a, b, _⟩ := okR_yes h
  have hi := index_first47 (Lib.itoa n) (Lib.itoa d) (itoa_no n)
  have hc : Lib.cut (ratT n d) [47] = (Lib.itoa n, Lib.itoa d, true) := by
    unfold Lib.cut ratT
    have e : Lib.itoa n ++ ([47] ++ Lib.itoa d) = Lib.itoa n ++ 47 :: Lib.itoa d := rfl
    rw [e, Lib.index_one, hi, if_pos (by omega)]
    simp
  unfold readRE
  rw [hc]
  unfold pairE
  rw [num_itoa n (by omega), num_itoa d (by omega)]
  simp [h]
set_option maxHeartbeats 2000000 in
theorem draw_multiply (v : Value) (n : Nat) (w : World) (h : BytesAt w v n) (hn : n ≤ 281474976710656) : Calls Tryd.prog 21 #[v] w (TwoRats w) := by
  have H := Bx.mk ((h.alloc (.cells #[.int .i64 0, .int .i64 0] 40)).alloc (.cells #[.int .i64 0, .int .i64 0] 40))
  have hp0 := (PairAt.new w 0 0).alloc (.cells #[.int .i64 0, .int .i64 0] 40)
  have hq0 := PairAt.at (w.alloc (.cells #[.int .i64 0, .int .i64 0] 40)) (w.heap.size + 1) 0 0 (by simp)
  clear h
  go_enter Tryd.func21, Tryd.ntmps21
  go_wp2_with (fail)
  refine (src_from v n _ H.out hn).mono ?_
  rintro e w0 ⟨g, rfl, hs, hb, hg⟩
  have hgw : w.heap.size + 1 < g := by simp at hg; omega
  have S0 := Bx.mk hs
  have P0 := Bx.mk (hp0.below hb)
  have Q0 := Bx.mk (hq0.below hb)
  have B0 := Bx.mk ((((Below.refl w.heap.size w).alloc (Nat.le_refl _) _).alloc (by simp) _).trans (hb.mono (by simp; omega)))
  clear hs hb hg hp0 hq0
  go_wp2_with (fail)
  refine (draw_rat g 0 w0 S0.out (by omega)).mono ?_
  rintro e w1 ho
  obtain ⟨p, q, rfl, hs1, hg1⟩ := ratdraw2_parts ho
  have P2 := Bx.mk ((P0.out.grown hg1 (by omega)).alloc (.cells #[.int .i64 p, .int .i64 q] 40))
  have Q2 := Bx.mk ((Q0.out.grown hg1 (by omega)).alloc (.cells #[.int .i64 p, .int .i64 q] 40))
  have R2 := Bx.mk (PairAt.new w1 p q)
  have S2 := Bx.mk (hs1.alloc (.cells #[.int .i64 p, .int .i64 q] 40))
  have hgl := hs1.lt
  have B2 := Bx.mk ((B0.out.trans (only_below hg1 (by omega) B0.out.size)).alloc (B0.out.trans (only_below hg1 (by omega) B0.out.size)).size (.cells #[.int .i64 p, .int .i64 q] 40))
  clear ho hs1 hg1 P0 Q0 B0 S0
  have hne : w1.heap.size ≠ w.heap.size := by have := P2.out.lt; have := B2.out.size; omega
  have e0 := R2.out.c0
  have e1 := R2.out.c1
  go_wp2_with (fail)
  go_region_with (first | ((go_at_call 59; (with_reducible refine (draw_rat g 16 _ (S2.out.below (Below.refl _ _).drew) (by omega)).mono ?_); rintro e w3 ho; obtain ⟨r, s, rfl, hs3, hg3⟩ := ratdraw2_parts ho; have P3 := Bx.mk ((P2.out.below (Below.refl _ _).drew).grown hg3 (by omega)); have Q3 := Bx.mk ((Q2.out.below (Below.refl _ _).drew).grown hg3 (by omega)); have R3 := Bx.mk ((R2.out.below (Below.refl _ _).drew).grown hg3 (by omega)); have B3 := Bx.mk (B2.out.drew.trans (only_below hg3 (by omega) (by exact B2.out.size))); clear ho hs3 hg3; have c0 := P3.out.c0; have c1 := P3.out.c1; have f0 := P3.out.f0 0; have f1 := P3.out.f0 1; have d0 := Q3.out.c0; have d1 := Q3.out.c1; have g0 := Q3.out.f0 0; have g1 := Q3.out.f0 1; have h0 := R3.out.c0; have h1 := R3.out.c1)))
  all_goals
    go_wp2_with (fail)
    refine bodyPost_ret (v := .tuple #[.agg #[.int .i64 p, .int .i64 q], .agg #[.int .i64 r, .int .i64 s]]) (by simp [results, Tryd.results21, go_sem, c0, c1, d0, d1]) rfl ?_
    refine ⟨p, q, r, s, rfl, ?_⟩
    have KBO := B3.out
    repeat' (first | (with_reducible exact Below.refl _ _) | (with_reducible assumption) | (with_reducible refine Below.alloc ?_ ?_ _) | (with_reducible refine below_draws ?_ _) | (with_reducible refine Below.setCell ?_ ?_ _) | go_size)
theorem ten_cells (W : World) (t : TypeId) (fz : Nat × Nat) : ∀ k, k < 10 → (W.alloc (.cells #[.int .i64 0, .int .i64 1, .int .i64 2, .int .i64 3, .int .i64 5, .int .i64 12, .int .i64 13, .int .i64 40, .int .i64 41, .int .i64 (-1)] t fz)).cell? ⟨W.heap.size, k, none⟩ = some (.int .i64 (([0, 1, 2, 3, 5, 12, 13, 40, 41, -1] : List Int).getD k 0)) := by
  intro k hk
  have e := heap_alloc_new W (.cells #[.int .i64 0, .int .i64 1, .int .i64 2, .int .i64 3, .int .i64 5, .int .i64 12, .int .i64 13, .int .i64 40, .int .i64 41, .int .i64 (-1)] t fz)
  obtain rfl | rfl | rfl | rfl | rfl | rfl | rfl | rfl | rfl | rfl : k = 0 ∨ k = 1 ∨ k = 2 ∨ k = 3 ∨ k = 4 ∨ k = 5 ∨ k = 6 ∨ k = 7 ∨ k = 8 ∨ k = 9 := by omega
  all_goals exact (cell_heap e _).trans rfl
def PowDraw (w : World) (e : Ending) (w' : World) : Prop := ∃ p q k : Int, e = .returned (.tuple #[rat p q, .int .i64 k]) ∧ (-1 ≤ k ∧ k ≤ 41) ∧ Below w.heap.size w w'
theorem powdraw_parts {w : World} {e : Ending} {w' : World} (h : PowDraw w e w') : ∃ p q k : Int, e = .returned (.tuple #[.agg #[.int .i64 p, .int .i64 q], .int .i64 k]) ∧ (-1 ≤ k ∧ k ≤ 41) ∧ Below w.heap.size w w' := h
set_option maxHeartbeats 2000000 in
theorem draw_power (v : Value) (n : Nat) (w : World) (h : BytesAt w v n) (hn : n ≤ 281474976710656) : Calls Tryd.prog 27 #[v] w (PowDraw w) := by
  have H := Bx.mk (h.alloc (.cells #[.int .i64 0, .int .i64 0] 40))
  have hp0 := PairAt.new w 0 0
  clear h
  go_enter Tryd.func27, Tryd.ntmps27
  go_wp2_with (fail)
  refine (src_from v n _ H.out hn).mono ?_
  rintro e w0 ⟨g, rfl, hs, hb, hg⟩
  have hgw : w.heap.size < g := by simp at hg; omega
  have S0 := Bx.mk hs
  have P0 := Bx.mk (hp0.below hb)
  have B0 := Bx.mk (((Below.refl w.heap.size w).alloc (Nat.le_refl _) _).trans (hb.mono (by simp)))
  clear hs hb hg hp0
  go_wp2_with (fail)
  refine (draw_rat g 0 w0 S0.out (by omega)).mono ?_
  rintro e w1 ho
  obtain ⟨p, q, rfl, hs1, hg1⟩ := ratdraw2_parts ho
  have P1 := Bx.mk ((P0.out.grown hg1 (by omega)).alloc (.cells #[.int .i64 p, .int .i64 q] 40))
  have R1 := Bx.mk (PairAt.new w1 p q)
  have S1 := Bx.mk (hs1.alloc (.cells #[.int .i64 p, .int .i64 q] 40))
  have hgl := hs1.lt
  have B1 := Bx.mk ((B0.out.trans (only_below hg1 (by omega) B0.out.size)).alloc (B0.out.trans (only_below hg1 (by omega) B0.out.size)).size (.cells #[.int .i64 p, .int .i64 q] 40))
  clear ho hs1 hg1 P0 B0 S0
  go_wp2_with (fail)
  refine (one_any g 16 3 _ S1.out (by omega) (by omega) (by omega)).mono ?_
  rintro e w2 ho
  obtain ⟨b, rfl, hs2, hg2⟩ := one_parts ho
  have P2 := Bx.mk (P1.out.grown hg2 (by omega))
  have R2 := Bx.mk (R1.out.grown hg2 (by omega))
  have S2 := Bx.mk hs2
  have B2 := Bx.mk (B1.out.trans (only_below hg2 (by omega) B1.out.size))
  clear ho hs2 hg2 P1 R1 S1 B1
  have hne : w1.heap.size ≠ w.heap.size := by have := P2.out.lt; have := R2.out.lt; have := B2.out.size; omega
  have hgl2 : g < w2.heap.size := S2.out.lt
  cases b
  case false =>
    have c0 := R2.out.c0
    have c1 := R2.out.c1
    go_wp2_with (fail)
    have hne2 : w.heap.size ≠ w1.heap.size := fun e => hne e.symm
    go_region_held3 (fun W => W.cell? ⟨w1.heap.size, 0, none⟩ = some (.int .i64 (p)) ∧ W.cell? ⟨w1.heap.size, 1, none⟩ = some (.int .i64 (q)))
      (first | exact ⟨R2.out.drew1.c0, R2.out.drew1.c1⟩ | exact ⟨((R2.out.drew1).alloc _).c0, ((R2.out.drew1).alloc _).c1⟩ | exact ⟨((R2.out.alloc _).drew1).c0, ((R2.out.alloc _).drew1).c1⟩ | exact ⟨R3.out.c0, R3.out.c1⟩ | exact ⟨((R3.out.other hne2 _).other hne2 _).c0, ((R3.out.other hne2 _).other hne2 _).c1⟩)
      (first | (go_at_call 67; refine (among_any g 18 w2.heap.size 10 [0, 1, 2, 3, 5, 12, 13, 40, 41, -1] _ ((S2.out.alloc _).below (Below.refl _ _).drew) (by omega) rfl (by omega) ⟨by have := S2.out.lt; omega, by simp⟩ (fun k hk => ten_cells w2 _ _ k hk)).mono ?_; rintro e w3 ho; obtain ⟨y, hy, rfl, hs3, hg3⟩ := among_parts ho; have P3 := Bx.mk ((P2.out.alloc _).drew1.grown hg3 (by omega)); have R3 := Bx.mk ((R2.out.alloc _).drew1.grown hg3 (by omega)); have HY : Bx (-1 ≤ y ∧ y ≤ 41) := Bx.mk (by simp at hy; omega); have B3 := Bx.mk ((B2.out.alloc B2.out.size _).drew.trans (only_below hg3 (by omega) (B2.out.alloc B2.out.size _).drew.size)); clear ho hs3 hg3 hy; have e0 := P3.out.c0; have e1 := P3.out.c1; have f0 := P3.out.f0 0; have f1 := P3.out.f0 1; have h0 := R3.out.c0; have h1 := R3.out.c1))
    all_goals
      go_wp2_with (fail)
      have K := put_pair P3.out (p) (q)
      refine bodyPost_ret (v := .tuple #[.agg #[.int .i64 (p), .int .i64 (q)], .int .i64 y]) (by simp [results, Tryd.results27, go_sem, K.1, K.2]) rfl ?_
      refine ⟨p, q, y, rfl, HY.out, ?_⟩
      have KBO := B3.out
      repeat' (first | (with_reducible exact Below.refl _ _) | (with_reducible assumption) | (with_reducible refine Below.drew ?_) | (with_reducible refine Below.alloc ?_ ?_ _) | (with_reducible refine below_draws ?_ _) | (with_reducible refine Below.setCell ?_ ?_ _) | go_size)
  case true =>
    have r0 := R2.out.c0
    have r1 := R2.out.c1
    have r2 := R2.out.f0 0
    have r3 := R2.out.f0 1
    go_wp2_with (fail)
    have hwl : w.heap.size ≤ w1.heap.size := by have := P2.out.lt; omega
    have R4 := R2.out.put 3 2
    have P4 := (P2.out.other (b := w1.heap.size) (o := 0) hne (.int .i64 3)).other (b := w1.heap.size) (o := 1) hne (.int .i64 2)
    have S4 := (S2.out.put (b := w1.heap.size) (o := 0) (v := .int .i64 3) hgl).put (b := w1.heap.size) (o := 1) (v := .int .i64 2) hgl
    have B4 := (B2.out.setCell (p := ⟨w1.heap.size, 0, none⟩) hwl (.int .i64 3)).setCell (p := ⟨w1.heap.size, 1, none⟩) hwl (.int .i64 2)
    clear r0 r1 r2 r3
    generalize (w2.setCell ⟨w1.heap.size, 0, none⟩ (.int .i64 3)).setCell ⟨w1.heap.size, 1, none⟩ (.int .i64 2) = w5 at R4 P4 S4 B4 ⊢
    replace R4 := Bx.mk R4
    replace P4 := Bx.mk P4
    replace S4 := Bx.mk S4
    replace B4 := Bx.mk B4
    have hgl5 : g < w5.heap.size := S4.out.lt
    have c0 := R4.out.c0
    have c1 := R4.out.c1
    have hne2 : w.heap.size ≠ w1.heap.size := fun e => hne e.symm
    go_region_held3 (fun W => W.cell? ⟨w1.heap.size, 0, none⟩ = some (.int .i64 (3)) ∧ W.cell? ⟨w1.heap.size, 1, none⟩ = some (.int .i64 (2)))
      (first | exact ⟨R4.out.drew1.c0, R4.out.drew1.c1⟩ | exact ⟨((R4.out.drew1).alloc _).c0, ((R4.out.drew1).alloc _).c1⟩ | exact ⟨((R4.out.alloc _).drew1).c0, ((R4.out.alloc _).drew1).c1⟩ | exact ⟨R3.out.c0, R3.out.c1⟩ | exact ⟨((R3.out.other hne2 _).other hne2 _).c0, ((R3.out.other hne2 _).other hne2 _).c1⟩)
      (first | (go_at_call 67; refine (among_any g 18 w5.heap.size 10 [0, 1, 2, 3, 5, 12, 13, 40, 41, -1] _ ((S4.out.alloc _).below (Below.refl _ _).drew) (by omega) rfl (by omega) ⟨by have := S4.out.lt; omega, by simp⟩ (fun k hk => ten_cells w5 _ _ k hk)).mono ?_; rintro e w3 ho; obtain ⟨y, hy, rfl, hs3, hg3⟩ := among_parts ho; have P3 := Bx.mk ((P4.out.alloc _).drew1.grown hg3 (by omega)); have R3 := Bx.mk ((R4.out.alloc _).drew1.grown hg3 (by omega)); have HY : Bx (-1 ≤ y ∧ y ≤ 41) := Bx.mk (by simp at hy; omega); have B3 := Bx.mk ((B4.out.alloc B4.out.size _).drew.trans (only_below hg3 (by omega) (B4.out.alloc B4.out.size _).drew.size)); clear ho hs3 hg3 hy; have e0 := P3.out.c0; have e1 := P3.out.c1; have f0 := P3.out.f0 0; have f1 := P3.out.f0 1; have h0 := R3.out.c0; have h1 := R3.out.c1))
    all_goals
      go_wp2_with (fail)
      have K := put_pair P3.out (3) (2)
      refine bodyPost_ret (v := .tuple #[.agg #[.int .i64 (3), .int .i64 (2)], .int .i64 y]) (by simp [results, Tryd.results27, go_sem, K.1, K.2]) rfl ?_
      refine ⟨3, 2, y, rfl, HY.out, ?_⟩
      have KBO := B3.out
      repeat' (first | (with_reducible exact Below.refl _ _) | (with_reducible assumption) | (with_reducible refine Below.drew ?_) | (with_reducible refine Below.alloc ?_ ?_ _) | (with_reducible refine below_draws ?_ _) | (with_reducible refine Below.setCell ?_ ?_ _) | go_size)
end Go.Proofs.YtdhgbincebcobaaDoor
