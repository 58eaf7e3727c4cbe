/- The model's draws for the laws of chapter 2. -/
import Derived.Test.YtdhgbincebcobaaDoorRatD
import Derived.Deep.RegionWith
namespace Go.Proofs.YtdhgbincebcobaaDoor
open Go.ChangeShapes Go.WideShapes Go.ChangeAt Go.RowKit
set_option linter.unusedVariables false
set_option linter.unusedSimpArgs false
set_option maxRecDepth 100000

theorem BytesAt.alloc {w : World} {v : Value} {n : Nat} (h : BytesAt w v n) (o : Obj) : BytesAt (w.alloc o) v n := by
  obtain ⟨A, c, e, h⟩ := h
  refine ⟨A, c, e, fun h0 => ?_⟩
  obtain ⟨b, o', e, hl, hx⟩ := h h0
  refine ⟨b, o', e, by simp; omega, fun k hk => ?_⟩
  obtain ⟨x, hc, hr⟩ := hx k hk
  exact ⟨x, by rw [World.cell?_alloc_lt w _ _ (by exact hl)]; exact hc, hr⟩
theorem from_parts {w : World} {v : Value} {n : Nat} {e : Ending} {w' : World} (h : ∃ g, e = .returned (.pointer (some ⟨g, 0, none⟩)) ∧ Src w' g 0 ∧ Below w.heap.size w w' ∧ w.heap.size ≤ g) : ∃ g, e = .returned (.pointer (some ⟨g, 0, none⟩)) ∧ Src w' g 0 ∧ Below w.heap.size w w' ∧ w.heap.size ≤ g := h
def OneRat (w : World) (e : Ending) (w' : World) : Prop := ∃ p q : Int, e = .returned (rat p q) ∧ Below w.heap.size w w'
theorem onerat_parts {w : World} {e : Ending} {w' : World} (h : OneRat w e w') : ∃ p q : Int, e = .returned (.agg #[.int .i64 p, .int .i64 q]) ∧ Below w.heap.size w w' := h
def TwoRats (w : World) (e : Ending) (w' : World) : Prop := ∃ p q r s : Int, e = .returned (.tuple #[rat p q, rat r s]) ∧ Below w.heap.size w w'
theorem tworats_parts {w : World} {e : Ending} {w' : World} (h : TwoRats w e w') : ∃ p q r s : Int, e = .returned (.tuple #[.agg #[.int .i64 p, .int .i64 q], .agg #[.int .i64 r, .int .i64 s]]) ∧ Below w.heap.size w w' := h
set_option maxHeartbeats 1000000 in
theorem draw_octaveof (v : Value) (n : Nat) (w : World) (h : BytesAt w v n) (hn : n ≤ 281474976710656) : Calls Tryd.prog 33 #[v] w (OneRat w) := by
  have H := Bx.mk (h.alloc (.cells #[.int .i64 0, .int .i64 0] 40))
  have hp0 := PairAt.new w 0 0
  clear h
  go_enter Tryd.func33, Tryd.ntmps33
  go_wp2_with (fail)
  refine (src_from v n _ H.out hn).mono ?_
  rintro e w0 ⟨g, rfl, hs, hb, hg⟩
  have hgw : w.heap.size < g := by simp at hg; omega
  have S0 := Bx.mk hs
  have P0 := Bx.mk (hp0.below hb)
  have B0 := Bx.mk (((Below.refl w.heap.size w).alloc (Nat.le_refl _) _).trans (hb.mono (by simp)))
  clear hs hb hg hp0
  go_wp2_with (fail)
  refine (draw_rat g 0 w0 S0.out (by omega)).mono ?_
  rintro e w1 ho
  obtain ⟨p, q, rfl, hs1, hg1⟩ := ratdraw2_parts ho
  have P1 := Bx.mk (P0.out.grown hg1 (by omega))
  have B1 := Bx.mk (B0.out.trans (only_below hg1 (by omega) B0.out.size))
  clear ho hs1 hg1
  have c0 := P1.out.c0
  have c1 := P1.out.c1
  have f0 := P1.out.f0 0
  have f1 := P1.out.f0 1
  have hz := P1.out.lt
  go_wp2_with (fail)
  refine bodyPost_ret (v := .agg #[.int .i64 p, .int .i64 q]) (by simp [results, Tryd.results33, go_sem, c0, c1]) rfl ?_
  exact ⟨p, q, rfl, (B1.out.setCell (Nat.le_refl _) _).setCell (Nat.le_refl _) _⟩
set_option maxHeartbeats 2000000 in
theorem draw_compare (v : Value) (n : Nat) (w : World) (h : BytesAt w v n) (hn : n ≤ 281474976710656) : Calls Tryd.prog 31 #[v] w (TwoRats w) := by
  have H := Bx.mk ((h.alloc (.cells #[.int .i64 0, .int .i64 0] 40)).alloc (.cells #[.int .i64 0, .int .i64 0] 40))
  have hp0 := (PairAt.new w 0 0).alloc (.cells #[.int .i64 0, .int .i64 0] 40)
  have hq0 := PairAt.at (w.alloc (.cells #[.int .i64 0, .int .i64 0] 40)) (w.heap.size + 1) 0 0 (by simp)
  clear h
  go_enter Tryd.func31, Tryd.ntmps31
  go_wp2_with (fail)
  refine (src_from v n _ H.out hn).mono ?_
  rintro e w0 ⟨g, rfl, hs, hb, hg⟩
  have hgw : w.heap.size + 1 < g := by simp at hg; omega
  have S0 := Bx.mk hs
  have P0 := Bx.mk (hp0.below hb)
  have Q0 := Bx.mk (hq0.below hb)
  have B0 := Bx.mk ((((Below.refl w.heap.size w).alloc (Nat.le_refl _) _).alloc (by simp) _).trans (hb.mono (by simp; omega)))
  clear hs hb hg hp0 hq0
  go_wp2_with (fail)
  refine (draw_rat g 0 w0 S0.out (by omega)).mono ?_
  rintro e w1 ho
  obtain ⟨p, q, rfl, hs1, hg1⟩ := ratdraw2_parts ho
  have P1 := Bx.mk ((P0.out.grown hg1 (by omega)).alloc (.cells #[.int .i64 p, .int .i64 q] 40))
  have Q1 := Bx.mk ((Q0.out.grown hg1 (by omega)).alloc (.cells #[.int .i64 p, .int .i64 q] 40))
  have R1 := Bx.mk (PairAt.new w1 p q)
  have S1 := Bx.mk (hs1.alloc (.cells #[.int .i64 p, .int .i64 q] 40))
  have hgl := hs1.lt
  have B1 := Bx.mk ((B0.out.trans (only_below hg1 (by omega) B0.out.size)).alloc (B0.out.trans (only_below hg1 (by omega) B0.out.size)).size (.cells #[.int .i64 p, .int .i64 q] 40))
  clear ho hs1 hg1 P0 Q0 B0 S0
  go_wp2_with (fail)
  refine (one_any g 16 6 _ S1.out (by omega) (by omega) (by omega)).mono ?_
  rintro e w2 ho
  obtain ⟨b, rfl, hs2, hg2⟩ := one_parts ho
  have P2 := Bx.mk (P1.out.grown hg2 (by omega))
  have Q2 := Bx.mk (Q1.out.grown hg2 (by omega))
  have R2 := Bx.mk (R1.out.grown hg2 (by omega))
  have S2 := Bx.mk hs2
  have B2 := Bx.mk (B1.out.trans (only_below hg2 (by omega) B1.out.size))
  clear ho hs2 hg2 P1 Q1 R1 S1 B1
  have hne : w1.heap.size ≠ w.heap.size := by omega
  have hne2 : w1.heap.size ≠ w.heap.size + 1 := by omega
  cases b
  · have e0 := R2.out.c0
    have e1 := R2.out.c1
    go_wp2_with (fail)
    go_region_with (first | ((go_at_call 59; (with_reducible refine (draw_rat g (16 + 2) _ (S2.out.below (Below.refl _ _).drew) (by omega)).mono ?_); rintro e w3 ho; obtain ⟨r, s, rfl, hs3, hg3⟩ := ratdraw2_parts ho; have P3 := Bx.mk ((P2.out.below (Below.refl _ _).drew).grown hg3 (by omega)); have Q3 := Bx.mk ((Q2.out.below (Below.refl _ _).drew).grown hg3 (by omega)); have R3 := Bx.mk ((R2.out.below (Below.refl _ _).drew).grown hg3 (by omega)); have B3 := Bx.mk (B2.out.drew.trans (only_below hg3 (by omega) (by exact B2.out.size))); clear ho hs3 hg3; have c0 := P3.out.c0; have c1 := P3.out.c1; have f0 := P3.out.f0 0; have f1 := P3.out.f0 1; have d0 := Q3.out.c0; have d1 := Q3.out.c1; have g0 := Q3.out.f0 0; have g1 := Q3.out.f0 1; have h0 := R3.out.c0; have h1 := R3.out.c1)))
    all_goals
      go_wp2_with (fail)
      refine bodyPost_ret (v := .tuple #[.agg #[.int .i64 p, .int .i64 q], .agg #[.int .i64 r, .int .i64 s]]) (by simp [results, Tryd.results31, go_sem, c0, c1, d0, d1]) rfl ?_
      refine ⟨p, q, r, s, rfl, ?_⟩
      have KBO := B3.out
      repeat' (first | (with_reducible exact Below.refl _ _) | (with_reducible assumption) | (with_reducible refine Below.alloc ?_ ?_ _) | (with_reducible refine below_draws ?_ _) | (with_reducible refine Below.setCell ?_ ?_ _) | go_size)
  · have c0 := P2.out.c0
    have c1 := P2.out.c1
    have f0 := P2.out.f0 0
    have f1 := P2.out.f0 1
    have d0 := Q2.out.c0
    have d1 := Q2.out.c1
    have g0 := Q2.out.f0 0
    have g1 := Q2.out.f0 1
    have e0 := R2.out.c0
    have e1 := R2.out.c1
    have hz := P2.out.lt
    have hz2 := Q2.out.lt
    go_wp2_with (fail)
    go_region
    all_goals
      go_wp2_with (fail)
      refine bodyPost_ret (v := .tuple #[.agg #[.int .i64 p, .int .i64 q], .agg #[.int .i64 p, .int .i64 q]]) (by simp [results, Tryd.results31, go_sem, c0, c1, d0, d1]) rfl ?_
      refine ⟨p, q, p, q, rfl, ?_⟩
      have KBO := B2.out
      repeat' (first | (with_reducible exact Below.refl _ _) | (with_reducible assumption) | (with_reducible refine Below.drew ?_) | (with_reducible refine Below.alloc ?_ ?_ _) | (with_reducible refine below_draws ?_ _) | (with_reducible refine Below.setCell ?_ ?_ _) | go_size)
def BestDraw (w : World) (e : Ending) (w' : World) : Prop := ∃ c m : Int, e = .returned (.tuple #[.int .i64 c, .int .i64 m]) ∧ (-1 ≤ c ∧ c ≤ 120001) ∧ (0 ≤ m ∧ m ≤ 65) ∧ Below w.heap.size w w'
theorem bestdraw_parts {w : World} {e : Ending} {w' : World} (h : BestDraw w e w') : ∃ c m : Int, e = .returned (.tuple #[.int .i64 c, .int .i64 m]) ∧ (-1 ≤ c ∧ c ≤ 120001) ∧ (0 ≤ m ∧ m ≤ 65) ∧ Below w.heap.size w w' := h
set_option maxHeartbeats 1000000 in
theorem draw_best (v : Value) (n : Nat) (w : World) (h : BytesAt w v n) (hn : n ≤ 281474976710656) : Calls Tryd.prog 35 #[v] w (BestDraw w) := by
  have H := Bx.mk h
  clear h
  go_enter Tryd.func35, Tryd.ntmps35
  go_wp2_with (fail)
  refine (src_from v n _ H.out hn).mono ?_
  rintro e w0 ⟨g, rfl, hs, hb, hg⟩
  have S0 := Bx.mk hs
  have B0 := Bx.mk hb
  clear hs hb
  go_wp2_with (fail)
  refine (pick_any g 0 256 w0 S0.out (by omega) (by omega) (by omega)).mono ?_
  rintro e w1 ho
  obtain ⟨x, ⟨x0, x1⟩, rfl, hs1, hg1⟩ := pick_parts ho
  have S1 := Bx.mk hs1
  have B1 := Bx.mk (B0.out.trans (only_below hg1 (by omega) B0.out.size))
  clear ho hs1 hg1
  go_wp2_with (fail)
  refine (one_any g 2 9 w1 S1.out (by omega) (by omega) (by omega)).mono ?_
  rintro e w2 ho
  obtain ⟨b, rfl, hs2, hg2⟩ := one_parts ho
  have S2 := Bx.mk hs2
  have B2 := Bx.mk (B1.out.trans (only_below hg2 (by omega) B1.out.size))
  clear ho hs2 hg2
  cases b
  · go_wp2_with (fail)
    refine (among_any g 4 w2.heap.size 9 [1, 2, 3, 5, 8, 16, 64, 65, 0] _ (S2.out.alloc _) (by omega) rfl (by omega) ⟨by have := S2.out.lt; omega, by simp⟩ ?_).mono ?_
    · intro k hk
      have e := heap_alloc_new w2 (.cells #[.int .i64 1, .int .i64 2, .int .i64 3, .int .i64 5, .int .i64 8, .int .i64 16, .int .i64 64, .int .i64 65, .int .i64 0] 2)
      obtain rfl | rfl | rfl | rfl | rfl | rfl | rfl | rfl | rfl : k = 0 ∨ k = 1 ∨ k = 2 ∨ k = 3 ∨ k = 4 ∨ k = 5 ∨ k = 6 ∨ k = 7 ∨ k = 8 := by omega
      all_goals exact (cell_heap e _).trans rfl
    rintro e w3 ho
    obtain ⟨y, hy, rfl, hs3, hg3⟩ := among_parts ho
    have HY : Bx (0 ≤ y ∧ y ≤ 65) := Bx.mk (by simp at hy; omega)
    have B3 := Bx.mk ((B2.out.alloc B2.out.size _).trans (only_below hg3 (by omega) (B2.out.alloc B2.out.size _).size))
    clear ho hs3 hg3 hy
    go_wp2_with (fail)
    go_returns
    exact ⟨470 * x, y, rfl, by omega, HY.out, B3.out⟩
  · go_wp2_with (fail)
    refine (among_any g 4 w2.heap.size 4 [-1, 0, 120000, 120001] _ (S2.out.alloc _) (by omega) rfl (by omega) ⟨by have := S2.out.lt; omega, by simp⟩ ?_).mono ?_
    · intro k hk
      have e := heap_alloc_new w2 (.cells #[.int .i64 (-1), .int .i64 0, .int .i64 120000, .int .i64 120001] 2)
      obtain rfl | rfl | rfl | rfl : k = 0 ∨ k = 1 ∨ k = 2 ∨ k = 3 := by omega
      all_goals exact (cell_heap e _).trans rfl
    rintro e w3 ho
    obtain ⟨z, hz, rfl, hs3, hg3⟩ := among_parts ho
    have HZ : Bx (-1 ≤ z ∧ z ≤ 120001) := Bx.mk (by simp at hz; omega)
    have S3 := Bx.mk hs3
    have B3 := Bx.mk ((B2.out.alloc B2.out.size _).trans (only_below hg3 (by omega) (B2.out.alloc B2.out.size _).size))
    clear ho hs3 hg3 hz
    go_wp2_with (fail)
    refine (among_any g 6 w3.heap.size 9 [1, 2, 3, 5, 8, 16, 64, 65, 0] _ (S3.out.alloc _) (by omega) rfl (by omega) ⟨by have := S3.out.lt; omega, by simp⟩ ?_).mono ?_
    · intro k hk
      have e := heap_alloc_new w3 (.cells #[.int .i64 1, .int .i64 2, .int .i64 3, .int .i64 5, .int .i64 8, .int .i64 16, .int .i64 64, .int .i64 65, .int .i64 0] 2)
      obtain rfl | rfl | rfl | rfl | rfl | rfl | rfl | rfl | rfl : k = 0 ∨ k = 1 ∨ k = 2 ∨ k = 3 ∨ k = 4 ∨ k = 5 ∨ k = 6 ∨ k = 7 ∨ k = 8 := by omega
      all_goals exact (cell_heap e _).trans rfl
    rintro e w4 ho
    obtain ⟨y, hy, rfl, hs4, hg4⟩ := among_parts ho
    have HY : Bx (0 ≤ y ∧ y ≤ 65) := Bx.mk (by simp at hy; omega)
    have B4 := Bx.mk ((B3.out.alloc B3.out.size _).trans (only_below hg4 (by omega) (B3.out.alloc B3.out.size _).size))
    clear ho hs4 hg4 hy
    go_wp2_with (fail)
    go_returns
    exact ⟨z, y, rfl, HZ.out, HY.out, B4.out⟩
end Go.Proofs.YtdhgbincebcobaaDoor
