/- The model's draws of ratios. -/
import Derived.Test.YtdhgbincebcobaaDoorSrc2
import Derived.Test.YtdhgbincebcobaaDoorRatP
import Derived.Test.YtdhgbincebcobaaDoorHold
namespace Go.Proofs.YtdhgbincebcobaaDoor
open Go.ChangeShapes Go.WideShapes Go.ChangeAt Go.RowKit
set_option linter.unusedVariables false
set_option linter.unusedSimpArgs false
set_option maxRecDepth 100000

theorem below_grown {w w' : World} (hb : Below w.heap.size w w') (r : Option Nat) : w.grownBy w' r := ⟨hb.os, hb.tape, hb.output, hb.size, fun k hk _ => hb.block k hk⟩
theorem Src.lt {w : World} {g T : Nat} (h : Src w g T) : g < w.heap.size := by
  obtain ⟨A, n, c, at_, seed, hblk, _⟩ := h
  rcases Nat.lt_or_ge g w.heap.size with h1 | h1
  · exact h1
  · rw [Array.getElem?_eq_none h1] at hblk; cases hblk
theorem PairAt.grown {w w' : World} {g h : Nat} {n d : Int} (hp : PairAt w h n d) (hg : w.grownBy w' (some g)) (hne : h ≠ g) : PairAt w' h n d := by
  have := hg.block h hp.lt (by intro e; injection e with e; exact hne e)
  unfold PairAt at hp ⊢
  rw [this, hp]

theorem Src.grown {w w' : World} {g T r : Nat} (h : Src w g T) (hg : w.grownBy w' (some r)) (hr : g < r) : Src w' g T := by
  have hl := h.lt
  obtain ⟨A, n, c, at_, seed, hblk, hat, hn, hs, hA⟩ := h
  refine ⟨A, n, c, at_, seed, (hg.block g hl (by intro e; injection e with e; omega)).trans hblk, hat, hn, hs, fun h0 => ?_⟩
  obtain ⟨b, o, e, hbg, hx⟩ := hA h0
  refine ⟨b, o, e, hbg, fun k hk => ?_⟩
  obtain ⟨x, hc, hr2⟩ := hx k hk
  exact ⟨x, (World.cell?_of_block (w := w) (a := ⟨b, o + k, none⟩) (hg.block b (by omega) (by intro e; injection e with e; omega))).trans hc, hr2⟩
theorem Src.below {w w' : World} {g T : Nat} (h : Src w g T) (hb : Below w.heap.size w w') : Src w' g T := h.grown (below_grown hb (some w.heap.size)) h.lt
theorem set_grown {w : World} {b o : Nat} {v : Value} : w.grownBy (w.setCell ⟨b, o, none⟩ v) (some b) :=
  ⟨rfl, rfl, rfl, by simp [World.setCell], fun k _ hne => Below.heap_setCell _ _ _ _ (by rintro rfl; exact hne rfl)⟩
theorem Src.put {w : World} {g T b o : Nat} {v : Value} (h : Src w g T) (hb : g < b) : Src (w.setCell ⟨b, o, none⟩ v) g T := h.grown set_grown hb
theorem Src.alloc {w : World} {g T : Nat} (h : Src w g T) (o : Obj) : Src (w.alloc o) g T := h.below ((Below.refl _ _).alloc (Nat.le_refl _) _)
/-- from w on only block g and new ones have changed -/
theorem grown_put {w W : World} {g b o : Nat} {v : Value} (h : w.grownBy W (some g)) (hb : w.heap.size ≤ b) : w.grownBy (W.setCell ⟨b, o, none⟩ v) (some g) :=
  ⟨h.os, h.tape, h.output, by simpa [World.setCell] using h.size, fun k hk hne => (Below.heap_setCell _ _ _ _ (by rintro rfl; omega)).trans (h.block k hk hne)⟩
theorem grown_alloc {w W : World} {g : Nat} (h : w.grownBy W (some g)) (o : Obj) : w.grownBy (W.alloc o) (some g) :=
  ⟨h.os, h.tape, h.output, Nat.le_trans h.size (by simp), fun k hk hne => (Below.heap_alloc _ _ _ (Nat.lt_of_lt_of_le hk h.size)).trans (h.block k hk hne)⟩
theorem grown_below {w W W' : World} {g : Nat} (h : w.grownBy W (some g)) (hb : Below W.heap.size W W') : w.grownBy W' (some g) := h.trans (below_grown hb _)

def PartOut (g T : Nat) (w : World) (e : Ending) (w' : World) : Prop := ∃ x : Int, (1 ≤ x ∧ x ≤ 1000000) ∧ e = .returned (.int .i64 x) ∧ Src w' g (T + 4) ∧ w.grownBy w' (some g)
theorem part_parts {g T : Nat} {w : World} {e : Ending} {w' : World} (h : PartOut g T w e w') : ∃ x : Int, (1 ≤ x ∧ x ≤ 1000000) ∧ e = .returned (.int .i64 x) ∧ Src w' g (T + 4) ∧ w.grownBy w' (some g) := h
set_option maxHeartbeats 1000000 in
theorem draw_part (g T : Nat) (w : World) (h : Src w g T) (hT : T ≤ 10000000) : Calls Tryd.prog 117 #[.pointer (some ⟨g, 0, none⟩)] w (PartOut g T w) := by
  have H := Bx.mk h
  clear h
  go_enter Tryd.func117, Tryd.ntmps117
  go_wp2_with (fail)
  refine (one_any g T 12 w H.out (by omega) (by omega) (by omega)).mono ?_
  rintro e w1 ho
  obtain ⟨b, rfl, hs1, hg1⟩ := one_parts ho
  have S1 := Bx.mk hs1
  have G1 := Bx.mk hg1
  clear ho hs1 hg1
  cases b
  · go_wp2_with (fail)
    refine (pick_any g (T + 2) 48 w1 S1.out (by omega) (by omega) (by omega)).mono ?_
    rintro e w2 ho
    obtain ⟨x, ⟨x0, x1⟩, rfl, hs2, hg2⟩ := pick_parts ho
    have S2 := Bx.mk hs2
    have G2 := Bx.mk hg2
    clear ho hs2 hg2
    go_wp2_with (fail)
    go_ret
    exact ⟨1 + x, by omega, rfl, S2.out, G1.out.trans G2.out⟩
  · go_wp2_with (fail)
    refine (among_any g (T + 2) w1.heap.size 5 [1, 1000000, 999999, 524288, 7] _ (S1.out.below ((Below.refl _ _).alloc (Nat.le_refl _) _)) (by omega) rfl (by omega) ⟨by have := S1.out.lt; omega, by simp⟩ ?_).mono ?_
    · intro k hk
      have e := heap_alloc_new w1 (.cells #[.int .i64 1, .int .i64 1000000, .int .i64 999999, .int .i64 524288, .int .i64 7] 2)
      obtain rfl | rfl | rfl | rfl | rfl : k = 0 ∨ k = 1 ∨ k = 2 ∨ k = 3 ∨ k = 4 := by omega
      all_goals exact (cell_heap e _).trans rfl
    rintro e w2 ho
    obtain ⟨x, hx, rfl, hs2, hg2⟩ := among_parts ho
    have S2 := Bx.mk hs2
    have G2 := Bx.mk ((below_grown ((Below.refl w1.heap.size w1).alloc (Nat.le_refl _) _) (some g)).trans hg2)
    have HX : Bx (1 ≤ x ∧ x ≤ 1000000) := Bx.mk (by simp at hx; omega)
    clear ho hs2 hg2 hx
    go_wp2_with (fail)
    go_ret
    exact ⟨x, HX.out, rfl, S2.out, G1.out.trans G2.out⟩
def RatDraw (g T : Nat) (w : World) (e : Ending) (w' : World) : Prop := ∃ p q : Int, e = .returned (rat p q) ∧ (-10 ≤ p ∧ p ≤ 2000000) ∧ (-10 ≤ q ∧ q ≤ 2000000) ∧ Src w' g (T + 12) ∧ w.grownBy w' (some g)
theorem ratdraw_parts {g T : Nat} {w : World} {e : Ending} {w' : World} (h : RatDraw g T w e w') : ∃ p q : Int, e = .returned (.agg #[.int .i64 p, .int .i64 q]) ∧ (-10 ≤ p ∧ p ≤ 2000000) ∧ (-10 ≤ q ∧ q ≤ 2000000) ∧ Src w' g (T + 12) ∧ w.grownBy w' (some g) := h
def RatDraw2 (g T : Nat) (w : World) (e : Ending) (w' : World) : Prop := ∃ p q : Int, e = .returned (rat p q) ∧ Src w' g (T + 16) ∧ w.grownBy w' (some g)
theorem ratdraw2_parts {g T : Nat} {w : World} {e : Ending} {w' : World} (h : RatDraw2 g T w e w') : ∃ p q : Int, e = .returned (.agg #[.int .i64 p, .int .i64 q]) ∧ Src w' g (T + 16) ∧ w.grownBy w' (some g) := h
set_option maxHeartbeats 1000000 in
theorem draw_ok (g T : Nat) (w : World) (h : Src w g T) (hT : T ≤ 1000000) : Calls Tryd.prog 93 #[.pointer (some ⟨g, 0, none⟩)] w (RatDraw g T w) := by
  have H := Bx.mk (h.alloc (.cells #[.int .i64 0, .int .i64 0] 40))
  have hgl := h.lt
  have hp0 := PairAt.new w 0 0
  clear h
  go_enter Tryd.func93, Tryd.ntmps93
  go_wp2_with (fail)
  refine (draw_part g T _ H.out (by omega)).mono ?_
  rintro e w1 ho
  obtain ⟨x, hx, rfl, hs1, hg1⟩ := part_parts ho
  have P1 := Bx.mk (hp0.grown hg1 (by omega))
  have S1 := Bx.mk hs1
  have G1 := Bx.mk ((grown_alloc (World.grownBy.refl w (some g)) _).trans hg1)
  clear ho hs1 hg1 hp0
  go_wp2_with (fail)
  refine (draw_part g (T + 4) w1 S1.out (by omega)).mono ?_
  rintro e w2 ho
  obtain ⟨y, hy, rfl, hs2, hg2⟩ := part_parts ho
  have P2 := Bx.mk (P1.out.grown hg2 (by omega))
  have S2 := Bx.mk hs2
  have G2 := Bx.mk (G1.out.trans hg2)
  clear ho hs2 hg2
  have hd := fun W => spec_done x y W (by omega) (by omega)
  obtain ⟨p, q, hdn, ⟨p1, p2⟩, q1, q2⟩ : ∃ p q, doneR x y = (p, q, 0) ∧ (1 ≤ p ∧ p ≤ 1000000) ∧ (1 ≤ q ∧ q ≤ 1000000) := by
    obtain ⟨x1, x2, _⟩ := red_num x y hx.1
    obtain ⟨y1, y2, _⟩ := red_num y x hy.1
    rw [gz_comm y x] at y1 y2
    exact ⟨x / gz x y, y / gz x y, by unfold doneR; rw [if_pos (by omega)], by omega, by omega⟩
  rw [hdn] at hd
  clear hdn
  go_wp2_with (fail)
  refine (hd _).mono ?_
  rintro e w3 ⟨rfl, hb3⟩
  have P3 := Bx.mk (P2.out.below hb3)
  have S3 := Bx.mk (S2.out.below hb3)
  have G3 := Bx.mk (grown_below G2.out hb3)
  clear hb3 hd
  have c0 := P3.out.c0
  have c1 := P3.out.c1
  have f0 := P3.out.f0 0
  have f1 := P3.out.f0 1
  have hz := P3.out.lt
  unfold rat
  go_wp2_with (fail)
  refine bodyPost_ret (v := .agg #[.int .i64 p, .int .i64 q]) (by simp [results, Tryd.results93, go_sem, c0, c1, hz]) rfl ?_
  exact ⟨p, q, rfl, by omega, by omega, (((S3.out.put hgl).put hgl).alloc _).more (by omega), grown_alloc (grown_put (grown_put G3.out (Nat.le_refl _)) (Nat.le_refl _)) _⟩
set_option maxHeartbeats 2000000 in
theorem draw_rat (g T : Nat) (w : World) (h : Src w g T) (hT : T ≤ 100000) : Calls Tryd.prog 59 #[.pointer (some ⟨g, 0, none⟩)] w (RatDraw2 g T w) := by
  have H := Bx.mk (h.alloc (.cells #[.int .i64 0, .int .i64 0] 40))
  have hgl := h.lt
  have hp0 := PairAt.new w 0 0
  clear h
  go_enter Tryd.func59, Tryd.ntmps59
  go_wp2_with (fail)
  refine (draw_ok g T _ H.out (by omega)).mono ?_
  rintro e w1 ho
  obtain ⟨p, q, rfl, hp, hq, hs1, hg1⟩ := ratdraw_parts ho
  have P1 := Bx.mk ((hp0.grown hg1 (by omega)).alloc (.cells #[.int .i64 p, .int .i64 q] 40))
  have R1 := Bx.mk (PairAt.new w1 p q)
  have S1 := Bx.mk (hs1.alloc (.cells #[.int .i64 p, .int .i64 q] 40))
  have G1 := Bx.mk (grown_alloc ((grown_alloc (World.grownBy.refl w (some g)) _).trans hg1) (.cells #[.int .i64 p, .int .i64 q] 40))
  have hz1 : w.heap.size < w1.heap.size := by have := (hp0.grown hg1 (by omega)).lt; omega
  clear ho hs1 hg1 hp0
  go_wp2_with (fail)
  refine (pick_any g (T + 12) 20 _ S1.out (by omega) (by omega) (by omega)).mono ?_
  rintro e w2 ho
  obtain ⟨x, ⟨x0, x1⟩, rfl, hs2, hg2⟩ := pick_parts ho
  have P2 := Bx.mk (P1.out.grown hg2 (by omega))
  have R2 := Bx.mk (R1.out.grown hg2 (by omega))
  have S2 := Bx.mk hs2
  have G2 := Bx.mk (G1.out.trans hg2)
  clear ho hs2 hg2 P1 R1 S1 G1
  have c0 := P2.out.c0
  have c1 := P2.out.c1
  have f0 := P2.out.f0 0
  have f1 := P2.out.f0 1
  have hz := P2.out.lt
  have d0 := R2.out.c0
  have d1 := R2.out.c1
  have e0 := R2.out.f0 0
  have e1 := R2.out.f0 1
  have hz2 := R2.out.lt
  have hne : w1.heap.size ≠ w.heap.size := by omega
  by_cases k0 : x = 0
  · subst k0
    go_wp2_with (fail)
    refine (among_any g (T + 14) w2.heap.size 3 [0, 1000001, -3] _ (S2.out.alloc _) (by omega) rfl (by omega) ⟨by have := S2.out.lt; omega, by simp⟩ ?_).mono ?_
    · intro k hk
      have e := heap_alloc_new w2 (.cells #[.int .i64 (0), .int .i64 (1000001), .int .i64 (-3)] 2)
      obtain rfl | rfl | rfl : k = 0 ∨ k = 1 ∨ k = 2 := by omega
      all_goals exact (cell_heap e _).trans rfl
    rintro e w3 ho
    obtain ⟨y, hy, rfl, hs3, hg3⟩ := among_parts ho
    have P3 := Bx.mk ((P2.out.alloc _).grown hg3 (by omega))
    have R3 := Bx.mk ((R2.out.alloc _).grown hg3 (by omega))
    have S3 := Bx.mk hs3
    have G3 := Bx.mk ((grown_alloc G2.out _).trans hg3)
    clear ho hs3 hg3 hy S2 G2 P2 R2 c0 c1 f0 f1 d0 d1 e0 e1 hz hz2
    have c0 := P3.out.c0
    have c1 := P3.out.c1
    have f0 := P3.out.f0 0
    have f1 := P3.out.f0 1
    have d0 := R3.out.c0
    have d1 := R3.out.c1
    have e0 := R3.out.f0 0
    have e1 := R3.out.f0 1
    go_wp2_with (fail)
    refine bodyPost_ret (v := .agg #[.int .i64 y, .int .i64 q]) (by simp [results, Tryd.results59, go_sem, c0, c1, d0, d1, hne]) rfl ?_
    exact ⟨_, _, rfl, (((S3.out.put (by omega)).put hgl).put hgl).more (by omega), grown_put (grown_put (grown_put G3.out (by omega)) (Nat.le_refl _)) (Nat.le_refl _)⟩
  · have k0' : (x == 0) = false := by simpa using k0
    by_cases k1 : x = 1
    · subst k1
      go_wp2_with (fail)
      refine (among_any g (T + 14) w2.heap.size 2 [0, 1000001] _ (S2.out.alloc _) (by omega) rfl (by omega) ⟨by have := S2.out.lt; omega, by simp⟩ ?_).mono ?_
      · intro k hk
        have e := heap_alloc_new w2 (.cells #[.int .i64 (0), .int .i64 (1000001)] 2)
        obtain rfl | rfl : k = 0 ∨ k = 1 := by omega
        all_goals exact (cell_heap e _).trans rfl
      rintro e w3 ho
      obtain ⟨y, hy, rfl, hs3, hg3⟩ := among_parts ho
      have P3 := Bx.mk ((P2.out.alloc _).grown hg3 (by omega))
      have R3 := Bx.mk ((R2.out.alloc _).grown hg3 (by omega))
      have S3 := Bx.mk hs3
      have G3 := Bx.mk ((grown_alloc G2.out _).trans hg3)
      clear ho hs3 hg3 hy S2 G2 P2 R2 c0 c1 f0 f1 d0 d1 e0 e1 hz hz2
      have c0 := P3.out.c0
      have c1 := P3.out.c1
      have f0 := P3.out.f0 0
      have f1 := P3.out.f0 1
      have d0 := R3.out.c0
      have d1 := R3.out.c1
      have e0 := R3.out.f0 0
      have e1 := R3.out.f0 1
      go_wp2_with (fail)
      refine bodyPost_ret (v := .agg #[.int .i64 p, .int .i64 y]) (by simp [results, Tryd.results59, go_sem, c0, c1, d0, d1, hne]) rfl ?_
      exact ⟨_, _, rfl, (((S3.out.put (by omega)).put hgl).put hgl).more (by omega), grown_put (grown_put (grown_put G3.out (by omega)) (Nat.le_refl _)) (Nat.le_refl _)⟩
    · have k1' : (x == 1) = false := by simpa using k1
      by_cases k2 : x = 2
      · subst k2
        go_wp2_with (fail)
        refine bodyPost_ret (v := .agg #[.int .i64 (2 * p), .int .i64 (2 * q)]) (by simp [results, Tryd.results59, go_sem, c0, c1, d0, d1, hne]) rfl ?_
        exact ⟨_, _, rfl, ((((S2.out.put (by omega)).put (by omega)).put hgl).put hgl).more (by omega), grown_put (grown_put (grown_put (grown_put G2.out (by omega)) (by omega)) (Nat.le_refl _)) (Nat.le_refl _)⟩
      · have k2' : (x == 2) = false := by simpa using k2
        go_wp2_with (fail)
        refine bodyPost_ret (v := .agg #[.int .i64 p, .int .i64 q]) (by simp [results, Tryd.results59, go_sem, c0, c1, d0, d1, hne]) rfl ?_
        exact ⟨_, _, rfl, ((S2.out.put hgl).put hgl).more (by omega), grown_put (grown_put G2.out (Nat.le_refl _)) (Nat.le_refl _)⟩
end Go.Proofs.YtdhgbincebcobaaDoor
