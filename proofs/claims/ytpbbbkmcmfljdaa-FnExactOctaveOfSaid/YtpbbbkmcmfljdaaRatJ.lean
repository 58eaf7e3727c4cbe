/- The program's functions of chapter 2 that hand back a ratio. -/
import Derived.Test.YtpbbbkmcmfljdaaRatI
namespace Go.Proofs.Ytpbbbkmcmfljdaa
open Go.ChangeShapes Go.WideShapes Go.ChangeAt Go.RowKit
set_option linter.unusedVariables false

theorem PairAt.drew1 {w : World} {g : Nat} {n d : Int} (h : PairAt w g n d) : PairAt w.drew g n d := h
theorem PairAt.put0 {w : World} {g : Nat} {n d : Int} (h : PairAt w g n d) (m : Int) : PairAt (w.setCell ⟨g, 0, none⟩ (.int .i64 m)) g m d := heap_setCell_same w g 0 _ _ (.int .i64 m) h
theorem PairAt.put1 {w : World} {g : Nat} {n d : Int} (h : PairAt w g n d) (m : Int) : PairAt (w.setCell ⟨g, 1, none⟩ (.int .i64 m)) g n m := heap_setCell_same w g 1 _ _ (.int .i64 m) h
theorem PairAt.other2 {w : World} {g b o : Nat} {n d : Int} (hg : b ≠ g) (h : PairAt w g n d) (u : Value) : PairAt (w.setCell ⟨b, o, none⟩ u) g n d := h.other hg u
set_option maxHeartbeats 1000000 in
theorem impl_reduce (n d : Int) (w : World) : Calls Try.prog 15 #[.int .i64 n, .int .i64 d] w (RatOut (redR n d) w) := by
  have hwi := fun W => impl_within n d 1000000000000 W
  cases hc : withB n d 1000000000000
  · have HE : Bx (redR n d = (0, 0, 2)) := Bx.mk (by unfold redR; unfold withB at hc; rw [hc]; rfl)
    rw [hc] at hwi
    clear hc
    unfold rat at *
    go_enter Try.func15, Try.ntmps15
    go_wp2_with (fail)
    refine (hwi _).mono ?_
    rintro r1 w1 ⟨rfl, hb1⟩
    have K1_0 : Bx (PairAt w1 w.heap.size (0) (0)) := Bx.mk (PairAt.below (by repeat' (first | (with_reducible assumption) | (with_reducible refine PairAt.at _ _ _ _ ?_; focus (first | omega | (simp only [World.size_alloc, World.size_setCell, World.size_drew] <;> omega) | (simp <;> omega))) | (with_reducible refine PairAt.alloc ?_ _) | (with_reducible refine PairAt.draws ?_ _) | (with_reducible refine PairAt.drew1 ?_) | (with_reducible apply PairAt.put) | (with_reducible apply PairAt.put1) | (with_reducible apply PairAt.put0) | (with_reducible refine PairAt.other2 ?_ ?_ _; focus (first | omega | (simp only [World.size_alloc, World.size_setCell, World.size_drew] <;> omega) | (simp <;> omega))))) hb1)
    have K1_1 : Bx (PairAt w1 (w.heap.size + 1) (n) (d)) := Bx.mk (PairAt.below (by repeat' (first | (with_reducible assumption) | (with_reducible refine PairAt.at _ _ _ _ ?_; focus (first | omega | (simp only [World.size_alloc, World.size_setCell, World.size_drew] <;> omega) | (simp <;> omega))) | (with_reducible refine PairAt.alloc ?_ _) | (with_reducible refine PairAt.draws ?_ _) | (with_reducible refine PairAt.drew1 ?_) | (with_reducible apply PairAt.put) | (with_reducible apply PairAt.put1) | (with_reducible apply PairAt.put0) | (with_reducible refine PairAt.other2 ?_ ?_ _; focus (first | omega | (simp only [World.size_alloc, World.size_setCell, World.size_drew] <;> omega) | (simp <;> omega))))) hb1)
    have B1 : Bx (Below w.heap.size w w1) := Bx.mk (Below.trans (by repeat' (first | (with_reducible exact Below.refl _ _) | (with_reducible assumption) | (with_reducible refine Below.drew ?_) | (with_reducible refine Below.alloc ?_ ?_ _) | (with_reducible refine below_draws ?_ _) | (with_reducible refine Below.setCell ?_ ?_ _) | go_size)) (hb1.mono (by go_size)))
    clear hb1
    have zB1 := B1.out.size
    have K1_0c0 := K1_0.out.c0
    have K1_0c1 := K1_0.out.c1
    have K1_0f0 := K1_0.out.f0 0
    have K1_0f1 := K1_0.out.f0 1
    have K1_0lt := K1_0.out.lt
    have K1_1c0 := K1_1.out.c0
    have K1_1c1 := K1_1.out.c1
    have K1_1f0 := K1_1.out.f0 0
    have K1_1f1 := K1_1.out.f0 1
    have K1_1lt := K1_1.out.lt
    go_wp2_with (fail)
    have P := put_pair K1_0.out (0) (0)
    refine bodyPost_ret (v := .tuple #[.agg #[.int .i64 0, .int .i64 0], .int .i64 2]) (by simp [results, Try.results15, go_sem, P.1, P.2]) rfl ?_
    refine rat_out HE.out ?_
    have KBO := B1.out
    repeat' (first | (with_reducible exact Below.refl _ _) | (with_reducible assumption) | (with_reducible refine Below.drew ?_) | (with_reducible refine Below.alloc ?_ ?_ _) | (with_reducible refine below_draws ?_ _) | (with_reducible refine Below.setCell ?_ ?_ _) | go_size)
  · have HE : Bx (redR n d = doneR n d) := Bx.mk (by unfold redR; unfold withB at hc; rw [if_pos hc])
    rw [hc] at hwi
    have hc2 := hc
    unfold withB at hc2
    rw [Bool.and_eq_true] at hc2
    obtain ⟨n1, n2⟩ := inB_yes hc2.1
    obtain ⟨d1, d2⟩ := inB_yes hc2.2
    clear hc hc2
    have hf := fun W => impl_fitted n d W (by omega) (by omega)
    generalize doneR n d = t at HE hf
    replace hf := rat_open hf
    unfold rat at *
    go_enter Try.func15, Try.ntmps15
    go_wp2_with (fail)
    refine (hwi _).mono ?_
    rintro r1 w1 ⟨rfl, hb1⟩
    have K1_0 : Bx (PairAt w1 w.heap.size (0) (0)) := Bx.mk (PairAt.below (by repeat' (first | (with_reducible assumption) | (with_reducible refine PairAt.at _ _ _ _ ?_; focus (first | omega | (simp only [World.size_alloc, World.size_setCell, World.size_drew] <;> omega) | (simp <;> omega))) | (with_reducible refine PairAt.alloc ?_ _) | (with_reducible refine PairAt.draws ?_ _) | (with_reducible refine PairAt.drew1 ?_) | (with_reducible apply PairAt.put) | (with_reducible apply PairAt.put1) | (with_reducible apply PairAt.put0) | (with_reducible refine PairAt.other2 ?_ ?_ _; focus (first | omega | (simp only [World.size_alloc, World.size_setCell, World.size_drew] <;> omega) | (simp <;> omega))))) hb1)
    have K1_1 : Bx (PairAt w1 (w.heap.size + 1) (n) (d)) := Bx.mk (PairAt.below (by repeat' (first | (with_reducible assumption) | (with_reducible refine PairAt.at _ _ _ _ ?_; focus (first | omega | (simp only [World.size_alloc, World.size_setCell, World.size_drew] <;> omega) | (simp <;> omega))) | (with_reducible refine PairAt.alloc ?_ _) | (with_reducible refine PairAt.draws ?_ _) | (with_reducible refine PairAt.drew1 ?_) | (with_reducible apply PairAt.put) | (with_reducible apply PairAt.put1) | (with_reducible apply PairAt.put0) | (with_reducible refine PairAt.other2 ?_ ?_ _; focus (first | omega | (simp only [World.size_alloc, World.size_setCell, World.size_drew] <;> omega) | (simp <;> omega))))) hb1)
    have B1 : Bx (Below w.heap.size w w1) := Bx.mk (Below.trans (by repeat' (first | (with_reducible exact Below.refl _ _) | (with_reducible assumption) | (with_reducible refine Below.drew ?_) | (with_reducible refine Below.alloc ?_ ?_ _) | (with_reducible refine below_draws ?_ _) | (with_reducible refine Below.setCell ?_ ?_ _) | go_size)) (hb1.mono (by go_size)))
    clear hb1
    have zB1 := B1.out.size
    have K1_0c0 := K1_0.out.c0
    have K1_0c1 := K1_0.out.c1
    have K1_0f0 := K1_0.out.f0 0
    have K1_0f1 := K1_0.out.f0 1
    have K1_0lt := K1_0.out.lt
    have K1_1c0 := K1_1.out.c0
    have K1_1c1 := K1_1.out.c1
    have K1_1f0 := K1_1.out.f0 0
    have K1_1f1 := K1_1.out.f0 1
    have K1_1lt := K1_1.out.lt
    go_wp2_with (fail)
    refine (hf _).mono ?_
    rintro r2 w2 ⟨rfl, hb2⟩
    have K2_0 : Bx (PairAt w2 w.heap.size (0) (0)) := Bx.mk (PairAt.below (by have QK1_0 := K1_0.out; have QK1_1 := K1_1.out; repeat' (first | (with_reducible assumption) | (with_reducible refine PairAt.at _ _ _ _ ?_; focus (first | omega | (simp only [World.size_alloc, World.size_setCell, World.size_drew] <;> omega) | (simp <;> omega))) | (with_reducible refine PairAt.alloc ?_ _) | (with_reducible refine PairAt.draws ?_ _) | (with_reducible refine PairAt.drew1 ?_) | (with_reducible apply PairAt.put) | (with_reducible apply PairAt.put1) | (with_reducible apply PairAt.put0) | (with_reducible refine PairAt.other2 ?_ ?_ _; focus (first | omega | (simp only [World.size_alloc, World.size_setCell, World.size_drew] <;> omega) | (simp <;> omega))))) hb2)
    have B2 : Bx (Below w.heap.size w w2) := Bx.mk (Below.trans (by have KBO := B1.out; repeat' (first | (with_reducible exact Below.refl _ _) | (with_reducible assumption) | (with_reducible refine Below.drew ?_) | (with_reducible refine Below.alloc ?_ ?_ _) | (with_reducible refine below_draws ?_ _) | (with_reducible refine Below.setCell ?_ ?_ _) | go_size)) (hb2.mono (by go_size)))
    clear hb2
    clear K1_0c0 K1_0c1 K1_0f0 K1_0f1 K1_0lt K1_0
    clear K1_1c0 K1_1c1 K1_1f0 K1_1f1 K1_1lt K1_1
    clear B1 zB1
    have zB2 := B2.out.size
    have K2_0c0 := K2_0.out.c0
    have K2_0c1 := K2_0.out.c1
    have K2_0f0 := K2_0.out.f0 0
    have K2_0f1 := K2_0.out.f0 1
    have K2_0lt := K2_0.out.lt
    go_wp2_with (fail)
    have P := put_pair K2_0.out (t.1) (t.2.1)
    refine bodyPost_ret (v := .tuple #[.agg #[.int .i64 t.1, .int .i64 t.2.1], .int .i64 t.2.2]) (by simp [results, Try.results15, go_sem, P.1, P.2]) rfl ?_
    refine rat_out (t := redR n d) (n := t.1) (d := t.2.1) (c := t.2.2) HE.out ?_
    have KBO := B2.out
    repeat' (first | (with_reducible exact Below.refl _ _) | (with_reducible assumption) | (with_reducible refine Below.drew ?_) | (with_reducible refine Below.alloc ?_ ?_ _) | (with_reducible refine below_draws ?_ _) | (with_reducible refine Below.setCell ?_ ?_ _) | go_size)
end Go.Proofs.Ytpbbbkmcmfljdaa
