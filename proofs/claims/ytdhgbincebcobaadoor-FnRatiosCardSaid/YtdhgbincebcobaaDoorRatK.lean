/- Products, quotients and the ratio between two others: combineRatios with each of its closures. -/
import Derived.Test.YtdhgbincebcobaaDoorRatJ
namespace Go.Proofs.YtdhgbincebcobaaDoor
open Go.ChangeShapes Go.WideShapes Go.ChangeAt Go.RowKit
set_option linter.unusedVariables false
set_option linter.unusedSimpArgs false
set_option maxRecDepth 100000

theorem rat_open' {P : Program} {f : FuncId} {args : Array Value} {t : Int × Int × Int} {W : World} (h : Calls P f args W (RatOut t W)) : Calls P f args W fun e w' => e = .returned (.tuple #[.agg #[.int .i64 t.1, .int .i64 t.2.1], .int .i64 t.2.2]) ∧ Below W.heap.size W w' := h
set_option maxHeartbeats 1000000 in
theorem mul_closure (g h : Nat) (n d m e : Int) (w : World) (hg : PairAt w g n d) (hh : PairAt w h m e) (n1 : 1 ≤ n) (n2 : n ≤ 1000000) (d1 : 1 ≤ d) (d2 : d ≤ 1000000) (m1 : 1 ≤ m) (m2 : m ≤ 1000000) (e1 : 1 ≤ e) (e2 : e ≤ 1000000) :
    Calls Tryd.prog 61 #[.pointer (some ⟨g, 0, none⟩), .pointer (some ⟨h, 0, none⟩)] w fun r w' => r = .returned (rat (n * m) (d * e)) ∧ Below w.heap.size w w' := by
  have x1 : 1 ≤ n * m ∧ n * m ≤ 1000000000000 := mul_rng ⟨by omega, by omega⟩ ⟨by omega, by omega⟩
  have y1 : 1 ≤ d * e ∧ d * e ≤ 1000000000000 := mul_rng ⟨by omega, by omega⟩ ⟨by omega, by omega⟩
  have E1 : IntKind.i64.wrap (n * m) = n * m := IntWalk.i64_in _ (by omega)
  have E2 : IntKind.i64.wrap (d * e) = d * e := IntWalk.i64_in _ (by omega)
  clear x1 y1 n1 n2 d1 d2 m1 m2 e1 e2
  have a0 := hg.c0
  have a1 := hg.c1
  have al := hg.lt
  have b0 := hh.c0
  have b1 := hh.c1
  have bl := hh.lt
  clear hg hh
  unfold rat
  go_enter Tryd.func61, Tryd.ntmps61
  go_wp2_with (fail)
  refine bodyPost_ret (v := .agg #[.int .i64 (n * m), .int .i64 (d * e)]) (by simp [results, Tryd.results61, go_sem]) rfl ⟨rfl, ?_⟩
  repeat' (first | (with_reducible exact Below.refl _ _) | (with_reducible assumption) | (with_reducible refine Below.drew ?_) | (with_reducible refine Below.alloc ?_ ?_ _) | (with_reducible refine below_draws ?_ _) | (with_reducible refine Below.setCell ?_ ?_ _) | go_size)
set_option maxHeartbeats 1000000 in
theorem mul_combine (g h : Nat) (n d m e : Int) (w : World) (hg : PairAt w g n d) (hh : PairAt w h m e) :
    Calls Tryd.prog 60 #[rat n d, rat m e, .func (.func 61) #[] #[.pointer (some ⟨g, 0, none⟩), .pointer (some ⟨h, 0, none⟩)]] w (RatOut (mulR n d m e) w) := by
  have hp0 := fun W => impl_valid n d W
  have hp1 := fun W => impl_valid m e W
  have HG := Bx.mk hg
  have HH := Bx.mk hh
  clear hg hh
  cases hn : okR n d
  · have HE : Bx (mulR n d m e = (0, 0, 1)) := Bx.mk (by simp [mulR, hn])
    simp only [hn] at hp0
    clear hn
    unfold rat at *
    go_enter Tryd.func60, Tryd.ntmps60
    go_wp2_with (fail)
    refine (hp0 _).mono ?_
    rintro r1 w1 ⟨rfl, hb1⟩
    have K1_2 : Bx (PairAt w1 (w.heap.size + 1 + 1) (0) (0)) := Bx.mk (PairAt.below (by repeat' (first | (with_reducible assumption) | (with_reducible refine PairAt.at _ _ _ _ ?_; focus (first | omega | (simp only [World.size_alloc, World.size_setCell, World.size_drew] <;> omega) | (simp <;> omega))) | (with_reducible refine PairAt.alloc ?_ _) | (with_reducible refine PairAt.draws ?_ _) | (with_reducible refine PairAt.drew1 ?_) | (with_reducible apply PairAt.put) | (with_reducible apply PairAt.put1) | (with_reducible apply PairAt.put0) | (with_reducible refine PairAt.other2 ?_ ?_ _; focus (first | omega | (simp only [World.size_alloc, World.size_setCell, World.size_drew] <;> omega) | (simp <;> omega))))) hb1)
    have B1 : Bx (Below w.heap.size w w1) := Bx.mk (Below.trans (by repeat' (first | (with_reducible exact Below.refl _ _) | (with_reducible assumption) | (with_reducible refine Below.drew ?_) | (with_reducible refine Below.alloc ?_ ?_ _) | (with_reducible refine below_draws ?_ _) | (with_reducible refine Below.setCell ?_ ?_ _) | go_size)) (hb1.mono (by go_size)))
    clear hb1
    have zB1 := B1.out.size
    have K1_2c0 := K1_2.out.c0
    have K1_2c1 := K1_2.out.c1
    have K1_2f0 := K1_2.out.f0 0
    have K1_2f1 := K1_2.out.f0 1
    have K1_2lt := K1_2.out.lt
    go_wp2_with (fail)
    have P := put_pair K1_2.out (0) (0)
    refine bodyPost_ret (v := .tuple #[.agg #[.int .i64 0, .int .i64 0], .int .i64 1]) (by simp [results, Tryd.results60, go_sem, P.1, P.2]) rfl ?_
    refine rat_out HE.out ?_
    have KBO := B1.out
    repeat' (first | (with_reducible exact Below.refl _ _) | (with_reducible assumption) | (with_reducible refine Below.drew ?_) | (with_reducible refine Below.alloc ?_ ?_ _) | (with_reducible refine below_draws ?_ _) | (with_reducible refine Below.setCell ?_ ?_ _) | go_size)
  · simp only [hn] at hp0
    cases hm : okR m e
    · have HE : Bx (mulR n d m e = (0, 0, 1)) := Bx.mk (by simp [mulR, hm])
      simp only [hm] at hp1
      clear hn hm
      unfold rat at *
      go_enter Tryd.func60, Tryd.ntmps60
      go_wp2_with (fail)
      refine (hp0 _).mono ?_
      rintro r1 w1 ⟨rfl, hb1⟩
      have K1_1 : Bx (PairAt w1 (w.heap.size + 1) (m) (e)) := Bx.mk (PairAt.below (by repeat' (first | (with_reducible assumption) | (with_reducible refine PairAt.at _ _ _ _ ?_; focus (first | omega | (simp only [World.size_alloc, World.size_setCell, World.size_drew] <;> omega) | (simp <;> omega))) | (with_reducible refine PairAt.alloc ?_ _) | (with_reducible refine PairAt.draws ?_ _) | (with_reducible refine PairAt.drew1 ?_) | (with_reducible apply PairAt.put) | (with_reducible apply PairAt.put1) | (with_reducible apply PairAt.put0) | (with_reducible refine PairAt.other2 ?_ ?_ _; focus (first | omega | (simp only [World.size_alloc, World.size_setCell, World.size_drew] <;> omega) | (simp <;> omega))))) hb1)
      have K1_2 : Bx (PairAt w1 (w.heap.size + 1 + 1) (0) (0)) := Bx.mk (PairAt.below (by repeat' (first | (with_reducible assumption) | (with_reducible refine PairAt.at _ _ _ _ ?_; focus (first | omega | (simp only [World.size_alloc, World.size_setCell, World.size_drew] <;> omega) | (simp <;> omega))) | (with_reducible refine PairAt.alloc ?_ _) | (with_reducible refine PairAt.draws ?_ _) | (with_reducible refine PairAt.drew1 ?_) | (with_reducible apply PairAt.put) | (with_reducible apply PairAt.put1) | (with_reducible apply PairAt.put0) | (with_reducible refine PairAt.other2 ?_ ?_ _; focus (first | omega | (simp only [World.size_alloc, World.size_setCell, World.size_drew] <;> omega) | (simp <;> omega))))) hb1)
      have B1 : Bx (Below w.heap.size w w1) := Bx.mk (Below.trans (by repeat' (first | (with_reducible exact Below.refl _ _) | (with_reducible assumption) | (with_reducible refine Below.drew ?_) | (with_reducible refine Below.alloc ?_ ?_ _) | (with_reducible refine below_draws ?_ _) | (with_reducible refine Below.setCell ?_ ?_ _) | go_size)) (hb1.mono (by go_size)))
      clear hb1
      have zB1 := B1.out.size
      have K1_1c0 := K1_1.out.c0
      have K1_1c1 := K1_1.out.c1
      have K1_1f0 := K1_1.out.f0 0
      have K1_1f1 := K1_1.out.f0 1
      have K1_1lt := K1_1.out.lt
      have K1_2c0 := K1_2.out.c0
      have K1_2c1 := K1_2.out.c1
      have K1_2f0 := K1_2.out.f0 0
      have K1_2f1 := K1_2.out.f0 1
      have K1_2lt := K1_2.out.lt
      go_wp2_with (fail)
      refine (hp1 _).mono ?_
      rintro r2 w2 ⟨rfl, hb2⟩
      have K2_2 : Bx (PairAt w2 (w.heap.size + 1 + 1) (0) (0)) := Bx.mk (PairAt.below (by have QK1_1 := K1_1.out; have QK1_2 := K1_2.out; repeat' (first | (with_reducible assumption) | (with_reducible refine PairAt.at _ _ _ _ ?_; focus (first | omega | (simp only [World.size_alloc, World.size_setCell, World.size_drew] <;> omega) | (simp <;> omega))) | (with_reducible refine PairAt.alloc ?_ _) | (with_reducible refine PairAt.draws ?_ _) | (with_reducible refine PairAt.drew1 ?_) | (with_reducible apply PairAt.put) | (with_reducible apply PairAt.put1) | (with_reducible apply PairAt.put0) | (with_reducible refine PairAt.other2 ?_ ?_ _; focus (first | omega | (simp only [World.size_alloc, World.size_setCell, World.size_drew] <;> omega) | (simp <;> omega))))) hb2)
      have B2 : Bx (Below w.heap.size w w2) := Bx.mk (Below.trans (by have KBO := B1.out; repeat' (first | (with_reducible exact Below.refl _ _) | (with_reducible assumption) | (with_reducible refine Below.drew ?_) | (with_reducible refine Below.alloc ?_ ?_ _) | (with_reducible refine below_draws ?_ _) | (with_reducible refine Below.setCell ?_ ?_ _) | go_size)) (hb2.mono (by go_size)))
      clear hb2
      clear K1_1c0 K1_1c1 K1_1f0 K1_1f1 K1_1lt K1_1
      clear K1_2c0 K1_2c1 K1_2f0 K1_2f1 K1_2lt K1_2
      clear B1 zB1
      have zB2 := B2.out.size
      have K2_2c0 := K2_2.out.c0
      have K2_2c1 := K2_2.out.c1
      have K2_2f0 := K2_2.out.f0 0
      have K2_2f1 := K2_2.out.f0 1
      have K2_2lt := K2_2.out.lt
      go_wp2_with (fail)
      have P := put_pair K2_2.out (0) (0)
      refine bodyPost_ret (v := .tuple #[.agg #[.int .i64 0, .int .i64 0], .int .i64 1]) (by simp [results, Tryd.results60, go_sem, P.1, P.2]) rfl ?_
      refine rat_out HE.out ?_
      have KBO := B2.out
      repeat' (first | (with_reducible exact Below.refl _ _) | (with_reducible assumption) | (with_reducible refine Below.drew ?_) | (with_reducible refine Below.alloc ?_ ?_ _) | (with_reducible refine below_draws ?_ _) | (with_reducible refine Below.setCell ?_ ?_ _) | go_size)
    · have HE : Bx (mulR n d m e = doneR (n * m) (d * e)) := Bx.mk (by simp [mulR, hn, hm])
      simp only [hm] at hp1
      obtain ⟨⟨n1, n2⟩, ⟨d1, d2⟩, _⟩ := okR_yes hn
      obtain ⟨⟨m1, m2⟩, ⟨e1, e2⟩, _⟩ := okR_yes hm
      have hcl := fun W hg hh => mul_closure g h n d m e W hg hh n1 n2 d1 d2 m1 m2 e1 e2
      have x1 : 1 ≤ n * m ∧ n * m ≤ 1000000000000 := mul_rng ⟨by omega, by omega⟩ ⟨by omega, by omega⟩
      have y1 : 1 ≤ d * e ∧ d * e ≤ 1000000000000 := mul_rng ⟨by omega, by omega⟩ ⟨by omega, by omega⟩
      have hf := fun W => impl_fitted (n * m) (d * e) W (by omega) (by omega)
      generalize doneR (n * m) (d * e) = t at HE hf
      generalize n * m = x at hf hcl
      generalize d * e = y at hf hcl
      clear hn hm n1 n2 d1 d2 m1 m2 e1 e2 x1 y1
      replace hf := rat_open hf
      unfold rat at *
      have al := HG.out.lt
      have bl := HH.out.lt
      go_enter Tryd.func60, Tryd.ntmps60
      go_wp2_with (fail)
      refine (hp0 _).mono ?_
      rintro r1 w1 ⟨rfl, hb1⟩
      have K1_1 : Bx (PairAt w1 (w.heap.size + 1) (m) (e)) := Bx.mk (PairAt.below (by have QG := HG.out; have QH := HH.out; repeat' (first | (with_reducible assumption) | (with_reducible refine PairAt.at _ _ _ _ ?_; focus (first | omega | (simp only [World.size_alloc, World.size_setCell, World.size_drew] <;> omega) | (simp <;> omega))) | (with_reducible refine PairAt.alloc ?_ _) | (with_reducible refine PairAt.draws ?_ _) | (with_reducible refine PairAt.drew1 ?_) | (with_reducible apply PairAt.put) | (with_reducible apply PairAt.put1) | (with_reducible apply PairAt.put0) | (with_reducible refine PairAt.other2 ?_ ?_ _; focus (first | omega | (simp only [World.size_alloc, World.size_setCell, World.size_drew] <;> omega) | (simp <;> omega))))) hb1)
      have K1_2 : Bx (PairAt w1 (w.heap.size + 1 + 1) (0) (0)) := Bx.mk (PairAt.below (by have QG := HG.out; have QH := HH.out; repeat' (first | (with_reducible assumption) | (with_reducible refine PairAt.at _ _ _ _ ?_; focus (first | omega | (simp only [World.size_alloc, World.size_setCell, World.size_drew] <;> omega) | (simp <;> omega))) | (with_reducible refine PairAt.alloc ?_ _) | (with_reducible refine PairAt.draws ?_ _) | (with_reducible refine PairAt.drew1 ?_) | (with_reducible apply PairAt.put) | (with_reducible apply PairAt.put1) | (with_reducible apply PairAt.put0) | (with_reducible refine PairAt.other2 ?_ ?_ _; focus (first | omega | (simp only [World.size_alloc, World.size_setCell, World.size_drew] <;> omega) | (simp <;> omega))))) hb1)
      have K1_g : Bx (PairAt w1 g (n) (d)) := Bx.mk (PairAt.below (by have QG := HG.out; have QH := HH.out; repeat' (first | (with_reducible assumption) | (with_reducible refine PairAt.at _ _ _ _ ?_; focus (first | omega | (simp only [World.size_alloc, World.size_setCell, World.size_drew] <;> omega) | (simp <;> omega))) | (with_reducible refine PairAt.alloc ?_ _) | (with_reducible refine PairAt.draws ?_ _) | (with_reducible refine PairAt.drew1 ?_) | (with_reducible apply PairAt.put) | (with_reducible apply PairAt.put1) | (with_reducible apply PairAt.put0) | (with_reducible refine PairAt.other2 ?_ ?_ _; focus (first | omega | (simp only [World.size_alloc, World.size_setCell, World.size_drew] <;> omega) | (simp <;> omega))))) hb1)
      have K1_h : Bx (PairAt w1 h (m) (e)) := Bx.mk (PairAt.below (by have QG := HG.out; have QH := HH.out; repeat' (first | (with_reducible assumption) | (with_reducible refine PairAt.at _ _ _ _ ?_; focus (first | omega | (simp only [World.size_alloc, World.size_setCell, World.size_drew] <;> omega) | (simp <;> omega))) | (with_reducible refine PairAt.alloc ?_ _) | (with_reducible refine PairAt.draws ?_ _) | (with_reducible refine PairAt.drew1 ?_) | (with_reducible apply PairAt.put) | (with_reducible apply PairAt.put1) | (with_reducible apply PairAt.put0) | (with_reducible refine PairAt.other2 ?_ ?_ _; focus (first | omega | (simp only [World.size_alloc, World.size_setCell, World.size_drew] <;> omega) | (simp <;> omega))))) hb1)
      have B1 : Bx (Below w.heap.size w w1) := Bx.mk (Below.trans (by repeat' (first | (with_reducible exact Below.refl _ _) | (with_reducible assumption) | (with_reducible refine Below.drew ?_) | (with_reducible refine Below.alloc ?_ ?_ _) | (with_reducible refine below_draws ?_ _) | (with_reducible refine Below.setCell ?_ ?_ _) | go_size)) (hb1.mono (by go_size)))
      clear hb1
      have zB1 := B1.out.size
      have K1_1c0 := K1_1.out.c0
      have K1_1c1 := K1_1.out.c1
      have K1_1f0 := K1_1.out.f0 0
      have K1_1f1 := K1_1.out.f0 1
      have K1_1lt := K1_1.out.lt
      have K1_2c0 := K1_2.out.c0
      have K1_2c1 := K1_2.out.c1
      have K1_2f0 := K1_2.out.f0 0
      have K1_2f1 := K1_2.out.f0 1
      have K1_2lt := K1_2.out.lt
      have K1_gc0 := K1_g.out.c0
      have K1_gc1 := K1_g.out.c1
      have K1_gf0 := K1_g.out.f0 0
      have K1_gf1 := K1_g.out.f0 1
      have K1_glt := K1_g.out.lt
      have K1_hc0 := K1_h.out.c0
      have K1_hc1 := K1_h.out.c1
      have K1_hf0 := K1_h.out.f0 0
      have K1_hf1 := K1_h.out.f0 1
      have K1_hlt := K1_h.out.lt
      go_wp2_with (fail)
      refine (hp1 _).mono ?_
      rintro r2 w2 ⟨rfl, hb2⟩
      have K2_2 : Bx (PairAt w2 (w.heap.size + 1 + 1) (0) (0)) := Bx.mk (PairAt.below (by have QK1_1 := K1_1.out; have QK1_2 := K1_2.out; have QK1_g := K1_g.out; have QK1_h := K1_h.out; repeat' (first | (with_reducible assumption) | (with_reducible refine PairAt.at _ _ _ _ ?_; focus (first | omega | (simp only [World.size_alloc, World.size_setCell, World.size_drew] <;> omega) | (simp <;> omega))) | (with_reducible refine PairAt.alloc ?_ _) | (with_reducible refine PairAt.draws ?_ _) | (with_reducible refine PairAt.drew1 ?_) | (with_reducible apply PairAt.put) | (with_reducible apply PairAt.put1) | (with_reducible apply PairAt.put0) | (with_reducible refine PairAt.other2 ?_ ?_ _; focus (first | omega | (simp only [World.size_alloc, World.size_setCell, World.size_drew] <;> omega) | (simp <;> omega))))) hb2)
      have K2_g : Bx (PairAt w2 g (n) (d)) := Bx.mk (PairAt.below (by have QK1_1 := K1_1.out; have QK1_2 := K1_2.out; have QK1_g := K1_g.out; have QK1_h := K1_h.out; repeat' (first | (with_reducible assumption) | (with_reducible refine PairAt.at _ _ _ _ ?_; focus (first | omega | (simp only [World.size_alloc, World.size_setCell, World.size_drew] <;> omega) | (simp <;> omega))) | (with_reducible refine PairAt.alloc ?_ _) | (with_reducible refine PairAt.draws ?_ _) | (with_reducible refine PairAt.drew1 ?_) | (with_reducible apply PairAt.put) | (with_reducible apply PairAt.put1) | (with_reducible apply PairAt.put0) | (with_reducible refine PairAt.other2 ?_ ?_ _; focus (first | omega | (simp only [World.size_alloc, World.size_setCell, World.size_drew] <;> omega) | (simp <;> omega))))) hb2)
      have K2_h : Bx (PairAt w2 h (m) (e)) := Bx.mk (PairAt.below (by have QK1_1 := K1_1.out; have QK1_2 := K1_2.out; have QK1_g := K1_g.out; have QK1_h := K1_h.out; repeat' (first | (with_reducible assumption) | (with_reducible refine PairAt.at _ _ _ _ ?_; focus (first | omega | (simp only [World.size_alloc, World.size_setCell, World.size_drew] <;> omega) | (simp <;> omega))) | (with_reducible refine PairAt.alloc ?_ _) | (with_reducible refine PairAt.draws ?_ _) | (with_reducible refine PairAt.drew1 ?_) | (with_reducible apply PairAt.put) | (with_reducible apply PairAt.put1) | (with_reducible apply PairAt.put0) | (with_reducible refine PairAt.other2 ?_ ?_ _; focus (first | omega | (simp only [World.size_alloc, World.size_setCell, World.size_drew] <;> omega) | (simp <;> omega))))) hb2)
      have B2 : Bx (Below w.heap.size w w2) := Bx.mk (Below.trans (by have KBO := B1.out; repeat' (first | (with_reducible exact Below.refl _ _) | (with_reducible assumption) | (with_reducible refine Below.drew ?_) | (with_reducible refine Below.alloc ?_ ?_ _) | (with_reducible refine below_draws ?_ _) | (with_reducible refine Below.setCell ?_ ?_ _) | go_size)) (hb2.mono (by go_size)))
      clear hb2
      clear K1_1c0 K1_1c1 K1_1f0 K1_1f1 K1_1lt K1_1
      clear K1_2c0 K1_2c1 K1_2f0 K1_2f1 K1_2lt K1_2
      clear K1_gc0 K1_gc1 K1_gf0 K1_gf1 K1_glt K1_g
      clear K1_hc0 K1_hc1 K1_hf0 K1_hf1 K1_hlt K1_h
      clear B1 zB1
      have zB2 := B2.out.size
      have K2_2c0 := K2_2.out.c0
      have K2_2c1 := K2_2.out.c1
      have K2_2f0 := K2_2.out.f0 0
      have K2_2f1 := K2_2.out.f0 1
      have K2_2lt := K2_2.out.lt
      have K2_gc0 := K2_g.out.c0
      have K2_gc1 := K2_g.out.c1
      have K2_gf0 := K2_g.out.f0 0
      have K2_gf1 := K2_g.out.f0 1
      have K2_glt := K2_g.out.lt
      have K2_hc0 := K2_h.out.c0
      have K2_hc1 := K2_h.out.c1
      have K2_hf0 := K2_h.out.f0 0
      have K2_hf1 := K2_h.out.f0 1
      have K2_hlt := K2_h.out.lt
      go_wp2_with (fail)
      refine (hcl _ (by have Q := K2_g.out; repeat' (first | (with_reducible assumption) | (with_reducible refine PairAt.at _ _ _ _ ?_; focus (first | omega | (simp only [World.size_alloc, World.size_setCell, World.size_drew] <;> omega) | (simp <;> omega))) | (with_reducible refine PairAt.alloc ?_ _) | (with_reducible refine PairAt.draws ?_ _) | (with_reducible refine PairAt.drew1 ?_) | (with_reducible apply PairAt.put) | (with_reducible apply PairAt.put1) | (with_reducible apply PairAt.put0) | (with_reducible refine PairAt.other2 ?_ ?_ _; focus (first | omega | (simp only [World.size_alloc, World.size_setCell, World.size_drew] <;> omega) | (simp <;> omega))))) (by have Q := K2_h.out; repeat' (first | (with_reducible assumption) | (with_reducible refine PairAt.at _ _ _ _ ?_; focus (first | omega | (simp only [World.size_alloc, World.size_setCell, World.size_drew] <;> omega) | (simp <;> omega))) | (with_reducible refine PairAt.alloc ?_ _) | (with_reducible refine PairAt.draws ?_ _) | (with_reducible refine PairAt.drew1 ?_) | (with_reducible apply PairAt.put) | (with_reducible apply PairAt.put1) | (with_reducible apply PairAt.put0) | (with_reducible refine PairAt.other2 ?_ ?_ _; focus (first | omega | (simp only [World.size_alloc, World.size_setCell, World.size_drew] <;> omega) | (simp <;> omega)))))).mono ?_
      rintro r3 w3 ⟨rfl, hb3⟩
      have K3_2 : Bx (PairAt w3 (w.heap.size + 1 + 1) (0) (0)) := Bx.mk (PairAt.below (by have QK2_2 := K2_2.out; have QK2_g := K2_g.out; have QK2_h := K2_h.out; repeat' (first | (with_reducible assumption) | (with_reducible refine PairAt.at _ _ _ _ ?_; focus (first | omega | (simp only [World.size_alloc, World.size_setCell, World.size_drew] <;> omega) | (simp <;> omega))) | (with_reducible refine PairAt.alloc ?_ _) | (with_reducible refine PairAt.draws ?_ _) | (with_reducible refine PairAt.drew1 ?_) | (with_reducible apply PairAt.put) | (with_reducible apply PairAt.put1) | (with_reducible apply PairAt.put0) | (with_reducible refine PairAt.other2 ?_ ?_ _; focus (first | omega | (simp only [World.size_alloc, World.size_setCell, World.size_drew] <;> omega) | (simp <;> omega))))) hb3)
      have B3 : Bx (Below w.heap.size w w3) := Bx.mk (Below.trans (by have KBO := B2.out; repeat' (first | (with_reducible exact Below.refl _ _) | (with_reducible assumption) | (with_reducible refine Below.drew ?_) | (with_reducible refine Below.alloc ?_ ?_ _) | (with_reducible refine below_draws ?_ _) | (with_reducible refine Below.setCell ?_ ?_ _) | go_size)) (hb3.mono (by go_size)))
      clear hb3
      clear K2_2c0 K2_2c1 K2_2f0 K2_2f1 K2_2lt K2_2
      clear K2_gc0 K2_gc1 K2_gf0 K2_gf1 K2_glt K2_g
      clear K2_hc0 K2_hc1 K2_hf0 K2_hf1 K2_hlt K2_h
      clear B2 zB2
      have zB3 := B3.out.size
      have K3_2c0 := K3_2.out.c0
      have K3_2c1 := K3_2.out.c1
      have K3_2f0 := K3_2.out.f0 0
      have K3_2f1 := K3_2.out.f0 1
      have K3_2lt := K3_2.out.lt
      go_wp2_with (fail)
      refine (hf _).mono ?_
      rintro r4 w4 ⟨rfl, hb4⟩
      have K4_2 : Bx (PairAt w4 (w.heap.size + 1 + 1) (0) (0)) := Bx.mk (PairAt.below (by have QK3_2 := K3_2.out; repeat' (first | (with_reducible assumption) | (with_reducible refine PairAt.at _ _ _ _ ?_; focus (first | omega | (simp only [World.size_alloc, World.size_setCell, World.size_drew] <;> omega) | (simp <;> omega))) | (with_reducible refine PairAt.alloc ?_ _) | (with_reducible refine PairAt.draws ?_ _) | (with_reducible refine PairAt.drew1 ?_) | (with_reducible apply PairAt.put) | (with_reducible apply PairAt.put1) | (with_reducible apply PairAt.put0) | (with_reducible refine PairAt.other2 ?_ ?_ _; focus (first | omega | (simp only [World.size_alloc, World.size_setCell, World.size_drew] <;> omega) | (simp <;> omega))))) hb4)
      have B4 : Bx (Below w.heap.size w w4) := Bx.mk (Below.trans (by have KBO := B3.out; repeat' (first | (with_reducible exact Below.refl _ _) | (with_reducible assumption) | (with_reducible refine Below.drew ?_) | (with_reducible refine Below.alloc ?_ ?_ _) | (with_reducible refine below_draws ?_ _) | (with_reducible refine Below.setCell ?_ ?_ _) | go_size)) (hb4.mono (by go_size)))
      clear hb4
      clear K3_2c0 K3_2c1 K3_2f0 K3_2f1 K3_2lt K3_2
      clear B3 zB3
      have zB4 := B4.out.size
      have K4_2c0 := K4_2.out.c0
      have K4_2c1 := K4_2.out.c1
      have K4_2f0 := K4_2.out.f0 0
      have K4_2f1 := K4_2.out.f0 1
      have K4_2lt := K4_2.out.lt
      go_wp2_with (fail)
      have P := put_pair K4_2.out (t.1) (t.2.1)
      refine bodyPost_ret (v := .tuple #[.agg #[.int .i64 t.1, .int .i64 t.2.1], .int .i64 t.2.2]) (by simp [results, Tryd.results60, go_sem, P.1, P.2]) rfl ?_
      refine rat_out (t := mulR n d m e) (n := t.1) (d := t.2.1) (c := t.2.2) HE.out ?_
      have KBO := B4.out
      repeat' (first | (with_reducible exact Below.refl _ _) | (with_reducible assumption) | (with_reducible refine Below.drew ?_) | (with_reducible refine Below.alloc ?_ ?_ _) | (with_reducible refine below_draws ?_ _) | (with_reducible refine Below.setCell ?_ ?_ _) | go_size)
set_option maxHeartbeats 1000000 in
theorem impl_mul (n d m e : Int) (w : World) : Calls Tryd.prog 22 #[rat n d, rat m e] w (RatOut (mulR n d m e) w) := by
  have hc := fun g h W hg hh => mul_combine g h n d m e W hg hh
  generalize mulR n d m e = t at hc ⊢
  unfold rat at *
  go_enter Tryd.func22, Tryd.ntmps22
  go_wp2_with (fail)
  have hc2 := fun g h W hg hh => rat_open' (hc g h W hg hh)
  clear hc
  refine (hc2 _ _ _ (by repeat' (first | (with_reducible assumption) | (with_reducible refine PairAt.at _ _ _ _ ?_; focus (first | omega | (simp only [World.size_alloc, World.size_setCell, World.size_drew] <;> omega) | (simp <;> omega))) | (with_reducible refine PairAt.alloc ?_ _) | (with_reducible refine PairAt.draws ?_ _) | (with_reducible refine PairAt.drew1 ?_) | (with_reducible apply PairAt.put) | (with_reducible apply PairAt.put1) | (with_reducible apply PairAt.put0) | (with_reducible refine PairAt.other2 ?_ ?_ _; focus (first | omega | (simp only [World.size_alloc, World.size_setCell, World.size_drew] <;> omega) | (simp <;> omega))))) (by repeat' (first | (with_reducible assumption) | (with_reducible refine PairAt.at _ _ _ _ ?_; focus (first | omega | (simp only [World.size_alloc, World.size_setCell, World.size_drew] <;> omega) | (simp <;> omega))) | (with_reducible refine PairAt.alloc ?_ _) | (with_reducible refine PairAt.draws ?_ _) | (with_reducible refine PairAt.drew1 ?_) | (with_reducible apply PairAt.put) | (with_reducible apply PairAt.put1) | (with_reducible apply PairAt.put0) | (with_reducible refine PairAt.other2 ?_ ?_ _; focus (first | omega | (simp only [World.size_alloc, World.size_setCell, World.size_drew] <;> omega) | (simp <;> omega)))))).mono ?_
  rintro r1 w1 ⟨rfl, hb1⟩
  have K1_2 : Bx (PairAt w1 (w.heap.size + 1 + 1) (0) (0)) := Bx.mk (PairAt.below (by repeat' (first | (with_reducible assumption) | (with_reducible refine PairAt.at _ _ _ _ ?_; focus (first | omega | (simp only [World.size_alloc, World.size_setCell, World.size_drew] <;> omega) | (simp <;> omega))) | (with_reducible refine PairAt.alloc ?_ _) | (with_reducible refine PairAt.draws ?_ _) | (with_reducible refine PairAt.drew1 ?_) | (with_reducible apply PairAt.put) | (with_reducible apply PairAt.put1) | (with_reducible apply PairAt.put0) | (with_reducible refine PairAt.other2 ?_ ?_ _; focus (first | omega | (simp only [World.size_alloc, World.size_setCell, World.size_drew] <;> omega) | (simp <;> omega))))) hb1)
  have B1 : Bx (Below w.heap.size w w1) := Bx.mk (Below.trans (by repeat' (first | (with_reducible exact Below.refl _ _) | (with_reducible assumption) | (with_reducible refine Below.drew ?_) | (with_reducible refine Below.alloc ?_ ?_ _) | (with_reducible refine below_draws ?_ _) | (with_reducible refine Below.setCell ?_ ?_ _) | go_size)) (hb1.mono (by go_size)))
  clear hb1
  have zB1 := B1.out.size
  have K1_2c0 := K1_2.out.c0
  have K1_2c1 := K1_2.out.c1
  have K1_2f0 := K1_2.out.f0 0
  have K1_2f1 := K1_2.out.f0 1
  have K1_2lt := K1_2.out.lt
  go_wp2_with (fail)
  have P := put_pair K1_2.out (t.1) (t.2.1)
  refine bodyPost_ret (v := .tuple #[.agg #[.int .i64 t.1, .int .i64 t.2.1], .int .i64 t.2.2]) (by simp [results, Tryd.results22, go_sem, P.1, P.2]) rfl ?_
  refine rat_out (t := t) (n := t.1) (d := t.2.1) (c := t.2.2) rfl ?_
  have KBO := B1.out
  repeat' (first | (with_reducible exact Below.refl _ _) | (with_reducible assumption) | (with_reducible refine Below.drew ?_) | (with_reducible refine Below.alloc ?_ ?_ _) | (with_reducible refine below_draws ?_ _) | (with_reducible refine Below.setCell ?_ ?_ _) | go_size)
set_option maxHeartbeats 1000000 in
theorem div_closure (g h : Nat) (n d m e : Int) (w : World) (hg : PairAt w g n d) (hh : PairAt w h m e) (n1 : 1 ≤ n) (n2 : n ≤ 1000000) (d1 : 1 ≤ d) (d2 : d ≤ 1000000) (m1 : 1 ≤ m) (m2 : m ≤ 1000000) (e1 : 1 ≤ e) (e2 : e ≤ 1000000) :
    Calls Tryd.prog 62 #[.pointer (some ⟨g, 0, none⟩), .pointer (some ⟨h, 0, none⟩)] w fun r w' => r = .returned (rat (n * e) (d * m)) ∧ Below w.heap.size w w' := by
  have x1 : 1 ≤ n * e ∧ n * e ≤ 1000000000000 := mul_rng ⟨by omega, by omega⟩ ⟨by omega, by omega⟩
  have y1 : 1 ≤ d * m ∧ d * m ≤ 1000000000000 := mul_rng ⟨by omega, by omega⟩ ⟨by omega, by omega⟩
  have E1 : IntKind.i64.wrap (n * e) = n * e := IntWalk.i64_in _ (by omega)
  have E2 : IntKind.i64.wrap (d * m) = d * m := IntWalk.i64_in _ (by omega)
  clear x1 y1 n1 n2 d1 d2 m1 m2 e1 e2
  have a0 := hg.c0
  have a1 := hg.c1
  have al := hg.lt
  have b0 := hh.c0
  have b1 := hh.c1
  have bl := hh.lt
  clear hg hh
  unfold rat
  go_enter Tryd.func62, Tryd.ntmps62
  go_wp2_with (fail)
  refine bodyPost_ret (v := .agg #[.int .i64 (n * e), .int .i64 (d * m)]) (by simp [results, Tryd.results62, go_sem]) rfl ⟨rfl, ?_⟩
  repeat' (first | (with_reducible exact Below.refl _ _) | (with_reducible assumption) | (with_reducible refine Below.drew ?_) | (with_reducible refine Below.alloc ?_ ?_ _) | (with_reducible refine below_draws ?_ _) | (with_reducible refine Below.setCell ?_ ?_ _) | go_size)
set_option maxHeartbeats 1000000 in
theorem div_combine (g h : Nat) (n d m e : Int) (w : World) (hg : PairAt w g n d) (hh : PairAt w h m e) :
    Calls Tryd.prog 60 #[rat n d, rat m e, .func (.func 62) #[] #[.pointer (some ⟨g, 0, none⟩), .pointer (some ⟨h, 0, none⟩)]] w (RatOut (divR n d m e) w) := by
  have hp0 := fun W => impl_valid n d W
  have hp1 := fun W => impl_valid m e W
  have HG := Bx.mk hg
  have HH := Bx.mk hh
  clear hg hh
  cases hn : okR n d
  · have HE : Bx (divR n d m e = (0, 0, 1)) := Bx.mk (by simp [divR, hn])
    simp only [hn] at hp0
    clear hn
    unfold rat at *
    go_enter Tryd.func60, Tryd.ntmps60
    go_wp2_with (fail)
    refine (hp0 _).mono ?_
    rintro r1 w1 ⟨rfl, hb1⟩
    have K1_2 : Bx (PairAt w1 (w.heap.size + 1 + 1) (0) (0)) := Bx.mk (PairAt.below (by repeat' (first | (with_reducible assumption) | (with_reducible refine PairAt.at _ _ _ _ ?_; focus (first | omega | (simp only [World.size_alloc, World.size_setCell, World.size_drew] <;> omega) | (simp <;> omega))) | (with_reducible refine PairAt.alloc ?_ _) | (with_reducible refine PairAt.draws ?_ _) | (with_reducible refine PairAt.drew1 ?_) | (with_reducible apply PairAt.put) | (with_reducible apply PairAt.put1) | (with_reducible apply PairAt.put0) | (with_reducible refine PairAt.other2 ?_ ?_ _; focus (first | omega | (simp only [World.size_alloc, World.size_setCell, World.size_drew] <;> omega) | (simp <;> omega))))) hb1)
    have B1 : Bx (Below w.heap.size w w1) := Bx.mk (Below.trans (by repeat' (first | (with_reducible exact Below.refl _ _) | (with_reducible assumption) | (with_reducible refine Below.drew ?_) | (with_reducible refine Below.alloc ?_ ?_ _) | (with_reducible refine below_draws ?_ _) | (with_reducible refine Below.setCell ?_ ?_ _) | go_size)) (hb1.mono (by go_size)))
    clear hb1
    have zB1 := B1.out.size
    have K1_2c0 := K1_2.out.c0
    have K1_2c1 := K1_2.out.c1
    have K1_2f0 := K1_2.out.f0 0
    have K1_2f1 := K1_2.out.f0 1
    have K1_2lt := K1_2.out.lt
    go_wp2_with (fail)
    have P := put_pair K1_2.out (0) (0)
    refine bodyPost_ret (v := .tuple #[.agg #[.int .i64 0, .int .i64 0], .int .i64 1]) (by simp [results, Tryd.results60, go_sem, P.1, P.2]) rfl ?_
    refine rat_out HE.out ?_
    have KBO := B1.out
    repeat' (first | (with_reducible exact Below.refl _ _) | (with_reducible assumption) | (with_reducible refine Below.drew ?_) | (with_reducible refine Below.alloc ?_ ?_ _) | (with_reducible refine below_draws ?_ _) | (with_reducible refine Below.setCell ?_ ?_ _) | go_size)
  · simp only [hn] at hp0
    cases hm : okR m e
    · have HE : Bx (divR n d m e = (0, 0, 1)) := Bx.mk (by simp [divR, hm])
      simp only [hm] at hp1
      clear hn hm
      unfold rat at *
      go_enter Tryd.func60, Tryd.ntmps60
      go_wp2_with (fail)
      refine (hp0 _).mono ?_
      rintro r1 w1 ⟨rfl, hb1⟩
      have K1_1 : Bx (PairAt w1 (w.heap.size + 1) (m) (e)) := Bx.mk (PairAt.below (by repeat' (first | (with_reducible assumption) | (with_reducible refine PairAt.at _ _ _ _ ?_; focus (first | omega | (simp only [World.size_alloc, World.size_setCell, World.size_drew] <;> omega) | (simp <;> omega))) | (with_reducible refine PairAt.alloc ?_ _) | (with_reducible refine PairAt.draws ?_ _) | (with_reducible refine PairAt.drew1 ?_) | (with_reducible apply PairAt.put) | (with_reducible apply PairAt.put1) | (with_reducible apply PairAt.put0) | (with_reducible refine PairAt.other2 ?_ ?_ _; focus (first | omega | (simp only [World.size_alloc, World.size_setCell, World.size_drew] <;> omega) | (simp <;> omega))))) hb1)
      have K1_2 : Bx (PairAt w1 (w.heap.size + 1 + 1) (0) (0)) := Bx.mk (PairAt.below (by repeat' (first | (with_reducible assumption) | (with_reducible refine PairAt.at _ _ _ _ ?_; focus (first | omega | (simp only [World.size_alloc, World.size_setCell, World.size_drew] <;> omega) | (simp <;> omega))) | (with_reducible refine PairAt.alloc ?_ _) | (with_reducible refine PairAt.draws ?_ _) | (with_reducible refine PairAt.drew1 ?_) | (with_reducible apply PairAt.put) | (with_reducible apply PairAt.put1) | (with_reducible apply PairAt.put0) | (with_reducible refine PairAt.other2 ?_ ?_ _; focus (first | omega | (simp only [World.size_alloc, World.size_setCell, World.size_drew] <;> omega) | (simp <;> omega))))) hb1)
      have B1 : Bx (Below w.heap.size w w1) := Bx.mk (Below.trans (by repeat' (first | (with_reducible exact Below.refl _ _) | (with_reducible assumption) | (with_reducible refine Below.drew ?_) | (with_reducible refine Below.alloc ?_ ?_ _) | (with_reducible refine below_draws ?_ _) | (with_reducible refine Below.setCell ?_ ?_ _) | go_size)) (hb1.mono (by go_size)))
      clear hb1
      have zB1 := B1.out.size
      have K1_1c0 := K1_1.out.c0
      have K1_1c1 := K1_1.out.c1
      have K1_1f0 := K1_1.out.f0 0
      have K1_1f1 := K1_1.out.f0 1
      have K1_1lt := K1_1.out.lt
      have K1_2c0 := K1_2.out.c0
      have K1_2c1 := K1_2.out.c1
      have K1_2f0 := K1_2.out.f0 0
      have K1_2f1 := K1_2.out.f0 1
      have K1_2lt := K1_2.out.lt
      go_wp2_with (fail)
      refine (hp1 _).mono ?_
      rintro r2 w2 ⟨rfl, hb2⟩
      have K2_2 : Bx (PairAt w2 (w.heap.size + 1 + 1) (0) (0)) := Bx.mk (PairAt.below (by have QK1_1 := K1_1.out; have QK1_2 := K1_2.out; repeat' (first | (with_reducible assumption) | (with_reducible refine PairAt.at _ _ _ _ ?_; focus (first | omega | (simp only [World.size_alloc, World.size_setCell, World.size_drew] <;> omega) | (simp <;> omega))) | (with_reducible refine PairAt.alloc ?_ _) | (with_reducible refine PairAt.draws ?_ _) | (with_reducible refine PairAt.drew1 ?_) | (with_reducible apply PairAt.put) | (with_reducible apply PairAt.put1) | (with_reducible apply PairAt.put0) | (with_reducible refine PairAt.other2 ?_ ?_ _; focus (first | omega | (simp only [World.size_alloc, World.size_setCell, World.size_drew] <;> omega) | (simp <;> omega))))) hb2)
      have B2 : Bx (Below w.heap.size w w2) := Bx.mk (Below.trans (by have KBO := B1.out; repeat' (first | (with_reducible exact Below.refl _ _) | (with_reducible assumption) | (with_reducible refine Below.drew ?_) | (with_reducible refine Below.alloc ?_ ?_ _) | (with_reducible refine below_draws ?_ _) | (with_reducible refine Below.setCell ?_ ?_ _) | go_size)) (hb2.mono (by go_size)))
      clear hb2
      clear K1_1c0 K1_1c1 K1_1f0 K1_1f1 K1_1lt K1_1
      clear K1_2c0 K1_2c1 K1_2f0 K1_2f1 K1_2lt K1_2
      clear B1 zB1
      have zB2 := B2.out.size
      have K2_2c0 := K2_2.out.c0
      have K2_2c1 := K2_2.out.c1
      have K2_2f0 := K2_2.out.f0 0
      have K2_2f1 := K2_2.out.f0 1
      have K2_2lt := K2_2.out.lt
      go_wp2_with (fail)
      have P := put_pair K2_2.out (0) (0)
      refine bodyPost_ret (v := .tuple #[.agg #[.int .i64 0, .int .i64 0], .int .i64 1]) (by simp [results, Tryd.results60, go_sem, P.1, P.2]) rfl ?_
      refine rat_out HE.out ?_
      have KBO := B2.out
      repeat' (first | (with_reducible exact Below.refl _ _) | (with_reducible assumption) | (with_reducible refine Below.drew ?_) | (with_reducible refine Below.alloc ?_ ?_ _) | (with_reducible refine below_draws ?_ _) | (with_reducible refine Below.setCell ?_ ?_ _) | go_size)
    · have HE : Bx (divR n d m e = doneR (n * e) (d * m)) := Bx.mk (by simp [divR, hn, hm])
      simp only [hm] at hp1
      obtain ⟨⟨n1, n2⟩, ⟨d1, d2⟩, _⟩ := okR_yes hn
      obtain ⟨⟨m1, m2⟩, ⟨e1, e2⟩, _⟩ := okR_yes hm
      have hcl := fun W hg hh => div_closure g h n d m e W hg hh n1 n2 d1 d2 m1 m2 e1 e2
      have x1 : 1 ≤ n * e ∧ n * e ≤ 1000000000000 := mul_rng ⟨by omega, by omega⟩ ⟨by omega, by omega⟩
      have y1 : 1 ≤ d * m ∧ d * m ≤ 1000000000000 := mul_rng ⟨by omega, by omega⟩ ⟨by omega, by omega⟩
      have hf := fun W => impl_fitted (n * e) (d * m) W (by omega) (by omega)
      generalize doneR (n * e) (d * m) = t at HE hf
      generalize n * e = x at hf hcl
      generalize d * m = y at hf hcl
      clear hn hm n1 n2 d1 d2 m1 m2 e1 e2 x1 y1
      replace hf := rat_open hf
      unfold rat at *
      have al := HG.out.lt
      have bl := HH.out.lt
      go_enter Tryd.func60, Tryd.ntmps60
      go_wp2_with (fail)
      refine (hp0 _).mono ?_
      rintro r1 w1 ⟨rfl, hb1⟩
      have K1_1 : Bx (PairAt w1 (w.heap.size + 1) (m) (e)) := Bx.mk (PairAt.below (by have QG := HG.out; have QH := HH.out; repeat' (first | (with_reducible assumption) | (with_reducible refine PairAt.at _ _ _ _ ?_; focus (first | omega | (simp only [World.size_alloc, World.size_setCell, World.size_drew] <;> omega) | (simp <;> omega))) | (with_reducible refine PairAt.alloc ?_ _) | (with_reducible refine PairAt.draws ?_ _) | (with_reducible refine PairAt.drew1 ?_) | (with_reducible apply PairAt.put) | (with_reducible apply PairAt.put1) | (with_reducible apply PairAt.put0) | (with_reducible refine PairAt.other2 ?_ ?_ _; focus (first | omega | (simp only [World.size_alloc, World.size_setCell, World.size_drew] <;> omega) | (simp <;> omega))))) hb1)
      have K1_2 : Bx (PairAt w1 (w.heap.size + 1 + 1) (0) (0)) := Bx.mk (PairAt.below (by have QG := HG.out; have QH := HH.out; repeat' (first | (with_reducible assumption) | (with_reducible refine PairAt.at _ _ _ _ ?_; focus (first | omega | (simp only [World.size_alloc, World.size_setCell, World.size_drew] <;> omega) | (simp <;> omega))) | (with_reducible refine PairAt.alloc ?_ _) | (with_reducible refine PairAt.draws ?_ _) | (with_reducible refine PairAt.drew1 ?_) | (with_reducible apply PairAt.put) | (with_reducible apply PairAt.put1) | (with_reducible apply PairAt.put0) | (with_reducible refine PairAt.other2 ?_ ?_ _; focus (first | omega | (simp only [World.size_alloc, World.size_setCell, World.size_drew] <;> omega) | (simp <;> omega))))) hb1)
      have K1_g : Bx (PairAt w1 g (n) (d)) := Bx.mk (PairAt.below (by have QG := HG.out; have QH := HH.out; repeat' (first | (with_reducible assumption) | (with_reducible refine PairAt.at _ _ _ _ ?_; focus (first | omega | (simp only [World.size_alloc, World.size_setCell, World.size_drew] <;> omega) | (simp <;> omega))) | (with_reducible refine PairAt.alloc ?_ _) | (with_reducible refine PairAt.draws ?_ _) | (with_reducible refine PairAt.drew1 ?_) | (with_reducible apply PairAt.put) | (with_reducible apply PairAt.put1) | (with_reducible apply PairAt.put0) | (with_reducible refine PairAt.other2 ?_ ?_ _; focus (first | omega | (simp only [World.size_alloc, World.size_setCell, World.size_drew] <;> omega) | (simp <;> omega))))) hb1)
      have K1_h : Bx (PairAt w1 h (m) (e)) := Bx.mk (PairAt.below (by have QG := HG.out; have QH := HH.out; repeat' (first | (with_reducible assumption) | (with_reducible refine PairAt.at _ _ _ _ ?_; focus (first | omega | (simp only [World.size_alloc, World.size_setCell, World.size_drew] <;> omega) | (simp <;> omega))) | (with_reducible refine PairAt.alloc ?_ _) | (with_reducible refine PairAt.draws ?_ _) | (with_reducible refine PairAt.drew1 ?_) | (with_reducible apply PairAt.put) | (with_reducible apply PairAt.put1) | (with_reducible apply PairAt.put0) | (with_reducible refine PairAt.other2 ?_ ?_ _; focus (first | omega | (simp only [World.size_alloc, World.size_setCell, World.size_drew] <;> omega) | (simp <;> omega))))) hb1)
      have B1 : Bx (Below w.heap.size w w1) := Bx.mk (Below.trans (by repeat' (first | (with_reducible exact Below.refl _ _) | (with_reducible assumption) | (with_reducible refine Below.drew ?_) | (with_reducible refine Below.alloc ?_ ?_ _) | (with_reducible refine below_draws ?_ _) | (with_reducible refine Below.setCell ?_ ?_ _) | go_size)) (hb1.mono (by go_size)))
      clear hb1
      have zB1 := B1.out.size
      have K1_1c0 := K1_1.out.c0
      have K1_1c1 := K1_1.out.c1
      have K1_1f0 := K1_1.out.f0 0
      have K1_1f1 := K1_1.out.f0 1
      have K1_1lt := K1_1.out.lt
      have K1_2c0 := K1_2.out.c0
      have K1_2c1 := K1_2.out.c1
      have K1_2f0 := K1_2.out.f0 0
      have K1_2f1 := K1_2.out.f0 1
      have K1_2lt := K1_2.out.lt
      have K1_gc0 := K1_g.out.c0
      have K1_gc1 := K1_g.out.c1
      have K1_gf0 := K1_g.out.f0 0
      have K1_gf1 := K1_g.out.f0 1
      have K1_glt := K1_g.out.lt
      have K1_hc0 := K1_h.out.c0
      have K1_hc1 := K1_h.out.c1
      have K1_hf0 := K1_h.out.f0 0
      have K1_hf1 := K1_h.out.f0 1
      have K1_hlt := K1_h.out.lt
      go_wp2_with (fail)
      refine (hp1 _).mono ?_
      rintro r2 w2 ⟨rfl, hb2⟩
      have K2_2 : Bx (PairAt w2 (w.heap.size + 1 + 1) (0) (0)) := Bx.mk (PairAt.below (by have QK1_1 := K1_1.out; have QK1_2 := K1_2.out; have QK1_g := K1_g.out; have QK1_h := K1_h.out; repeat' (first | (with_reducible assumption) | (with_reducible refine PairAt.at _ _ _ _ ?_; focus (first | omega | (simp only [World.size_alloc, World.size_setCell, World.size_drew] <;> omega) | (simp <;> omega))) | (with_reducible refine PairAt.alloc ?_ _) | (with_reducible refine PairAt.draws ?_ _) | (with_reducible refine PairAt.drew1 ?_) | (with_reducible apply PairAt.put) | (with_reducible apply PairAt.put1) | (with_reducible apply PairAt.put0) | (with_reducible refine PairAt.other2 ?_ ?_ _; focus (first | omega | (simp only [World.size_alloc, World.size_setCell, World.size_drew] <;> omega) | (simp <;> omega))))) hb2)
      have K2_g : Bx (PairAt w2 g (n) (d)) := Bx.mk (PairAt.below (by have QK1_1 := K1_1.out; have QK1_2 := K1_2.out; have QK1_g := K1_g.out; have QK1_h := K1_h.out; repeat' (first | (with_reducible assumption) | (with_reducible refine PairAt.at _ _ _ _ ?_; focus (first | omega | (simp only [World.size_alloc, World.size_setCell, World.size_drew] <;> omega) | (simp <;> omega))) | (with_reducible refine PairAt.alloc ?_ _) | (with_reducible refine PairAt.draws ?_ _) | (with_reducible refine PairAt.drew1 ?_) | (with_reducible apply PairAt.put) | (with_reducible apply PairAt.put1) | (with_reducible apply PairAt.put0) | (with_reducible refine PairAt.other2 ?_ ?_ _; focus (first | omega | (simp only [World.size_alloc, World.size_setCell, World.size_drew] <;> omega) | (simp <;> omega))))) hb2)
      have K2_h : Bx (PairAt w2 h (m) (e)) := Bx.mk (PairAt.below (by have QK1_1 := K1_1.out; have QK1_2 := K1_2.out; have QK1_g := K1_g.out; have QK1_h := K1_h.out; repeat' (first | (with_reducible assumption) | (with_reducible refine PairAt.at _ _ _ _ ?_; focus (first | omega | (simp only [World.size_alloc, World.size_setCell, World.size_drew] <;> omega) | (simp <;> omega))) | (with_reducible refine PairAt.alloc ?_ _) | (with_reducible refine PairAt.draws ?_ _) | (with_reducible refine PairAt.drew1 ?_) | (with_reducible apply PairAt.put) | (with_reducible apply PairAt.put1) | (with_reducible apply PairAt.put0) | (with_reducible refine PairAt.other2 ?_ ?_ _; focus (first | omega | (simp only [World.size_alloc, World.size_setCell, World.size_drew] <;> omega) | (simp <;> omega))))) hb2)
      have B2 : Bx (Below w.heap.size w w2) := Bx.mk (Below.trans (by have KBO := B1.out; repeat' (first | (with_reducible exact Below.refl _ _) | (with_reducible assumption) | (with_reducible refine Below.drew ?_) | (with_reducible refine Below.alloc ?_ ?_ _) | (with_reducible refine below_draws ?_ _) | (with_reducible refine Below.setCell ?_ ?_ _) | go_size)) (hb2.mono (by go_size)))
      clear hb2
      clear K1_1c0 K1_1c1 K1_1f0 K1_1f1 K1_1lt K1_1
      clear K1_2c0 K1_2c1 K1_2f0 K1_2f1 K1_2lt K1_2
      clear K1_gc0 K1_gc1 K1_gf0 K1_gf1 K1_glt K1_g
      clear K1_hc0 K1_hc1 K1_hf0 K1_hf1 K1_hlt K1_h
      clear B1 zB1
      have zB2 := B2.out.size
      have K2_2c0 := K2_2.out.c0
      have K2_2c1 := K2_2.out.c1
      have K2_2f0 := K2_2.out.f0 0
      have K2_2f1 := K2_2.out.f0 1
      have K2_2lt := K2_2.out.lt
      have K2_gc0 := K2_g.out.c0
      have K2_gc1 := K2_g.out.c1
      have K2_gf0 := K2_g.out.f0 0
      have K2_gf1 := K2_g.out.f0 1
      have K2_glt := K2_g.out.lt
      have K2_hc0 := K2_h.out.c0
      have K2_hc1 := K2_h.out.c1
      have K2_hf0 := K2_h.out.f0 0
      have K2_hf1 := K2_h.out.f0 1
      have K2_hlt := K2_h.out.lt
      go_wp2_with (fail)
      refine (hcl _ (by have Q := K2_g.out; repeat' (first | (with_reducible assumption) | (with_reducible refine PairAt.at _ _ _ _ ?_; focus (first | omega | (simp only [World.size_alloc, World.size_setCell, World.size_drew] <;> omega) | (simp <;> omega))) | (with_reducible refine PairAt.alloc ?_ _) | (with_reducible refine PairAt.draws ?_ _) | (with_reducible refine PairAt.drew1 ?_) | (with_reducible apply PairAt.put) | (with_reducible apply PairAt.put1) | (with_reducible apply PairAt.put0) | (with_reducible refine PairAt.other2 ?_ ?_ _; focus (first | omega | (simp only [World.size_alloc, World.size_setCell, World.size_drew] <;> omega) | (simp <;> omega))))) (by have Q := K2_h.out; repeat' (first | (with_reducible assumption) | (with_reducible refine PairAt.at _ _ _ _ ?_; focus (first | omega | (simp only [World.size_alloc, World.size_setCell, World.size_drew] <;> omega) | (simp <;> omega))) | (with_reducible refine PairAt.alloc ?_ _) | (with_reducible refine PairAt.draws ?_ _) | (with_reducible refine PairAt.drew1 ?_) | (with_reducible apply PairAt.put) | (with_reducible apply PairAt.put1) | (with_reducible apply PairAt.put0) | (with_reducible refine PairAt.other2 ?_ ?_ _; focus (first | omega | (simp only [World.size_alloc, World.size_setCell, World.size_drew] <;> omega) | (simp <;> omega)))))).mono ?_
      rintro r3 w3 ⟨rfl, hb3⟩
      have K3_2 : Bx (PairAt w3 (w.heap.size + 1 + 1) (0) (0)) := Bx.mk (PairAt.below (by have QK2_2 := K2_2.out; have QK2_g := K2_g.out; have QK2_h := K2_h.out; repeat' (first | (with_reducible assumption) | (with_reducible refine PairAt.at _ _ _ _ ?_; focus (first | omega | (simp only [World.size_alloc, World.size_setCell, World.size_drew] <;> omega) | (simp <;> omega))) | (with_reducible refine PairAt.alloc ?_ _) | (with_reducible refine PairAt.draws ?_ _) | (with_reducible refine PairAt.drew1 ?_) | (with_reducible apply PairAt.put) | (with_reducible apply PairAt.put1) | (with_reducible apply PairAt.put0) | (with_reducible refine PairAt.other2 ?_ ?_ _; focus (first | omega | (simp only [World.size_alloc, World.size_setCell, World.size_drew] <;> omega) | (simp <;> omega))))) hb3)
      have B3 : Bx (Below w.heap.size w w3) := Bx.mk (Below.trans (by have KBO := B2.out; repeat' (first | (with_reducible exact Below.refl _ _) | (with_reducible assumption) | (with_reducible refine Below.drew ?_) | (with_reducible refine Below.alloc ?_ ?_ _) | (with_reducible refine below_draws ?_ _) | (with_reducible refine Below.setCell ?_ ?_ _) | go_size)) (hb3.mono (by go_size)))
      clear hb3
      clear K2_2c0 K2_2c1 K2_2f0 K2_2f1 K2_2lt K2_2
      clear K2_gc0 K2_gc1 K2_gf0 K2_gf1 K2_glt K2_g
      clear K2_hc0 K2_hc1 K2_hf0 K2_hf1 K2_hlt K2_h
      clear B2 zB2
      have zB3 := B3.out.size
      have K3_2c0 := K3_2.out.c0
      have K3_2c1 := K3_2.out.c1
      have K3_2f0 := K3_2.out.f0 0
      have K3_2f1 := K3_2.out.f0 1
      have K3_2lt := K3_2.out.lt
      go_wp2_with (fail)
      refine (hf _).mono ?_
      rintro r4 w4 ⟨rfl, hb4⟩
      have K4_2 : Bx (PairAt w4 (w.heap.size + 1 + 1) (0) (0)) := Bx.mk (PairAt.below (by have QK3_2 := K3_2.out; repeat' (first | (with_reducible assumption) | (with_reducible refine PairAt.at _ _ _ _ ?_; focus (first | omega | (simp only [World.size_alloc, World.size_setCell, World.size_drew] <;> omega) | (simp <;> omega))) | (with_reducible refine PairAt.alloc ?_ _) | (with_reducible refine PairAt.draws ?_ _) | (with_reducible refine PairAt.drew1 ?_) | (with_reducible apply PairAt.put) | (with_reducible apply PairAt.put1) | (with_reducible apply PairAt.put0) | (with_reducible refine PairAt.other2 ?_ ?_ _; focus (first | omega | (simp only [World.size_alloc, World.size_setCell, World.size_drew] <;> omega) | (simp <;> omega))))) hb4)
      have B4 : Bx (Below w.heap.size w w4) := Bx.mk (Below.trans (by have KBO := B3.out; repeat' (first | (with_reducible exact Below.refl _ _) | (with_reducible assumption) | (with_reducible refine Below.drew ?_) | (with_reducible refine Below.alloc ?_ ?_ _) | (with_reducible refine below_draws ?_ _) | (with_reducible refine Below.setCell ?_ ?_ _) | go_size)) (hb4.mono (by go_size)))
      clear hb4
      clear K3_2c0 K3_2c1 K3_2f0 K3_2f1 K3_2lt K3_2
      clear B3 zB3
      have zB4 := B4.out.size
      have K4_2c0 := K4_2.out.c0
      have K4_2c1 := K4_2.out.c1
      have K4_2f0 := K4_2.out.f0 0
      have K4_2f1 := K4_2.out.f0 1
      have K4_2lt := K4_2.out.lt
      go_wp2_with (fail)
      have P := put_pair K4_2.out (t.1) (t.2.1)
      refine bodyPost_ret (v := .tuple #[.agg #[.int .i64 t.1, .int .i64 t.2.1], .int .i64 t.2.2]) (by simp [results, Tryd.results60, go_sem, P.1, P.2]) rfl ?_
      refine rat_out (t := divR n d m e) (n := t.1) (d := t.2.1) (c := t.2.2) HE.out ?_
      have KBO := B4.out
      repeat' (first | (with_reducible exact Below.refl _ _) | (with_reducible assumption) | (with_reducible refine Below.drew ?_) | (with_reducible refine Below.alloc ?_ ?_ _) | (with_reducible refine below_draws ?_ _) | (with_reducible refine Below.setCell ?_ ?_ _) | go_size)
set_option maxHeartbeats 1000000 in
theorem impl_div (n d m e : Int) (w : World) : Calls Tryd.prog 23 #[rat n d, rat m e] w (RatOut (divR n d m e) w) := by
  have hc := fun g h W hg hh => div_combine g h n d m e W hg hh
  generalize divR n d m e = t at hc ⊢
  unfold rat at *
  go_enter Tryd.func23, Tryd.ntmps23
  go_wp2_with (fail)
  have hc2 := fun g h W hg hh => rat_open' (hc g h W hg hh)
  clear hc
  refine (hc2 _ _ _ (by repeat' (first | (with_reducible assumption) | (with_reducible refine PairAt.at _ _ _ _ ?_; focus (first | omega | (simp only [World.size_alloc, World.size_setCell, World.size_drew] <;> omega) | (simp <;> omega))) | (with_reducible refine PairAt.alloc ?_ _) | (with_reducible refine PairAt.draws ?_ _) | (with_reducible refine PairAt.drew1 ?_) | (with_reducible apply PairAt.put) | (with_reducible apply PairAt.put1) | (with_reducible apply PairAt.put0) | (with_reducible refine PairAt.other2 ?_ ?_ _; focus (first | omega | (simp only [World.size_alloc, World.size_setCell, World.size_drew] <;> omega) | (simp <;> omega))))) (by repeat' (first | (with_reducible assumption) | (with_reducible refine PairAt.at _ _ _ _ ?_; focus (first | omega | (simp only [World.size_alloc, World.size_setCell, World.size_drew] <;> omega) | (simp <;> omega))) | (with_reducible refine PairAt.alloc ?_ _) | (with_reducible refine PairAt.draws ?_ _) | (with_reducible refine PairAt.drew1 ?_) | (with_reducible apply PairAt.put) | (with_reducible apply PairAt.put1) | (with_reducible apply PairAt.put0) | (with_reducible refine PairAt.other2 ?_ ?_ _; focus (first | omega | (simp only [World.size_alloc, World.size_setCell, World.size_drew] <;> omega) | (simp <;> omega)))))).mono ?_
  rintro r1 w1 ⟨rfl, hb1⟩
  have K1_2 : Bx (PairAt w1 (w.heap.size + 1 + 1) (0) (0)) := Bx.mk (PairAt.below (by repeat' (first | (with_reducible assumption) | (with_reducible refine PairAt.at _ _ _ _ ?_; focus (first | omega | (simp only [World.size_alloc, World.size_setCell, World.size_drew] <;> omega) | (simp <;> omega))) | (with_reducible refine PairAt.alloc ?_ _) | (with_reducible refine PairAt.draws ?_ _) | (with_reducible refine PairAt.drew1 ?_) | (with_reducible apply PairAt.put) | (with_reducible apply PairAt.put1) | (with_reducible apply PairAt.put0) | (with_reducible refine PairAt.other2 ?_ ?_ _; focus (first | omega | (simp only [World.size_alloc, World.size_setCell, World.size_drew] <;> omega) | (simp <;> omega))))) hb1)
  have B1 : Bx (Below w.heap.size w w1) := Bx.mk (Below.trans (by repeat' (first | (with_reducible exact Below.refl _ _) | (with_reducible assumption) | (with_reducible refine Below.drew ?_) | (with_reducible refine Below.alloc ?_ ?_ _) | (with_reducible refine below_draws ?_ _) | (with_reducible refine Below.setCell ?_ ?_ _) | go_size)) (hb1.mono (by go_size)))
  clear hb1
  have zB1 := B1.out.size
  have K1_2c0 := K1_2.out.c0
  have K1_2c1 := K1_2.out.c1
  have K1_2f0 := K1_2.out.f0 0
  have K1_2f1 := K1_2.out.f0 1
  have K1_2lt := K1_2.out.lt
  go_wp2_with (fail)
  have P := put_pair K1_2.out (t.1) (t.2.1)
  refine bodyPost_ret (v := .tuple #[.agg #[.int .i64 t.1, .int .i64 t.2.1], .int .i64 t.2.2]) (by simp [results, Tryd.results23, go_sem, P.1, P.2]) rfl ?_
  refine rat_out (t := t) (n := t.1) (d := t.2.1) (c := t.2.2) rfl ?_
  have KBO := B1.out
  repeat' (first | (with_reducible exact Below.refl _ _) | (with_reducible assumption) | (with_reducible refine Below.drew ?_) | (with_reducible refine Below.alloc ?_ ?_ _) | (with_reducible refine below_draws ?_ _) | (with_reducible refine Below.setCell ?_ ?_ _) | go_size)
set_option maxHeartbeats 1000000 in
theorem bet_closure (g h : Nat) (n d m e : Int) (w : World) (hg : PairAt w g n d) (hh : PairAt w h m e) (n1 : 1 ≤ n) (n2 : n ≤ 1000000) (d1 : 1 ≤ d) (d2 : d ≤ 1000000) (m1 : 1 ≤ m) (m2 : m ≤ 1000000) (e1 : 1 ≤ e) (e2 : e ≤ 1000000) :
    Calls Tryd.prog 64 #[.pointer (some ⟨g, 0, none⟩), .pointer (some ⟨h, 0, none⟩)] w fun r w' => r = .returned (rat (n + m) (d + e)) ∧ Below w.heap.size w w' := by
  have x1 : 1 ≤ n + m ∧ n + m ≤ 1000000000000 := by omega
  have y1 : 1 ≤ d + e ∧ d + e ≤ 1000000000000 := by omega
  have E1 : IntKind.i64.wrap (n + m) = n + m := IntWalk.i64_in _ (by omega)
  have E2 : IntKind.i64.wrap (d + e) = d + e := IntWalk.i64_in _ (by omega)
  clear x1 y1 n1 n2 d1 d2 m1 m2 e1 e2
  have a0 := hg.c0
  have a1 := hg.c1
  have al := hg.lt
  have b0 := hh.c0
  have b1 := hh.c1
  have bl := hh.lt
  clear hg hh
  unfold rat
  go_enter Tryd.func64, Tryd.ntmps64
  go_wp2_with (fail)
  refine bodyPost_ret (v := .agg #[.int .i64 (n + m), .int .i64 (d + e)]) (by simp [results, Tryd.results64, go_sem]) rfl ⟨rfl, ?_⟩
  repeat' (first | (with_reducible exact Below.refl _ _) | (with_reducible assumption) | (with_reducible refine Below.drew ?_) | (with_reducible refine Below.alloc ?_ ?_ _) | (with_reducible refine below_draws ?_ _) | (with_reducible refine Below.setCell ?_ ?_ _) | go_size)
set_option maxHeartbeats 1000000 in
theorem bet_combine (g h : Nat) (n d m e : Int) (w : World) (hg : PairAt w g n d) (hh : PairAt w h m e) :
    Calls Tryd.prog 60 #[rat n d, rat m e, .func (.func 64) #[] #[.pointer (some ⟨g, 0, none⟩), .pointer (some ⟨h, 0, none⟩)]] w (RatOut (betR n d m e) w) := by
  have hp0 := fun W => impl_valid n d W
  have hp1 := fun W => impl_valid m e W
  have HG := Bx.mk hg
  have HH := Bx.mk hh
  clear hg hh
  cases hn : okR n d
  · have HE : Bx (betR n d m e = (0, 0, 1)) := Bx.mk (by simp [betR, hn])
    simp only [hn] at hp0
    clear hn
    unfold rat at *
    go_enter Tryd.func60, Tryd.ntmps60
    go_wp2_with (fail)
    refine (hp0 _).mono ?_
    rintro r1 w1 ⟨rfl, hb1⟩
    have K1_2 : Bx (PairAt w1 (w.heap.size + 1 + 1) (0) (0)) := Bx.mk (PairAt.below (by repeat' (first | (with_reducible assumption) | (with_reducible refine PairAt.at _ _ _ _ ?_; focus (first | omega | (simp only [World.size_alloc, World.size_setCell, World.size_drew] <;> omega) | (simp <;> omega))) | (with_reducible refine PairAt.alloc ?_ _) | (with_reducible refine PairAt.draws ?_ _) | (with_reducible refine PairAt.drew1 ?_) | (with_reducible apply PairAt.put) | (with_reducible apply PairAt.put1) | (with_reducible apply PairAt.put0) | (with_reducible refine PairAt.other2 ?_ ?_ _; focus (first | omega | (simp only [World.size_alloc, World.size_setCell, World.size_drew] <;> omega) | (simp <;> omega))))) hb1)
    have B1 : Bx (Below w.heap.size w w1) := Bx.mk (Below.trans (by repeat' (first | (with_reducible exact Below.refl _ _) | (with_reducible assumption) | (with_reducible refine Below.drew ?_) | (with_reducible refine Below.alloc ?_ ?_ _) | (with_reducible refine below_draws ?_ _) | (with_reducible refine Below.setCell ?_ ?_ _) | go_size)) (hb1.mono (by go_size)))
    clear hb1
    have zB1 := B1.out.size
    have K1_2c0 := K1_2.out.c0
    have K1_2c1 := K1_2.out.c1
    have K1_2f0 := K1_2.out.f0 0
    have K1_2f1 := K1_2.out.f0 1
    have K1_2lt := K1_2.out.lt
    go_wp2_with (fail)
    have P := put_pair K1_2.out (0) (0)
    refine bodyPost_ret (v := .tuple #[.agg #[.int .i64 0, .int .i64 0], .int .i64 1]) (by simp [results, Tryd.results60, go_sem, P.1, P.2]) rfl ?_
    refine rat_out HE.out ?_
    have KBO := B1.out
    repeat' (first | (with_reducible exact Below.refl _ _) | (with_reducible assumption) | (with_reducible refine Below.drew ?_) | (with_reducible refine Below.alloc ?_ ?_ _) | (with_reducible refine below_draws ?_ _) | (with_reducible refine Below.setCell ?_ ?_ _) | go_size)
  · simp only [hn] at hp0
    cases hm : okR m e
    · have HE : Bx (betR n d m e = (0, 0, 1)) := Bx.mk (by simp [betR, hm])
      simp only [hm] at hp1
      clear hn hm
      unfold rat at *
      go_enter Tryd.func60, Tryd.ntmps60
      go_wp2_with (fail)
      refine (hp0 _).mono ?_
      rintro r1 w1 ⟨rfl, hb1⟩
      have K1_1 : Bx (PairAt w1 (w.heap.size + 1) (m) (e)) := Bx.mk (PairAt.below (by repeat' (first | (with_reducible assumption) | (with_reducible refine PairAt.at _ _ _ _ ?_; focus (first | omega | (simp only [World.size_alloc, World.size_setCell, World.size_drew] <;> omega) | (simp <;> omega))) | (with_reducible refine PairAt.alloc ?_ _) | (with_reducible refine PairAt.draws ?_ _) | (with_reducible refine PairAt.drew1 ?_) | (with_reducible apply PairAt.put) | (with_reducible apply PairAt.put1) | (with_reducible apply PairAt.put0) | (with_reducible refine PairAt.other2 ?_ ?_ _; focus (first | omega | (simp only [World.size_alloc, World.size_setCell, World.size_drew] <;> omega) | (simp <;> omega))))) hb1)
      have K1_2 : Bx (PairAt w1 (w.heap.size + 1 + 1) (0) (0)) := Bx.mk (PairAt.below (by repeat' (first | (with_reducible assumption) | (with_reducible refine PairAt.at _ _ _ _ ?_; focus (first | omega | (simp only [World.size_alloc, World.size_setCell, World.size_drew] <;> omega) | (simp <;> omega))) | (with_reducible refine PairAt.alloc ?_ _) | (with_reducible refine PairAt.draws ?_ _) | (with_reducible refine PairAt.drew1 ?_) | (with_reducible apply PairAt.put) | (with_reducible apply PairAt.put1) | (with_reducible apply PairAt.put0) | (with_reducible refine PairAt.other2 ?_ ?_ _; focus (first | omega | (simp only [World.size_alloc, World.size_setCell, World.size_drew] <;> omega) | (simp <;> omega))))) hb1)
      have B1 : Bx (Below w.heap.size w w1) := Bx.mk (Below.trans (by repeat' (first | (with_reducible exact Below.refl _ _) | (with_reducible assumption) | (with_reducible refine Below.drew ?_) | (with_reducible refine Below.alloc ?_ ?_ _) | (with_reducible refine below_draws ?_ _) | (with_reducible refine Below.setCell ?_ ?_ _) | go_size)) (hb1.mono (by go_size)))
      clear hb1
      have zB1 := B1.out.size
      have K1_1c0 := K1_1.out.c0
      have K1_1c1 := K1_1.out.c1
      have K1_1f0 := K1_1.out.f0 0
      have K1_1f1 := K1_1.out.f0 1
      have K1_1lt := K1_1.out.lt
      have K1_2c0 := K1_2.out.c0
      have K1_2c1 := K1_2.out.c1
      have K1_2f0 := K1_2.out.f0 0
      have K1_2f1 := K1_2.out.f0 1
      have K1_2lt := K1_2.out.lt
      go_wp2_with (fail)
      refine (hp1 _).mono ?_
      rintro r2 w2 ⟨rfl, hb2⟩
      have K2_2 : Bx (PairAt w2 (w.heap.size + 1 + 1) (0) (0)) := Bx.mk (PairAt.below (by have QK1_1 := K1_1.out; have QK1_2 := K1_2.out; repeat' (first | (with_reducible assumption) | (with_reducible refine PairAt.at _ _ _ _ ?_; focus (first | omega | (simp only [World.size_alloc, World.size_setCell, World.size_drew] <;> omega) | (simp <;> omega))) | (with_reducible refine PairAt.alloc ?_ _) | (with_reducible refine PairAt.draws ?_ _) | (with_reducible refine PairAt.drew1 ?_) | (with_reducible apply PairAt.put) | (with_reducible apply PairAt.put1) | (with_reducible apply PairAt.put0) | (with_reducible refine PairAt.other2 ?_ ?_ _; focus (first | omega | (simp only [World.size_alloc, World.size_setCell, World.size_drew] <;> omega) | (simp <;> omega))))) hb2)
      have B2 : Bx (Below w.heap.size w w2) := Bx.mk (Below.trans (by have KBO := B1.out; repeat' (first | (with_reducible exact Below.refl _ _) | (with_reducible assumption) | (with_reducible refine Below.drew ?_) | (with_reducible refine Below.alloc ?_ ?_ _) | (with_reducible refine below_draws ?_ _) | (with_reducible refine Below.setCell ?_ ?_ _) | go_size)) (hb2.mono (by go_size)))
      clear hb2
      clear K1_1c0 K1_1c1 K1_1f0 K1_1f1 K1_1lt K1_1
      clear K1_2c0 K1_2c1 K1_2f0 K1_2f1 K1_2lt K1_2
      clear B1 zB1
      have zB2 := B2.out.size
      have K2_2c0 := K2_2.out.c0
      have K2_2c1 := K2_2.out.c1
      have K2_2f0 := K2_2.out.f0 0
      have K2_2f1 := K2_2.out.f0 1
      have K2_2lt := K2_2.out.lt
      go_wp2_with (fail)
      have P := put_pair K2_2.out (0) (0)
      refine bodyPost_ret (v := .tuple #[.agg #[.int .i64 0, .int .i64 0], .int .i64 1]) (by simp [results, Tryd.results60, go_sem, P.1, P.2]) rfl ?_
      refine rat_out HE.out ?_
      have KBO := B2.out
      repeat' (first | (with_reducible exact Below.refl _ _) | (with_reducible assumption) | (with_reducible refine Below.drew ?_) | (with_reducible refine Below.alloc ?_ ?_ _) | (with_reducible refine below_draws ?_ _) | (with_reducible refine Below.setCell ?_ ?_ _) | go_size)
    · have HE : Bx (betR n d m e = doneR (n + m) (d + e)) := Bx.mk (by simp [betR, hn, hm])
      simp only [hm] at hp1
      obtain ⟨⟨n1, n2⟩, ⟨d1, d2⟩, _⟩ := okR_yes hn
      obtain ⟨⟨m1, m2⟩, ⟨e1, e2⟩, _⟩ := okR_yes hm
      have hcl := fun W hg hh => bet_closure g h n d m e W hg hh n1 n2 d1 d2 m1 m2 e1 e2
      have x1 : 1 ≤ n + m ∧ n + m ≤ 1000000000000 := by omega
      have y1 : 1 ≤ d + e ∧ d + e ≤ 1000000000000 := by omega
      have hf := fun W => impl_fitted (n + m) (d + e) W (by omega) (by omega)
      generalize doneR (n + m) (d + e) = t at HE hf
      generalize n + m = x at hf hcl
      generalize d + e = y at hf hcl
      clear hn hm n1 n2 d1 d2 m1 m2 e1 e2 x1 y1
      replace hf := rat_open hf
      unfold rat at *
      have al := HG.out.lt
      have bl := HH.out.lt
      go_enter Tryd.func60, Tryd.ntmps60
      go_wp2_with (fail)
      refine (hp0 _).mono ?_
      rintro r1 w1 ⟨rfl, hb1⟩
      have K1_1 : Bx (PairAt w1 (w.heap.size + 1) (m) (e)) := Bx.mk (PairAt.below (by have QG := HG.out; have QH := HH.out; repeat' (first | (with_reducible assumption) | (with_reducible refine PairAt.at _ _ _ _ ?_; focus (first | omega | (simp only [World.size_alloc, World.size_setCell, World.size_drew] <;> omega) | (simp <;> omega))) | (with_reducible refine PairAt.alloc ?_ _) | (with_reducible refine PairAt.draws ?_ _) | (with_reducible refine PairAt.drew1 ?_) | (with_reducible apply PairAt.put) | (with_reducible apply PairAt.put1) | (with_reducible apply PairAt.put0) | (with_reducible refine PairAt.other2 ?_ ?_ _; focus (first | omega | (simp only [World.size_alloc, World.size_setCell, World.size_drew] <;> omega) | (simp <;> omega))))) hb1)
      have K1_2 : Bx (PairAt w1 (w.heap.size + 1 + 1) (0) (0)) := Bx.mk (PairAt.below (by have QG := HG.out; have QH := HH.out; repeat' (first | (with_reducible assumption) | (with_reducible refine PairAt.at _ _ _ _ ?_; focus (first | omega | (simp only [World.size_alloc, World.size_setCell, World.size_drew] <;> omega) | (simp <;> omega))) | (with_reducible refine PairAt.alloc ?_ _) | (with_reducible refine PairAt.draws ?_ _) | (with_reducible refine PairAt.drew1 ?_) | (with_reducible apply PairAt.put) | (with_reducible apply PairAt.put1) | (with_reducible apply PairAt.put0) | (with_reducible refine PairAt.other2 ?_ ?_ _; focus (first | omega | (simp only [World.size_alloc, World.size_setCell, World.size_drew] <;> omega) | (simp <;> omega))))) hb1)
      have K1_g : Bx (PairAt w1 g (n) (d)) := Bx.mk (PairAt.below (by have QG := HG.out; have QH := HH.out; repeat' (first | (with_reducible assumption) | (with_reducible refine PairAt.at _ _ _ _ ?_; focus (first | omega | (simp only [World.size_alloc, World.size_setCell, World.size_drew] <;> omega) | (simp <;> omega))) | (with_reducible refine PairAt.alloc ?_ _) | (with_reducible refine PairAt.draws ?_ _) | (with_reducible refine PairAt.drew1 ?_) | (with_reducible apply PairAt.put) | (with_reducible apply PairAt.put1) | (with_reducible apply PairAt.put0) | (with_reducible refine PairAt.other2 ?_ ?_ _; focus (first | omega | (simp only [World.size_alloc, World.size_setCell, World.size_drew] <;> omega) | (simp <;> omega))))) hb1)
      have K1_h : Bx (PairAt w1 h (m) (e)) := Bx.mk (PairAt.below (by have QG := HG.out; have QH := HH.out; repeat' (first | (with_reducible assumption) | (with_reducible refine PairAt.at _ _ _ _ ?_; focus (first | omega | (simp only [World.size_alloc, World.size_setCell, World.size_drew] <;> omega) | (simp <;> omega))) | (with_reducible refine PairAt.alloc ?_ _) | (with_reducible refine PairAt.draws ?_ _) | (with_reducible refine PairAt.drew1 ?_) | (with_reducible apply PairAt.put) | (with_reducible apply PairAt.put1) | (with_reducible apply PairAt.put0) | (with_reducible refine PairAt.other2 ?_ ?_ _; focus (first | omega | (simp only [World.size_alloc, World.size_setCell, World.size_drew] <;> omega) | (simp <;> omega))))) hb1)
      have B1 : Bx (Below w.heap.size w w1) := Bx.mk (Below.trans (by repeat' (first | (with_reducible exact Below.refl _ _) | (with_reducible assumption) | (with_reducible refine Below.drew ?_) | (with_reducible refine Below.alloc ?_ ?_ _) | (with_reducible refine below_draws ?_ _) | (with_reducible refine Below.setCell ?_ ?_ _) | go_size)) (hb1.mono (by go_size)))
      clear hb1
      have zB1 := B1.out.size
      have K1_1c0 := K1_1.out.c0
      have K1_1c1 := K1_1.out.c1
      have K1_1f0 := K1_1.out.f0 0
      have K1_1f1 := K1_1.out.f0 1
      have K1_1lt := K1_1.out.lt
      have K1_2c0 := K1_2.out.c0
      have K1_2c1 := K1_2.out.c1
      have K1_2f0 := K1_2.out.f0 0
      have K1_2f1 := K1_2.out.f0 1
      have K1_2lt := K1_2.out.lt
      have K1_gc0 := K1_g.out.c0
      have K1_gc1 := K1_g.out.c1
      have K1_gf0 := K1_g.out.f0 0
      have K1_gf1 := K1_g.out.f0 1
      have K1_glt := K1_g.out.lt
      have K1_hc0 := K1_h.out.c0
      have K1_hc1 := K1_h.out.c1
      have K1_hf0 := K1_h.out.f0 0
      have K1_hf1 := K1_h.out.f0 1
      have K1_hlt := K1_h.out.lt
      go_wp2_with (fail)
      refine (hp1 _).mono ?_
      rintro r2 w2 ⟨rfl, hb2⟩
      have K2_2 : Bx (PairAt w2 (w.heap.size + 1 + 1) (0) (0)) := Bx.mk (PairAt.below (by have QK1_1 := K1_1.out; have QK1_2 := K1_2.out; have QK1_g := K1_g.out; have QK1_h := K1_h.out; repeat' (first | (with_reducible assumption) | (with_reducible refine PairAt.at _ _ _ _ ?_; focus (first | omega | (simp only [World.size_alloc, World.size_setCell, World.size_drew] <;> omega) | (simp <;> omega))) | (with_reducible refine PairAt.alloc ?_ _) | (with_reducible refine PairAt.draws ?_ _) | (with_reducible refine PairAt.drew1 ?_) | (with_reducible apply PairAt.put) | (with_reducible apply PairAt.put1) | (with_reducible apply PairAt.put0) | (with_reducible refine PairAt.other2 ?_ ?_ _; focus (first | omega | (simp only [World.size_alloc, World.size_setCell, World.size_drew] <;> omega) | (simp <;> omega))))) hb2)
      have K2_g : Bx (PairAt w2 g (n) (d)) := Bx.mk (PairAt.below (by have QK1_1 := K1_1.out; have QK1_2 := K1_2.out; have QK1_g := K1_g.out; have QK1_h := K1_h.out; repeat' (first | (with_reducible assumption) | (with_reducible refine PairAt.at _ _ _ _ ?_; focus (first | omega | (simp only [World.size_alloc, World.size_setCell, World.size_drew] <;> omega) | (simp <;> omega))) | (with_reducible refine PairAt.alloc ?_ _) | (with_reducible refine PairAt.draws ?_ _) | (with_reducible refine PairAt.drew1 ?_) | (with_reducible apply PairAt.put) | (with_reducible apply PairAt.put1) | (with_reducible apply PairAt.put0) | (with_reducible refine PairAt.other2 ?_ ?_ _; focus (first | omega | (simp only [World.size_alloc, World.size_setCell, World.size_drew] <;> omega) | (simp <;> omega))))) hb2)
      have K2_h : Bx (PairAt w2 h (m) (e)) := Bx.mk (PairAt.below (by have QK1_1 := K1_1.out; have QK1_2 := K1_2.out; have QK1_g := K1_g.out; have QK1_h := K1_h.out; repeat' (first | (with_reducible assumption) | (with_reducible refine PairAt.at _ _ _ _ ?_; focus (first | omega | (simp only [World.size_alloc, World.size_setCell, World.size_drew] <;> omega) | (simp <;> omega))) | (with_reducible refine PairAt.alloc ?_ _) | (with_reducible refine PairAt.draws ?_ _) | (with_reducible refine PairAt.drew1 ?_) | (with_reducible apply PairAt.put) | (with_reducible apply PairAt.put1) | (with_reducible apply PairAt.put0) | (with_reducible refine PairAt.other2 ?_ ?_ _; focus (first | omega | (simp only [World.size_alloc, World.size_setCell, World.size_drew] <;> omega) | (simp <;> omega))))) hb2)
      have B2 : Bx (Below w.heap.size w w2) := Bx.mk (Below.trans (by have KBO := B1.out; repeat' (first | (with_reducible exact Below.refl _ _) | (with_reducible assumption) | (with_reducible refine Below.drew ?_) | (with_reducible refine Below.alloc ?_ ?_ _) | (with_reducible refine below_draws ?_ _) | (with_reducible refine Below.setCell ?_ ?_ _) | go_size)) (hb2.mono (by go_size)))
      clear hb2
      clear K1_1c0 K1_1c1 K1_1f0 K1_1f1 K1_1lt K1_1
      clear K1_2c0 K1_2c1 K1_2f0 K1_2f1 K1_2lt K1_2
      clear K1_gc0 K1_gc1 K1_gf0 K1_gf1 K1_glt K1_g
      clear K1_hc0 K1_hc1 K1_hf0 K1_hf1 K1_hlt K1_h
      clear B1 zB1
      have zB2 := B2.out.size
      have K2_2c0 := K2_2.out.c0
      have K2_2c1 := K2_2.out.c1
      have K2_2f0 := K2_2.out.f0 0
      have K2_2f1 := K2_2.out.f0 1
      have K2_2lt := K2_2.out.lt
      have K2_gc0 := K2_g.out.c0
      have K2_gc1 := K2_g.out.c1
      have K2_gf0 := K2_g.out.f0 0
      have K2_gf1 := K2_g.out.f0 1
      have K2_glt := K2_g.out.lt
      have K2_hc0 := K2_h.out.c0
      have K2_hc1 := K2_h.out.c1
      have K2_hf0 := K2_h.out.f0 0
      have K2_hf1 := K2_h.out.f0 1
      have K2_hlt := K2_h.out.lt
      go_wp2_with (fail)
      refine (hcl _ (by have Q := K2_g.out; repeat' (first | (with_reducible assumption) | (with_reducible refine PairAt.at _ _ _ _ ?_; focus (first | omega | (simp only [World.size_alloc, World.size_setCell, World.size_drew] <;> omega) | (simp <;> omega))) | (with_reducible refine PairAt.alloc ?_ _) | (with_reducible refine PairAt.draws ?_ _) | (with_reducible refine PairAt.drew1 ?_) | (with_reducible apply PairAt.put) | (with_reducible apply PairAt.put1) | (with_reducible apply PairAt.put0) | (with_reducible refine PairAt.other2 ?_ ?_ _; focus (first | omega | (simp only [World.size_alloc, World.size_setCell, World.size_drew] <;> omega) | (simp <;> omega))))) (by have Q := K2_h.out; repeat' (first | (with_reducible assumption) | (with_reducible refine PairAt.at _ _ _ _ ?_; focus (first | omega | (simp only [World.size_alloc, World.size_setCell, World.size_drew] <;> omega) | (simp <;> omega))) | (with_reducible refine PairAt.alloc ?_ _) | (with_reducible refine PairAt.draws ?_ _) | (with_reducible refine PairAt.drew1 ?_) | (with_reducible apply PairAt.put) | (with_reducible apply PairAt.put1) | (with_reducible apply PairAt.put0) | (with_reducible refine PairAt.other2 ?_ ?_ _; focus (first | omega | (simp only [World.size_alloc, World.size_setCell, World.size_drew] <;> omega) | (simp <;> omega)))))).mono ?_
      rintro r3 w3 ⟨rfl, hb3⟩
      have K3_2 : Bx (PairAt w3 (w.heap.size + 1 + 1) (0) (0)) := Bx.mk (PairAt.below (by have QK2_2 := K2_2.out; have QK2_g := K2_g.out; have QK2_h := K2_h.out; repeat' (first | (with_reducible assumption) | (with_reducible refine PairAt.at _ _ _ _ ?_; focus (first | omega | (simp only [World.size_alloc, World.size_setCell, World.size_drew] <;> omega) | (simp <;> omega))) | (with_reducible refine PairAt.alloc ?_ _) | (with_reducible refine PairAt.draws ?_ _) | (with_reducible refine PairAt.drew1 ?_) | (with_reducible apply PairAt.put) | (with_reducible apply PairAt.put1) | (with_reducible apply PairAt.put0) | (with_reducible refine PairAt.other2 ?_ ?_ _; focus (first | omega | (simp only [World.size_alloc, World.size_setCell, World.size_drew] <;> omega) | (simp <;> omega))))) hb3)
      have B3 : Bx (Below w.heap.size w w3) := Bx.mk (Below.trans (by have KBO := B2.out; repeat' (first | (with_reducible exact Below.refl _ _) | (with_reducible assumption) | (with_reducible refine Below.drew ?_) | (with_reducible refine Below.alloc ?_ ?_ _) | (with_reducible refine below_draws ?_ _) | (with_reducible refine Below.setCell ?_ ?_ _) | go_size)) (hb3.mono (by go_size)))
      clear hb3
      clear K2_2c0 K2_2c1 K2_2f0 K2_2f1 K2_2lt K2_2
      clear K2_gc0 K2_gc1 K2_gf0 K2_gf1 K2_glt K2_g
      clear K2_hc0 K2_hc1 K2_hf0 K2_hf1 K2_hlt K2_h
      clear B2 zB2
      have zB3 := B3.out.size
      have K3_2c0 := K3_2.out.c0
      have K3_2c1 := K3_2.out.c1
      have K3_2f0 := K3_2.out.f0 0
      have K3_2f1 := K3_2.out.f0 1
      have K3_2lt := K3_2.out.lt
      go_wp2_with (fail)
      refine (hf _).mono ?_
      rintro r4 w4 ⟨rfl, hb4⟩
      have K4_2 : Bx (PairAt w4 (w.heap.size + 1 + 1) (0) (0)) := Bx.mk (PairAt.below (by have QK3_2 := K3_2.out; repeat' (first | (with_reducible assumption) | (with_reducible refine PairAt.at _ _ _ _ ?_; focus (first | omega | (simp only [World.size_alloc, World.size_setCell, World.size_drew] <;> omega) | (simp <;> omega))) | (with_reducible refine PairAt.alloc ?_ _) | (with_reducible refine PairAt.draws ?_ _) | (with_reducible refine PairAt.drew1 ?_) | (with_reducible apply PairAt.put) | (with_reducible apply PairAt.put1) | (with_reducible apply PairAt.put0) | (with_reducible refine PairAt.other2 ?_ ?_ _; focus (first | omega | (simp only [World.size_alloc, World.size_setCell, World.size_drew] <;> omega) | (simp <;> omega))))) hb4)
      have B4 : Bx (Below w.heap.size w w4) := Bx.mk (Below.trans (by have KBO := B3.out; repeat' (first | (with_reducible exact Below.refl _ _) | (with_reducible assumption) | (with_reducible refine Below.drew ?_) | (with_reducible refine Below.alloc ?_ ?_ _) | (with_reducible refine below_draws ?_ _) | (with_reducible refine Below.setCell ?_ ?_ _) | go_size)) (hb4.mono (by go_size)))
      clear hb4
      clear K3_2c0 K3_2c1 K3_2f0 K3_2f1 K3_2lt K3_2
      clear B3 zB3
      have zB4 := B4.out.size
      have K4_2c0 := K4_2.out.c0
      have K4_2c1 := K4_2.out.c1
      have K4_2f0 := K4_2.out.f0 0
      have K4_2f1 := K4_2.out.f0 1
      have K4_2lt := K4_2.out.lt
      go_wp2_with (fail)
      have P := put_pair K4_2.out (t.1) (t.2.1)
      refine bodyPost_ret (v := .tuple #[.agg #[.int .i64 t.1, .int .i64 t.2.1], .int .i64 t.2.2]) (by simp [results, Tryd.results60, go_sem, P.1, P.2]) rfl ?_
      refine rat_out (t := betR n d m e) (n := t.1) (d := t.2.1) (c := t.2.2) HE.out ?_
      have KBO := B4.out
      repeat' (first | (with_reducible exact Below.refl _ _) | (with_reducible assumption) | (with_reducible refine Below.drew ?_) | (with_reducible refine Below.alloc ?_ ?_ _) | (with_reducible refine below_draws ?_ _) | (with_reducible refine Below.setCell ?_ ?_ _) | go_size)
set_option maxHeartbeats 1000000 in
theorem impl_bet (n d m e : Int) (w : World) : Calls Tryd.prog 25 #[rat n d, rat m e] w (RatOut (betR n d m e) w) := by
  have hc := fun g h W hg hh => bet_combine g h n d m e W hg hh
  generalize betR n d m e = t at hc ⊢
  unfold rat at *
  go_enter Tryd.func25, Tryd.ntmps25
  go_wp2_with (fail)
  have hc2 := fun g h W hg hh => rat_open' (hc g h W hg hh)
  clear hc
  refine (hc2 _ _ _ (by repeat' (first | (with_reducible assumption) | (with_reducible refine PairAt.at _ _ _ _ ?_; focus (first | omega | (simp only [World.size_alloc, World.size_setCell, World.size_drew] <;> omega) | (simp <;> omega))) | (with_reducible refine PairAt.alloc ?_ _) | (with_reducible refine PairAt.draws ?_ _) | (with_reducible refine PairAt.drew1 ?_) | (with_reducible apply PairAt.put) | (with_reducible apply PairAt.put1) | (with_reducible apply PairAt.put0) | (with_reducible refine PairAt.other2 ?_ ?_ _; focus (first | omega | (simp only [World.size_alloc, World.size_setCell, World.size_drew] <;> omega) | (simp <;> omega))))) (by repeat' (first | (with_reducible assumption) | (with_reducible refine PairAt.at _ _ _ _ ?_; focus (first | omega | (simp only [World.size_alloc, World.size_setCell, World.size_drew] <;> omega) | (simp <;> omega))) | (with_reducible refine PairAt.alloc ?_ _) | (with_reducible refine PairAt.draws ?_ _) | (with_reducible refine PairAt.drew1 ?_) | (with_reducible apply PairAt.put) | (with_reducible apply PairAt.put1) | (with_reducible apply PairAt.put0) | (with_reducible refine PairAt.other2 ?_ ?_ _; focus (first | omega | (simp only [World.size_alloc, World.size_setCell, World.size_drew] <;> omega) | (simp <;> omega)))))).mono ?_
  rintro r1 w1 ⟨rfl, hb1⟩
  have K1_2 : Bx (PairAt w1 (w.heap.size + 1 + 1) (0) (0)) := Bx.mk (PairAt.below (by repeat' (first | (with_reducible assumption) | (with_reducible refine PairAt.at _ _ _ _ ?_; focus (first | omega | (simp only [World.size_alloc, World.size_setCell, World.size_drew] <;> omega) | (simp <;> omega))) | (with_reducible refine PairAt.alloc ?_ _) | (with_reducible refine PairAt.draws ?_ _) | (with_reducible refine PairAt.drew1 ?_) | (with_reducible apply PairAt.put) | (with_reducible apply PairAt.put1) | (with_reducible apply PairAt.put0) | (with_reducible refine PairAt.other2 ?_ ?_ _; focus (first | omega | (simp only [World.size_alloc, World.size_setCell, World.size_drew] <;> omega) | (simp <;> omega))))) hb1)
  have B1 : Bx (Below w.heap.size w w1) := Bx.mk (Below.trans (by repeat' (first | (with_reducible exact Below.refl _ _) | (with_reducible assumption) | (with_reducible refine Below.drew ?_) | (with_reducible refine Below.alloc ?_ ?_ _) | (with_reducible refine below_draws ?_ _) | (with_reducible refine Below.setCell ?_ ?_ _) | go_size)) (hb1.mono (by go_size)))
  clear hb1
  have zB1 := B1.out.size
  have K1_2c0 := K1_2.out.c0
  have K1_2c1 := K1_2.out.c1
  have K1_2f0 := K1_2.out.f0 0
  have K1_2f1 := K1_2.out.f0 1
  have K1_2lt := K1_2.out.lt
  go_wp2_with (fail)
  have P := put_pair K1_2.out (t.1) (t.2.1)
  refine bodyPost_ret (v := .tuple #[.agg #[.int .i64 t.1, .int .i64 t.2.1], .int .i64 t.2.2]) (by simp [results, Tryd.results25, go_sem, P.1, P.2]) rfl ?_
  refine rat_out (t := t) (n := t.1) (d := t.2.1) (c := t.2.2) rfl ?_
  have KBO := B1.out
  repeat' (first | (with_reducible exact Below.refl _ _) | (with_reducible assumption) | (with_reducible refine Below.drew ?_) | (with_reducible refine Below.alloc ?_ ?_ _) | (with_reducible refine below_draws ?_ _) | (with_reducible refine Below.setCell ?_ ?_ _) | go_size)
end Go.Proofs.YtdhgbincebcobaaDoor
