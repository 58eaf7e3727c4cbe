/- The program's PowerRatio, CompareRatios and OctaveOf. -/
import Derived.Test.YtdhgbincebcobaaDoorRatK
import Derived.Test.YtdhgbincebcobaaDoorRatLaw3
namespace Go.Proofs.YtdhgbincebcobaaDoor
open Go.ChangeShapes Go.WideShapes Go.ChangeAt Go.RowKit
set_option linter.unusedVariables false
set_option linter.unusedSimpArgs false
set_option maxRecDepth 100000

def PowRelI (n d m : Int) (w : World) (g : Nat) (i : Value) (wr : World) : Prop := ∃ (k : Nat) (p q : Int), i = .int .i64 k ∧ k ≤ m ∧ powS n d k = (p, q, 0) ∧ okR p q = true ∧ Below w.heap.size w wr ∧ PairAt wr w.heap.size n d ∧ PairAt wr (w.heap.size + 1) 0 0 ∧ PairAt wr g p q ∧ w.heap.size + 2 ≤ g
set_option maxHeartbeats 2000000 in
theorem impl_power (n d m : Int) (w : World) : Calls Tryd.prog 28 #[rat n d, .int .i64 m] w (RatOut (powE n d m) w) := by
  have hp0 := fun W => impl_valid n d W
  cases hn : okR n d
  · have HE : Bx (powE n d m = (0, 0, 1)) := Bx.mk (by simp [powE, hn])
    simp only [hn] at hp0
    clear hn
    unfold rat at *
    go_enter Tryd.func28, Tryd.ntmps28
    go_wp2_with (fail)
    refine (hp0 _).mono ?_
    rintro r1 w1 ⟨rfl, hb1⟩
    have K1_1 : Bx (PairAt w1 (w.heap.size + 1) (0) (0)) := Bx.mk (PairAt.below (by repeat' (first | (with_reducible assumption) | (with_reducible refine PairAt.at _ _ _ _ ?_; focus (first | omega | (simp only [World.size_alloc, World.size_setCell, World.size_drew] <;> omega) | (simp <;> omega))) | (with_reducible refine PairAt.alloc ?_ _) | (with_reducible refine PairAt.draws ?_ _) | (with_reducible refine PairAt.drew1 ?_) | (with_reducible apply PairAt.put) | (with_reducible apply PairAt.put1) | (with_reducible apply PairAt.put0) | (with_reducible refine PairAt.other2 ?_ ?_ _; focus (first | omega | (simp only [World.size_alloc, World.size_setCell, World.size_drew] <;> omega) | (simp <;> omega))))) hb1)
    have B1 : Bx (Below w.heap.size w w1) := Bx.mk (Below.trans (by repeat' (first | (with_reducible exact Below.refl _ _) | (with_reducible assumption) | (with_reducible refine Below.drew ?_) | (with_reducible refine Below.alloc ?_ ?_ _) | (with_reducible refine below_draws ?_ _) | (with_reducible refine Below.setCell ?_ ?_ _) | go_size)) (hb1.mono (by go_size)))
    clear hb1
    have zB1 := B1.out.size
    have K1_1c0 := K1_1.out.c0
    have K1_1c1 := K1_1.out.c1
    have K1_1f0 := K1_1.out.f0 0
    have K1_1f1 := K1_1.out.f0 1
    have K1_1lt := K1_1.out.lt
    go_wp2_with (fail)
    have P := put_pair K1_1.out (0) (0)
    refine bodyPost_ret (v := .tuple #[.agg #[.int .i64 0, .int .i64 0], .int .i64 1]) (by simp [results, Tryd.results28, go_sem, P.1, P.2]) rfl ?_
    refine rat_out HE.out ?_
    have KBO := B1.out
    repeat' (first | (with_reducible exact Below.refl _ _) | (with_reducible assumption) | (with_reducible refine Below.drew ?_) | (with_reducible refine Below.alloc ?_ ?_ _) | (with_reducible refine below_draws ?_ _) | (with_reducible refine Below.setCell ?_ ?_ _) | go_size)
  · simp only [hn] at hp0
    by_cases hm : 0 ≤ m ∧ m ≤ 40
    · obtain ⟨m1, m2⟩ := hm
      have HE : Bx (powE n d m = powS n d m.toNat) := Bx.mk (by have hi : inB m 0 40 = true := (by simp [inB]; omega); simp [powE, hn, hi])
      have HN := Bx.mk hn
      clear hn
      unfold rat at *
      go_enter Tryd.func28, Tryd.ntmps28
      go_wp2_with (fail)
      refine (hp0 _).mono ?_
      rintro r1 w1 ⟨rfl, hb1⟩
      have K1_0 : Bx (PairAt w1 w.heap.size (n) (d)) := Bx.mk (PairAt.below (by repeat' (first | (with_reducible assumption) | (with_reducible refine PairAt.at _ _ _ _ ?_; focus (first | omega | (simp only [World.size_alloc, World.size_setCell, World.size_drew] <;> omega) | (simp <;> omega))) | (with_reducible refine PairAt.alloc ?_ _) | (with_reducible refine PairAt.draws ?_ _) | (with_reducible refine PairAt.drew1 ?_) | (with_reducible apply PairAt.put) | (with_reducible apply PairAt.put1) | (with_reducible apply PairAt.put0) | (with_reducible refine PairAt.other2 ?_ ?_ _; focus (first | omega | (simp only [World.size_alloc, World.size_setCell, World.size_drew] <;> omega) | (simp <;> omega))))) hb1)
      have K1_1 : Bx (PairAt w1 (w.heap.size + 1) (0) (0)) := Bx.mk (PairAt.below (by repeat' (first | (with_reducible assumption) | (with_reducible refine PairAt.at _ _ _ _ ?_; focus (first | omega | (simp only [World.size_alloc, World.size_setCell, World.size_drew] <;> omega) | (simp <;> omega))) | (with_reducible refine PairAt.alloc ?_ _) | (with_reducible refine PairAt.draws ?_ _) | (with_reducible refine PairAt.drew1 ?_) | (with_reducible apply PairAt.put) | (with_reducible apply PairAt.put1) | (with_reducible apply PairAt.put0) | (with_reducible refine PairAt.other2 ?_ ?_ _; focus (first | omega | (simp only [World.size_alloc, World.size_setCell, World.size_drew] <;> omega) | (simp <;> omega))))) hb1)
      have B1 : Bx (Below w.heap.size w w1) := Bx.mk (Below.trans (by repeat' (first | (with_reducible exact Below.refl _ _) | (with_reducible assumption) | (with_reducible refine Below.drew ?_) | (with_reducible refine Below.alloc ?_ ?_ _) | (with_reducible refine below_draws ?_ _) | (with_reducible refine Below.setCell ?_ ?_ _) | go_size)) (hb1.mono (by go_size)))
      clear hb1
      have zB1 := B1.out.size
      have K1_0c0 := K1_0.out.c0
      have K1_0c1 := K1_0.out.c1
      have K1_0f0 := K1_0.out.f0 0
      have K1_0f1 := K1_0.out.f0 1
      have K1_0lt := K1_0.out.lt
      have K1_1c0 := K1_1.out.c0
      have K1_1c1 := K1_1.out.c1
      have K1_1f0 := K1_1.out.f0 0
      have K1_1f1 := K1_1.out.f0 1
      have K1_1lt := K1_1.out.lt
      go_wp2_with (fail)
      go_loopw [21] (fun i wr => PowRelI n d m w w1.heap.size i wr) (fun i _ => (m - intOf i).toNat)
      case atStart =>
        have Q0 := K1_0.out
        have Q1 := K1_1.out
        refine ⟨0, 1, 1, rfl, by omega, rfl, by decide, ?_, ?_, ?_, ?_, ?_⟩
        · have QB := B1.out; repeat' (first | (with_reducible exact Below.refl _ _) | (with_reducible assumption) | (with_reducible refine Below.drew ?_) | (with_reducible refine Below.alloc ?_ ?_ _) | (with_reducible refine below_draws ?_ _) | (with_reducible refine Below.setCell ?_ ?_ _) | go_size)
        · repeat' (first | (with_reducible assumption) | (with_reducible refine PairAt.at _ _ _ _ ?_; focus (first | omega | (simp only [World.size_alloc, World.size_setCell, World.size_drew] <;> omega) | (simp <;> omega))) | (with_reducible refine PairAt.alloc ?_ _) | (with_reducible refine PairAt.draws ?_ _) | (with_reducible refine PairAt.drew1 ?_) | (with_reducible apply PairAt.put) | (with_reducible apply PairAt.put1) | (with_reducible apply PairAt.put0) | (with_reducible refine PairAt.other2 ?_ ?_ _; focus (first | omega | (simp only [World.size_alloc, World.size_setCell, World.size_drew] <;> omega) | (simp <;> omega))))
        · repeat' (first | (with_reducible assumption) | (with_reducible refine PairAt.at _ _ _ _ ?_; focus (first | omega | (simp only [World.size_alloc, World.size_setCell, World.size_drew] <;> omega) | (simp <;> omega))) | (with_reducible refine PairAt.alloc ?_ _) | (with_reducible refine PairAt.draws ?_ _) | (with_reducible refine PairAt.drew1 ?_) | (with_reducible apply PairAt.put) | (with_reducible apply PairAt.put1) | (with_reducible apply PairAt.put0) | (with_reducible refine PairAt.other2 ?_ ?_ _; focus (first | omega | (simp only [World.size_alloc, World.size_setCell, World.size_drew] <;> omega) | (simp <;> omega))))
        · repeat' (first | (with_reducible assumption) | (with_reducible refine PairAt.at _ _ _ _ ?_; focus (first | omega | (simp only [World.size_alloc, World.size_setCell, World.size_drew] <;> omega) | (simp <;> omega))) | (with_reducible refine PairAt.alloc ?_ _) | (with_reducible refine PairAt.draws ?_ _) | (with_reducible refine PairAt.drew1 ?_) | (with_reducible apply PairAt.put) | (with_reducible apply PairAt.put1) | (with_reducible apply PairAt.put0) | (with_reducible refine PairAt.other2 ?_ ?_ _; focus (first | omega | (simp only [World.size_alloc, World.size_setCell, World.size_drew] <;> omega) | (simp <;> omega))))
        · omega
      case round =>
        obtain ⟨k, p, q, rfl, hk, hp, ho, hb, h0, h1, hg, hz⟩ := hrel
        clear K1_0c0 K1_0c1 K1_0f0 K1_0f1 K1_0lt K1_0
        clear K1_1c0 K1_1c1 K1_1f0 K1_1f1 K1_1lt K1_1
        clear B1 zB1
        generalize w1.heap.size = g at hg hz ⊢
        have B0 := Bx.mk hb
        have K0 := Bx.mk h0
        have K1 := Bx.mk h1
        have K2 := Bx.mk hg
        clear hb h0 h1 hg hp0
        have zB0 := B0.out.size
        have K0c0 := K0.out.c0
        have K0c1 := K0.out.c1
        have K0f0 := K0.out.f0 0
        have K0f1 := K0.out.f0 1
        have K0lt := K0.out.lt
        have K1c0 := K1.out.c0
        have K1c1 := K1.out.c1
        have K1f0 := K1.out.f0 0
        have K1f1 := K1.out.f0 1
        have K1lt := K1.out.lt
        have K2c0 := K2.out.c0
        have K2c1 := K2.out.c1
        have K2f0 := K2.out.f0 0
        have K2f1 := K2.out.f0 1
        have K2lt := K2.out.lt
        by_cases hlt : (k : Int) < m
        · have hm := fun W => impl_mul p q n d W
          have HS : powS n d (k + 1) = mulR p q n d := by rw [powS, hp]; simp [mulR, ho, HN.out]
          have HC := pow_ok n d HN.out (k + 1)
          rw [HS] at HC
          generalize mulR p q n d = u at hm HS HC
          rcases HC with rfl | ⟨a, b, rfl, hab⟩
          · have HF : Bx (powE n d m = (0, 0, 5)) := Bx.mk (by rw [HE.out]; have := pow_err n d (k + 1) (m.toNat - (k + 1)) HS; rw [show k + 1 + (m.toNat - (k + 1)) = m.toNat by omega] at this; exact this)
            have HS2 := Bx.mk HS
            have HP := Bx.mk hp
            clear HS hp
            replace hm := rat_open hm
            unfold rat at *
            go_wp2_with (fail)
            refine (hm _).mono ?_
            rintro r1 w1 ⟨rfl, hb1⟩
            have K1_1 : Bx (PairAt w1 (w.heap.size + 1) (0) (0)) := Bx.mk (PairAt.below (by have QK0 := K0.out; have QK1 := K1.out; have QK2 := K2.out; repeat' (first | (with_reducible assumption) | (with_reducible refine PairAt.at _ _ _ _ ?_; focus (first | omega | (simp only [World.size_alloc, World.size_setCell, World.size_drew] <;> omega) | (simp <;> omega))) | (with_reducible refine PairAt.alloc ?_ _) | (with_reducible refine PairAt.draws ?_ _) | (with_reducible refine PairAt.drew1 ?_) | (with_reducible apply PairAt.put) | (with_reducible apply PairAt.put1) | (with_reducible apply PairAt.put0) | (with_reducible refine PairAt.other2 ?_ ?_ _; focus (first | omega | (simp only [World.size_alloc, World.size_setCell, World.size_drew] <;> omega) | (simp <;> omega))))) hb1)
            have K1_g : Bx (PairAt w1 g (p) (q)) := Bx.mk (PairAt.below (by have QK0 := K0.out; have QK1 := K1.out; have QK2 := K2.out; repeat' (first | (with_reducible assumption) | (with_reducible refine PairAt.at _ _ _ _ ?_; focus (first | omega | (simp only [World.size_alloc, World.size_setCell, World.size_drew] <;> omega) | (simp <;> omega))) | (with_reducible refine PairAt.alloc ?_ _) | (with_reducible refine PairAt.draws ?_ _) | (with_reducible refine PairAt.drew1 ?_) | (with_reducible apply PairAt.put) | (with_reducible apply PairAt.put1) | (with_reducible apply PairAt.put0) | (with_reducible refine PairAt.other2 ?_ ?_ _; focus (first | omega | (simp only [World.size_alloc, World.size_setCell, World.size_drew] <;> omega) | (simp <;> omega))))) hb1)
            have B1 : Bx (Below w.heap.size w w1) := Bx.mk (Below.trans (by have KBO := B0.out; repeat' (first | (with_reducible exact Below.refl _ _) | (with_reducible assumption) | (with_reducible refine Below.drew ?_) | (with_reducible refine Below.alloc ?_ ?_ _) | (with_reducible refine below_draws ?_ _) | (with_reducible refine Below.setCell ?_ ?_ _) | go_size)) (hb1.mono (by go_size)))
            clear hb1
            clear K0c0 K0c1 K0f0 K0f1 K0lt K0
            clear K1c0 K1c1 K1f0 K1f1 K1lt K1
            clear K2c0 K2c1 K2f0 K2f1 K2lt K2
            clear B0 zB0
            have zB1 := B1.out.size
            have K1_1c0 := K1_1.out.c0
            have K1_1c1 := K1_1.out.c1
            have K1_1f0 := K1_1.out.f0 0
            have K1_1f1 := K1_1.out.f0 1
            have K1_1lt := K1_1.out.lt
            have K1_gc0 := K1_g.out.c0
            have K1_gc1 := K1_g.out.c1
            have K1_gf0 := K1_g.out.f0 0
            have K1_gf1 := K1_g.out.f0 1
            have K1_glt := K1_g.out.lt
            go_wp2_with (fail)
            have P := put_pair ((K1_1.out.other (b := g) (o := 0) (by omega) (.int .i64 0)).other (b := g) (o := 1) (by omega) (.int .i64 0)) 0 0
            refine bodyPost_ret (v := .tuple #[.agg #[.int .i64 0, .int .i64 0], .int .i64 5]) (by simp [results, Tryd.results28, go_sem, P.1, P.2]) rfl ?_
            refine rat_out HF.out ?_
            have KBO := B1.out
            repeat' (first | (with_reducible exact Below.refl _ _) | (with_reducible assumption) | (with_reducible refine Below.drew ?_) | (with_reducible refine Below.alloc ?_ ?_ _) | (with_reducible refine below_draws ?_ _) | (with_reducible refine Below.setCell ?_ ?_ _) | go_size)
          · have HS2 := Bx.mk HS
            have HP := Bx.mk hp
            clear HS hp
            replace hm := rat_open hm
            unfold rat at *
            go_wp2_with (fail)
            refine (hm _).mono ?_
            rintro r1 w1 ⟨rfl, hb1⟩
            have K1_0 : Bx (PairAt w1 w.heap.size (n) (d)) := Bx.mk (PairAt.below (by have QK0 := K0.out; have QK1 := K1.out; have QK2 := K2.out; repeat' (first | (with_reducible assumption) | (with_reducible refine PairAt.at _ _ _ _ ?_; focus (first | omega | (simp only [World.size_alloc, World.size_setCell, World.size_drew] <;> omega) | (simp <;> omega))) | (with_reducible refine PairAt.alloc ?_ _) | (with_reducible refine PairAt.draws ?_ _) | (with_reducible refine PairAt.drew1 ?_) | (with_reducible apply PairAt.put) | (with_reducible apply PairAt.put1) | (with_reducible apply PairAt.put0) | (with_reducible refine PairAt.other2 ?_ ?_ _; focus (first | omega | (simp only [World.size_alloc, World.size_setCell, World.size_drew] <;> omega) | (simp <;> omega))))) hb1)
            have K1_1 : Bx (PairAt w1 (w.heap.size + 1) (0) (0)) := Bx.mk (PairAt.below (by have QK0 := K0.out; have QK1 := K1.out; have QK2 := K2.out; repeat' (first | (with_reducible assumption) | (with_reducible refine PairAt.at _ _ _ _ ?_; focus (first | omega | (simp only [World.size_alloc, World.size_setCell, World.size_drew] <;> omega) | (simp <;> omega))) | (with_reducible refine PairAt.alloc ?_ _) | (with_reducible refine PairAt.draws ?_ _) | (with_reducible refine PairAt.drew1 ?_) | (with_reducible apply PairAt.put) | (with_reducible apply PairAt.put1) | (with_reducible apply PairAt.put0) | (with_reducible refine PairAt.other2 ?_ ?_ _; focus (first | omega | (simp only [World.size_alloc, World.size_setCell, World.size_drew] <;> omega) | (simp <;> omega))))) hb1)
            have K1_g : Bx (PairAt w1 g (p) (q)) := Bx.mk (PairAt.below (by have QK0 := K0.out; have QK1 := K1.out; have QK2 := K2.out; repeat' (first | (with_reducible assumption) | (with_reducible refine PairAt.at _ _ _ _ ?_; focus (first | omega | (simp only [World.size_alloc, World.size_setCell, World.size_drew] <;> omega) | (simp <;> omega))) | (with_reducible refine PairAt.alloc ?_ _) | (with_reducible refine PairAt.draws ?_ _) | (with_reducible refine PairAt.drew1 ?_) | (with_reducible apply PairAt.put) | (with_reducible apply PairAt.put1) | (with_reducible apply PairAt.put0) | (with_reducible refine PairAt.other2 ?_ ?_ _; focus (first | omega | (simp only [World.size_alloc, World.size_setCell, World.size_drew] <;> omega) | (simp <;> omega))))) hb1)
            have B1 : Bx (Below w.heap.size w w1) := Bx.mk (Below.trans (by have KBO := B0.out; repeat' (first | (with_reducible exact Below.refl _ _) | (with_reducible assumption) | (with_reducible refine Below.drew ?_) | (with_reducible refine Below.alloc ?_ ?_ _) | (with_reducible refine below_draws ?_ _) | (with_reducible refine Below.setCell ?_ ?_ _) | go_size)) (hb1.mono (by go_size)))
            clear hb1
            clear K0c0 K0c1 K0f0 K0f1 K0lt K0
            clear K1c0 K1c1 K1f0 K1f1 K1lt K1
            clear K2c0 K2c1 K2f0 K2f1 K2lt K2
            clear B0 zB0
            have zB1 := B1.out.size
            have K1_0c0 := K1_0.out.c0
            have K1_0c1 := K1_0.out.c1
            have K1_0f0 := K1_0.out.f0 0
            have K1_0f1 := K1_0.out.f0 1
            have K1_0lt := K1_0.out.lt
            have K1_1c0 := K1_1.out.c0
            have K1_1c1 := K1_1.out.c1
            have K1_1f0 := K1_1.out.f0 0
            have K1_1f1 := K1_1.out.f0 1
            have K1_1lt := K1_1.out.lt
            have K1_gc0 := K1_g.out.c0
            have K1_gc1 := K1_g.out.c1
            have K1_gf0 := K1_g.out.f0 0
            have K1_gf1 := K1_g.out.f0 1
            have K1_glt := K1_g.out.lt
            go_wp2_with (fail)
            go_roundw
            case rel =>
              refine ⟨k + 1, a, b, by go_num, by omega, HS2.out, hab, ?_, ?_, ?_, ?_, hz⟩
              · have KBO := B1.out; repeat' (first | (with_reducible exact Below.refl _ _) | (with_reducible assumption) | (with_reducible refine Below.drew ?_) | (with_reducible refine Below.alloc ?_ ?_ _) | (with_reducible refine below_draws ?_ _) | (with_reducible refine Below.setCell ?_ ?_ _) | go_size)
              · have Q := K1_0.out; repeat' (first | (with_reducible assumption) | (with_reducible refine PairAt.at _ _ _ _ ?_; focus (first | omega | (simp only [World.size_alloc, World.size_setCell, World.size_drew] <;> omega) | (simp <;> omega))) | (with_reducible refine PairAt.alloc ?_ _) | (with_reducible refine PairAt.draws ?_ _) | (with_reducible refine PairAt.drew1 ?_) | (with_reducible apply PairAt.put) | (with_reducible apply PairAt.put1) | (with_reducible apply PairAt.put0) | (with_reducible refine PairAt.other2 ?_ ?_ _; focus (first | omega | (simp only [World.size_alloc, World.size_setCell, World.size_drew] <;> omega) | (simp <;> omega))))
              · have Q := K1_1.out; repeat' (first | (with_reducible assumption) | (with_reducible refine PairAt.at _ _ _ _ ?_; focus (first | omega | (simp only [World.size_alloc, World.size_setCell, World.size_drew] <;> omega) | (simp <;> omega))) | (with_reducible refine PairAt.alloc ?_ _) | (with_reducible refine PairAt.draws ?_ _) | (with_reducible refine PairAt.drew1 ?_) | (with_reducible apply PairAt.put) | (with_reducible apply PairAt.put1) | (with_reducible apply PairAt.put0) | (with_reducible refine PairAt.other2 ?_ ?_ _; focus (first | omega | (simp only [World.size_alloc, World.size_setCell, World.size_drew] <;> omega) | (simp <;> omega))))
              · have Q := K1_g.out; repeat' (first | (with_reducible assumption) | (with_reducible refine PairAt.at _ _ _ _ ?_; focus (first | omega | (simp only [World.size_alloc, World.size_setCell, World.size_drew] <;> omega) | (simp <;> omega))) | (with_reducible refine PairAt.alloc ?_ _) | (with_reducible refine PairAt.draws ?_ _) | (with_reducible refine PairAt.drew1 ?_) | (with_reducible apply PairAt.put) | (with_reducible apply PairAt.put1) | (with_reducible apply PairAt.put0) | (with_reducible refine PairAt.other2 ?_ ?_ _; focus (first | omega | (simp only [World.size_alloc, World.size_setCell, World.size_drew] <;> omega) | (simp <;> omega))))
            case measure => simp [intOf]; omega
        · have HF : Bx (powE n d m = (p, q, 0)) := Bx.mk (by rw [HE.out, show m.toNat = k by omega]; exact hp)
          clear hp
          unfold rat at *
          go_wp2_with (fail)
          have P := put_pair K1.out p q
          refine bodyPost_ret (v := .tuple #[.agg #[.int .i64 p, .int .i64 q], .int .i64 0]) (by simp [results, Tryd.results28, go_sem, P.1, P.2]) rfl ?_
          refine rat_out HF.out ?_
          have KBO := B0.out
          repeat' (first | (with_reducible exact Below.refl _ _) | (with_reducible assumption) | (with_reducible refine Below.drew ?_) | (with_reducible refine Below.alloc ?_ ?_ _) | (with_reducible refine below_draws ?_ _) | (with_reducible refine Below.setCell ?_ ?_ _) | go_size)
    · by_cases h0 : m < 0
      · have HE : Bx (powE n d m = (0, 0, 2)) := Bx.mk (by have hi : inB m 0 40 = false := (by simp [inB]; omega); simp [powE, hn, hi])
        clear hn
        unfold rat at *
        go_enter Tryd.func28, Tryd.ntmps28
        go_wp2_with (fail)
        refine (hp0 _).mono ?_
        rintro r1 w1 ⟨rfl, hb1⟩
        have K1_1 : Bx (PairAt w1 (w.heap.size + 1) (0) (0)) := Bx.mk (PairAt.below (by repeat' (first | (with_reducible assumption) | (with_reducible refine PairAt.at _ _ _ _ ?_; focus (first | omega | (simp only [World.size_alloc, World.size_setCell, World.size_drew] <;> omega) | (simp <;> omega))) | (with_reducible refine PairAt.alloc ?_ _) | (with_reducible refine PairAt.draws ?_ _) | (with_reducible refine PairAt.drew1 ?_) | (with_reducible apply PairAt.put) | (with_reducible apply PairAt.put1) | (with_reducible apply PairAt.put0) | (with_reducible refine PairAt.other2 ?_ ?_ _; focus (first | omega | (simp only [World.size_alloc, World.size_setCell, World.size_drew] <;> omega) | (simp <;> omega))))) hb1)
        have B1 : Bx (Below w.heap.size w w1) := Bx.mk (Below.trans (by repeat' (first | (with_reducible exact Below.refl _ _) | (with_reducible assumption) | (with_reducible refine Below.drew ?_) | (with_reducible refine Below.alloc ?_ ?_ _) | (with_reducible refine below_draws ?_ _) | (with_reducible refine Below.setCell ?_ ?_ _) | go_size)) (hb1.mono (by go_size)))
        clear hb1
        have zB1 := B1.out.size
        have K1_1c0 := K1_1.out.c0
        have K1_1c1 := K1_1.out.c1
        have K1_1f0 := K1_1.out.f0 0
        have K1_1f1 := K1_1.out.f0 1
        have K1_1lt := K1_1.out.lt
        go_wp2_with (fail)
        have P := put_pair K1_1.out (0) (0)
        refine bodyPost_ret (v := .tuple #[.agg #[.int .i64 0, .int .i64 0], .int .i64 2]) (by simp [results, Tryd.results28, go_sem, P.1, P.2]) rfl ?_
        refine rat_out HE.out ?_
        have KBO := B1.out
        repeat' (first | (with_reducible exact Below.refl _ _) | (with_reducible assumption) | (with_reducible refine Below.drew ?_) | (with_reducible refine Below.alloc ?_ ?_ _) | (with_reducible refine below_draws ?_ _) | (with_reducible refine Below.setCell ?_ ?_ _) | go_size)
      · have HE : Bx (powE n d m = (0, 0, 2)) := Bx.mk (by have hi : inB m 0 40 = false := (by simp [inB]; omega); simp [powE, hn, hi])
        clear hn
        unfold rat at *
        have h1 : 40 < m := by omega
        go_enter Tryd.func28, Tryd.ntmps28
        go_wp2_with (fail)
        refine (hp0 _).mono ?_
        rintro r1 w1 ⟨rfl, hb1⟩
        have K1_1 : Bx (PairAt w1 (w.heap.size + 1) (0) (0)) := Bx.mk (PairAt.below (by repeat' (first | (with_reducible assumption) | (with_reducible refine PairAt.at _ _ _ _ ?_; focus (first | omega | (simp only [World.size_alloc, World.size_setCell, World.size_drew] <;> omega) | (simp <;> omega))) | (with_reducible refine PairAt.alloc ?_ _) | (with_reducible refine PairAt.draws ?_ _) | (with_reducible refine PairAt.drew1 ?_) | (with_reducible apply PairAt.put) | (with_reducible apply PairAt.put1) | (with_reducible apply PairAt.put0) | (with_reducible refine PairAt.other2 ?_ ?_ _; focus (first | omega | (simp only [World.size_alloc, World.size_setCell, World.size_drew] <;> omega) | (simp <;> omega))))) hb1)
        have B1 : Bx (Below w.heap.size w w1) := Bx.mk (Below.trans (by repeat' (first | (with_reducible exact Below.refl _ _) | (with_reducible assumption) | (with_reducible refine Below.drew ?_) | (with_reducible refine Below.alloc ?_ ?_ _) | (with_reducible refine below_draws ?_ _) | (with_reducible refine Below.setCell ?_ ?_ _) | go_size)) (hb1.mono (by go_size)))
        clear hb1
        have zB1 := B1.out.size
        have K1_1c0 := K1_1.out.c0
        have K1_1c1 := K1_1.out.c1
        have K1_1f0 := K1_1.out.f0 0
        have K1_1f1 := K1_1.out.f0 1
        have K1_1lt := K1_1.out.lt
        go_wp2_with (fail)
        have P := put_pair K1_1.out (0) (0)
        refine bodyPost_ret (v := .tuple #[.agg #[.int .i64 0, .int .i64 0], .int .i64 2]) (by simp [results, Tryd.results28, go_sem, P.1, P.2]) rfl ?_
        refine rat_out HE.out ?_
        have KBO := B1.out
        repeat' (first | (with_reducible exact Below.refl _ _) | (with_reducible assumption) | (with_reducible refine Below.drew ?_) | (with_reducible refine Below.alloc ?_ ?_ _) | (with_reducible refine below_draws ?_ _) | (with_reducible refine Below.setCell ?_ ?_ _) | go_size)
theorem cmp_ways {n d m e : Int} (hn : okR n d = true) (hm : okR m e = true) : Bx ((n = m → d = e → cmpR n d m e = 0) ∧ (¬(n = m ∧ d = e) → wrap64 (n * e) < wrap64 (m * d) → cmpR n d m e = -1) ∧ (¬(n = m ∧ d = e) → wrap64 (m * d) ≤ wrap64 (n * e) → cmpR n d m e = 1)) := by
  refine Bx.mk ?_
  obtain ⟨n1, d1, g1⟩ := okR_yes hn
  obtain ⟨m1, e1, g2⟩ := okR_yes hm
  obtain ⟨x1, x2⟩ := mul_rng n1 e1
  obtain ⟨y1, y2⟩ := mul_rng m1 d1
  have E1 : wrap64 (n * e) = n * e := IntWalk.wrap64_in _ (by omega)
  have E2 : wrap64 (m * d) = m * d := IntWalk.wrap64_in _ (by omega)
  rw [E1, E2]
  have hu : n * e = m * d → n = m ∧ d = e := fun h => by
    have := red_unique n1.1 d1.1 m1.1 e1.1 h
    rw [g1, g2] at this
    simpa using this
  unfold cmpR
  refine ⟨fun h1 h2 => ?_, fun h1 h2 => ?_, fun h1 h2 => ?_⟩
  · subst h1 h2; simp
  · rw [if_pos h2]
  · rw [if_neg (by omega)]
    rcases Int.lt_or_eq_of_le h2 with h | h
    · rw [if_pos h]
    · exact absurd (hu h.symm) h1
set_option maxHeartbeats 1000000 in
theorem impl_compare (n d m e : Int) (w : World) : Calls Tryd.prog 26 #[rat n d, rat m e] w (TwoOut (cmpE n d m e) w) := by
  have hp0 := fun W => impl_valid n d W
  have hp1 := fun W => impl_valid m e W
  cases hn : okR n d
  · have HE : Bx (cmpE n d m e = (0, 1)) := Bx.mk (by simp [cmpE, hn])
    simp only [hn] at hp0
    clear hn
    unfold rat at *
    go_enter Tryd.func26, Tryd.ntmps26
    go_wp2_with (fail)
    refine (hp0 _).mono ?_
    rintro r1 w1 ⟨rfl, hb1⟩
    have B1 : Bx (Below w.heap.size w w1) := Bx.mk (Below.trans (by repeat' (first | (with_reducible exact Below.refl _ _) | (with_reducible assumption) | (with_reducible refine Below.drew ?_) | (with_reducible refine Below.alloc ?_ ?_ _) | (with_reducible refine below_draws ?_ _) | (with_reducible refine Below.setCell ?_ ?_ _) | go_size)) (hb1.mono (by go_size)))
    clear hb1
    have zB1 := B1.out.size
    go_wp2_with (fail)
    go_returns
    refine two_out HE.out ?_
    have KBO := B1.out
    repeat' (first | (with_reducible exact Below.refl _ _) | (with_reducible assumption) | (with_reducible refine Below.drew ?_) | (with_reducible refine Below.alloc ?_ ?_ _) | (with_reducible refine below_draws ?_ _) | (with_reducible refine Below.setCell ?_ ?_ _) | go_size)
  · simp only [hn] at hp0
    cases hm : okR m e
    · have HE : Bx (cmpE n d m e = (0, 1)) := Bx.mk (by simp [cmpE, hm])
      simp only [hm] at hp1
      clear hn hm
      unfold rat at *
      go_enter Tryd.func26, Tryd.ntmps26
      go_wp2_with (fail)
      refine (hp0 _).mono ?_
      rintro r1 w1 ⟨rfl, hb1⟩
      have K1_1 : Bx (PairAt w1 (w.heap.size + 1) (m) (e)) := Bx.mk (PairAt.below (by repeat' (first | (with_reducible assumption) | (with_reducible refine PairAt.at _ _ _ _ ?_; focus (first | omega | (simp only [World.size_alloc, World.size_setCell, World.size_drew] <;> omega) | (simp <;> omega))) | (with_reducible refine PairAt.alloc ?_ _) | (with_reducible refine PairAt.draws ?_ _) | (with_reducible refine PairAt.drew1 ?_) | (with_reducible apply PairAt.put) | (with_reducible apply PairAt.put1) | (with_reducible apply PairAt.put0) | (with_reducible refine PairAt.other2 ?_ ?_ _; focus (first | omega | (simp only [World.size_alloc, World.size_setCell, World.size_drew] <;> omega) | (simp <;> omega))))) hb1)
      have B1 : Bx (Below w.heap.size w w1) := Bx.mk (Below.trans (by repeat' (first | (with_reducible exact Below.refl _ _) | (with_reducible assumption) | (with_reducible refine Below.drew ?_) | (with_reducible refine Below.alloc ?_ ?_ _) | (with_reducible refine below_draws ?_ _) | (with_reducible refine Below.setCell ?_ ?_ _) | go_size)) (hb1.mono (by go_size)))
      clear hb1
      have zB1 := B1.out.size
      have K1_1c0 := K1_1.out.c0
      have K1_1c1 := K1_1.out.c1
      have K1_1f0 := K1_1.out.f0 0
      have K1_1f1 := K1_1.out.f0 1
      have K1_1lt := K1_1.out.lt
      go_wp2_with (fail)
      refine (hp1 _).mono ?_
      rintro r2 w2 ⟨rfl, hb2⟩
      have B2 : Bx (Below w.heap.size w w2) := Bx.mk (Below.trans (by have KBO := B1.out; repeat' (first | (with_reducible exact Below.refl _ _) | (with_reducible assumption) | (with_reducible refine Below.drew ?_) | (with_reducible refine Below.alloc ?_ ?_ _) | (with_reducible refine below_draws ?_ _) | (with_reducible refine Below.setCell ?_ ?_ _) | go_size)) (hb2.mono (by go_size)))
      clear hb2
      clear K1_1c0 K1_1c1 K1_1f0 K1_1f1 K1_1lt K1_1
      clear B1 zB1
      have zB2 := B2.out.size
      go_wp2_with (fail)
      go_returns
      refine two_out HE.out ?_
      have KBO := B2.out
      repeat' (first | (with_reducible exact Below.refl _ _) | (with_reducible assumption) | (with_reducible refine Below.drew ?_) | (with_reducible refine Below.alloc ?_ ?_ _) | (with_reducible refine below_draws ?_ _) | (with_reducible refine Below.setCell ?_ ?_ _) | go_size)
    · have HE : Bx (cmpE n d m e = (cmpR n d m e, 0)) := Bx.mk (by simp [cmpE, hn, hm])
      simp only [hm] at hp1
      have HC := cmp_ways hn hm
      skip
      clear hn hm
      unfold rat at *
      go_enter Tryd.func26, Tryd.ntmps26
      go_wp2_with (fail)
      refine (hp0 _).mono ?_
      rintro r1 w1 ⟨rfl, hb1⟩
      have K1_0 : Bx (PairAt w1 w.heap.size (n) (d)) := Bx.mk (PairAt.below (by repeat' (first | (with_reducible assumption) | (with_reducible refine PairAt.at _ _ _ _ ?_; focus (first | omega | (simp only [World.size_alloc, World.size_setCell, World.size_drew] <;> omega) | (simp <;> omega))) | (with_reducible refine PairAt.alloc ?_ _) | (with_reducible refine PairAt.draws ?_ _) | (with_reducible refine PairAt.drew1 ?_) | (with_reducible apply PairAt.put) | (with_reducible apply PairAt.put1) | (with_reducible apply PairAt.put0) | (with_reducible refine PairAt.other2 ?_ ?_ _; focus (first | omega | (simp only [World.size_alloc, World.size_setCell, World.size_drew] <;> omega) | (simp <;> omega))))) hb1)
      have K1_1 : Bx (PairAt w1 (w.heap.size + 1) (m) (e)) := Bx.mk (PairAt.below (by repeat' (first | (with_reducible assumption) | (with_reducible refine PairAt.at _ _ _ _ ?_; focus (first | omega | (simp only [World.size_alloc, World.size_setCell, World.size_drew] <;> omega) | (simp <;> omega))) | (with_reducible refine PairAt.alloc ?_ _) | (with_reducible refine PairAt.draws ?_ _) | (with_reducible refine PairAt.drew1 ?_) | (with_reducible apply PairAt.put) | (with_reducible apply PairAt.put1) | (with_reducible apply PairAt.put0) | (with_reducible refine PairAt.other2 ?_ ?_ _; focus (first | omega | (simp only [World.size_alloc, World.size_setCell, World.size_drew] <;> omega) | (simp <;> omega))))) hb1)
      have B1 : Bx (Below w.heap.size w w1) := Bx.mk (Below.trans (by repeat' (first | (with_reducible exact Below.refl _ _) | (with_reducible assumption) | (with_reducible refine Below.drew ?_) | (with_reducible refine Below.alloc ?_ ?_ _) | (with_reducible refine below_draws ?_ _) | (with_reducible refine Below.setCell ?_ ?_ _) | go_size)) (hb1.mono (by go_size)))
      clear hb1
      have zB1 := B1.out.size
      have K1_0c0 := K1_0.out.c0
      have K1_0c1 := K1_0.out.c1
      have K1_0f0 := K1_0.out.f0 0
      have K1_0f1 := K1_0.out.f0 1
      have K1_0lt := K1_0.out.lt
      have K1_1c0 := K1_1.out.c0
      have K1_1c1 := K1_1.out.c1
      have K1_1f0 := K1_1.out.f0 0
      have K1_1f1 := K1_1.out.f0 1
      have K1_1lt := K1_1.out.lt
      go_wp2_with (fail)
      refine (hp1 _).mono ?_
      rintro r2 w2 ⟨rfl, hb2⟩
      have K2_0 : Bx (PairAt w2 w.heap.size (n) (d)) := Bx.mk (PairAt.below (by have QK1_0 := K1_0.out; have QK1_1 := K1_1.out; repeat' (first | (with_reducible assumption) | (with_reducible refine PairAt.at _ _ _ _ ?_; focus (first | omega | (simp only [World.size_alloc, World.size_setCell, World.size_drew] <;> omega) | (simp <;> omega))) | (with_reducible refine PairAt.alloc ?_ _) | (with_reducible refine PairAt.draws ?_ _) | (with_reducible refine PairAt.drew1 ?_) | (with_reducible apply PairAt.put) | (with_reducible apply PairAt.put1) | (with_reducible apply PairAt.put0) | (with_reducible refine PairAt.other2 ?_ ?_ _; focus (first | omega | (simp only [World.size_alloc, World.size_setCell, World.size_drew] <;> omega) | (simp <;> omega))))) hb2)
      have K2_1 : Bx (PairAt w2 (w.heap.size + 1) (m) (e)) := Bx.mk (PairAt.below (by have QK1_0 := K1_0.out; have QK1_1 := K1_1.out; repeat' (first | (with_reducible assumption) | (with_reducible refine PairAt.at _ _ _ _ ?_; focus (first | omega | (simp only [World.size_alloc, World.size_setCell, World.size_drew] <;> omega) | (simp <;> omega))) | (with_reducible refine PairAt.alloc ?_ _) | (with_reducible refine PairAt.draws ?_ _) | (with_reducible refine PairAt.drew1 ?_) | (with_reducible apply PairAt.put) | (with_reducible apply PairAt.put1) | (with_reducible apply PairAt.put0) | (with_reducible refine PairAt.other2 ?_ ?_ _; focus (first | omega | (simp only [World.size_alloc, World.size_setCell, World.size_drew] <;> omega) | (simp <;> omega))))) hb2)
      have B2 : Bx (Below w.heap.size w w2) := Bx.mk (Below.trans (by have KBO := B1.out; repeat' (first | (with_reducible exact Below.refl _ _) | (with_reducible assumption) | (with_reducible refine Below.drew ?_) | (with_reducible refine Below.alloc ?_ ?_ _) | (with_reducible refine below_draws ?_ _) | (with_reducible refine Below.setCell ?_ ?_ _) | go_size)) (hb2.mono (by go_size)))
      clear hb2
      clear K1_0c0 K1_0c1 K1_0f0 K1_0f1 K1_0lt K1_0
      clear K1_1c0 K1_1c1 K1_1f0 K1_1f1 K1_1lt K1_1
      clear B1 zB1
      have zB2 := B2.out.size
      have K2_0c0 := K2_0.out.c0
      have K2_0c1 := K2_0.out.c1
      have K2_0f0 := K2_0.out.f0 0
      have K2_0f1 := K2_0.out.f0 1
      have K2_0lt := K2_0.out.lt
      have K2_1c0 := K2_1.out.c0
      have K2_1c1 := K2_1.out.c1
      have K2_1f0 := K2_1.out.f0 0
      have K2_1f1 := K2_1.out.f0 1
      have K2_1lt := K2_1.out.lt
      go_wp2_with (fail)
      all_goals
        go_returns
        refine two_out (t := cmpE n d m e) ?_ ?_
        · rw [HE.out]
          first
          | exact congrArg (fun z => (z, 0)) (HC.out.1 (by assumption) (by assumption))
          | exact congrArg (fun z => (z, 0)) (HC.out.2.1 (by rintro ⟨h1, h2⟩; contradiction) (by first | assumption | (subst_vars; assumption)))
          | exact congrArg (fun z => (z, 0)) (HC.out.2.2 (by rintro ⟨h1, h2⟩; contradiction) (by first | assumption | (subst_vars; assumption)))
        · have KBO := B2.out; repeat' (first | (with_reducible exact Below.refl _ _) | (with_reducible assumption) | (with_reducible refine Below.drew ?_) | (with_reducible refine Below.alloc ?_ ?_ _) | (with_reducible refine below_draws ?_ _) | (with_reducible refine Below.setCell ?_ ?_ _) | go_size)
end Go.Proofs.YtdhgbincebcobaaDoor
