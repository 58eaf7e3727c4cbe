/- The program's CompareRatios. -/
import Derived.Test.YtobhmoohalkijaaDoorRatI
import Derived.Test.YtobhmoohalkijaaDoorRatE
import Derived.Test.YtobhmoohalkijaaDoorRatP
import Derived.Test.YtobhmoohalkijaaDoorRatLaw
namespace Go.Proofs.YtobhmoohalkijaaDoor
open Go.ChangeShapes Go.WideShapes Go.ChangeAt Go.RowKit
set_option linter.unusedVariables false
set_option linter.unusedSimpArgs false
set_option maxRecDepth 100000

theorem cmp_ways {n d m e : Int} (hn : okR n d = true) (hm : okR m e = true) : Bx ((n = m → d = e → cmpR n d m e = 0) ∧ (¬(n = m ∧ d = e) → wrap64 (n * e) < wrap64 (m * d) → cmpR n d m e = -1) ∧ (¬(n = m ∧ d = e) → wrap64 (m * d) ≤ wrap64 (n * e) → cmpR n d m e = 1)) := by
  refine Bx.mk ?_
  obtain ⟨n1, d1, g1⟩ := okR_yes hn
  obtain ⟨m1, e1, g2⟩ := okR_yes hm
  obtain ⟨x1, x2⟩ := mul_rng n1 e1
  obtain ⟨y1, y2⟩ := mul_rng m1 d1
  have E1 : wrap64 (n * e) = n * e := IntWalk.wrap64_in _ (by omega)
  have E2 : wrap64 (m * d) = m * d := IntWalk.wrap64_in _ (by omega)
  rw [E1, E2]
  have hu : n * e = m * d → n = m ∧ d = e := fun h => by
    have := red_unique n1.1 d1.1 m1.1 e1.1 h
    rw [g1, g2] at this
    simpa using this
  unfold cmpR
  refine ⟨fun h1 h2 => ?_, fun h1 h2 => ?_, fun h1 h2 => ?_⟩
  · subst h1 h2; simp
  · rw [if_pos h2]
  · rw [if_neg (by omega)]
    rcases Int.lt_or_eq_of_le h2 with h | h
    · rw [if_pos h]
    · exact absurd (hu h.symm) h1
set_option maxHeartbeats 1000000 in
theorem impl_compare (n d m e : Int) (w : World) : Calls Tryd.prog 59 #[rat n d, rat m e] w (TwoOut (cmpE n d m e) w) := by
  have hp0 := fun W => impl_valid n d W
  have hp1 := fun W => impl_valid m e W
  cases hn : okR n d
  · have HE : Bx (cmpE n d m e = (0, 1)) := Bx.mk (by simp [cmpE, hn])
    simp only [hn] at hp0
    clear hn
    unfold rat at *
    go_enter Tryd.func59, Tryd.ntmps59
    go_wp2_with (fail)
    refine (hp0 _).mono ?_
    rintro r1 w1 ⟨rfl, hb1⟩
    have B1 : Bx (Below w.heap.size w w1) := Bx.mk (Below.trans (by repeat' (first | (with_reducible exact Below.refl _ _) | (with_reducible assumption) | (with_reducible refine Below.drew ?_) | (with_reducible refine Below.alloc ?_ ?_ _) | (with_reducible refine below_draws ?_ _) | (with_reducible refine Below.setCell ?_ ?_ _) | go_size)) (hb1.mono (by go_size)))
    clear hb1
    have zB1 := B1.out.size
    go_wp2_with (fail)
    go_returns
    refine two_out HE.out ?_
    have KBO := B1.out
    repeat' (first | (with_reducible exact Below.refl _ _) | (with_reducible assumption) | (with_reducible refine Below.drew ?_) | (with_reducible refine Below.alloc ?_ ?_ _) | (with_reducible refine below_draws ?_ _) | (with_reducible refine Below.setCell ?_ ?_ _) | go_size)
  · simp only [hn] at hp0
    cases hm : okR m e
    · have HE : Bx (cmpE n d m e = (0, 1)) := Bx.mk (by simp [cmpE, hm])
      simp only [hm] at hp1
      clear hn hm
      unfold rat at *
      go_enter Tryd.func59, Tryd.ntmps59
      go_wp2_with (fail)
      refine (hp0 _).mono ?_
      rintro r1 w1 ⟨rfl, hb1⟩
      have K1_1 : Bx (PairAt w1 (w.heap.size + 1) (m) (e)) := Bx.mk (PairAt.below (by repeat' (first | (with_reducible assumption) | (with_reducible refine PairAt.at _ _ _ _ ?_; focus (first | omega | (simp only [World.size_alloc, World.size_setCell, World.size_drew] <;> omega) | (simp <;> omega))) | (with_reducible refine PairAt.alloc ?_ _) | (with_reducible refine PairAt.draws ?_ _) | (with_reducible refine PairAt.drew1 ?_) | (with_reducible apply PairAt.put) | (with_reducible apply PairAt.put1) | (with_reducible apply PairAt.put0) | (with_reducible refine PairAt.other2 ?_ ?_ _; focus (first | omega | (simp only [World.size_alloc, World.size_setCell, World.size_drew] <;> omega) | (simp <;> omega))))) hb1)
      have B1 : Bx (Below w.heap.size w w1) := Bx.mk (Below.trans (by repeat' (first | (with_reducible exact Below.refl _ _) | (with_reducible assumption) | (with_reducible refine Below.drew ?_) | (with_reducible refine Below.alloc ?_ ?_ _) | (with_reducible refine below_draws ?_ _) | (with_reducible refine Below.setCell ?_ ?_ _) | go_size)) (hb1.mono (by go_size)))
      clear hb1
      have zB1 := B1.out.size
      have K1_1c0 := K1_1.out.c0
      have K1_1c1 := K1_1.out.c1
      have K1_1f0 := K1_1.out.f0 0
      have K1_1f1 := K1_1.out.f0 1
      have K1_1lt := K1_1.out.lt
      go_wp2_with (fail)
      refine (hp1 _).mono ?_
      rintro r2 w2 ⟨rfl, hb2⟩
      have B2 : Bx (Below w.heap.size w w2) := Bx.mk (Below.trans (by have KBO := B1.out; repeat' (first | (with_reducible exact Below.refl _ _) | (with_reducible assumption) | (with_reducible refine Below.drew ?_) | (with_reducible refine Below.alloc ?_ ?_ _) | (with_reducible refine below_draws ?_ _) | (with_reducible refine Below.setCell ?_ ?_ _) | go_size)) (hb2.mono (by go_size)))
      clear hb2
      clear K1_1c0 K1_1c1 K1_1f0 K1_1f1 K1_1lt K1_1
      clear B1 zB1
      have zB2 := B2.out.size
      go_wp2_with (fail)
      go_returns
      refine two_out HE.out ?_
      have KBO := B2.out
      repeat' (first | (with_reducible exact Below.refl _ _) | (with_reducible assumption) | (with_reducible refine Below.drew ?_) | (with_reducible refine Below.alloc ?_ ?_ _) | (with_reducible refine below_draws ?_ _) | (with_reducible refine Below.setCell ?_ ?_ _) | go_size)
    · have HE : Bx (cmpE n d m e = (cmpR n d m e, 0)) := Bx.mk (by simp [cmpE, hn, hm])
      simp only [hm] at hp1
      have HC := cmp_ways hn hm
      skip
      clear hn hm
      unfold rat at *
      go_enter Tryd.func59, Tryd.ntmps59
      go_wp2_with (fail)
      refine (hp0 _).mono ?_
      rintro r1 w1 ⟨rfl, hb1⟩
      have K1_0 : Bx (PairAt w1 w.heap.size (n) (d)) := Bx.mk (PairAt.below (by repeat' (first | (with_reducible assumption) | (with_reducible refine PairAt.at _ _ _ _ ?_; focus (first | omega | (simp only [World.size_alloc, World.size_setCell, World.size_drew] <;> omega) | (simp <;> omega))) | (with_reducible refine PairAt.alloc ?_ _) | (with_reducible refine PairAt.draws ?_ _) | (with_reducible refine PairAt.drew1 ?_) | (with_reducible apply PairAt.put) | (with_reducible apply PairAt.put1) | (with_reducible apply PairAt.put0) | (with_reducible refine PairAt.other2 ?_ ?_ _; focus (first | omega | (simp only [World.size_alloc, World.size_setCell, World.size_drew] <;> omega) | (simp <;> omega))))) hb1)
      have K1_1 : Bx (PairAt w1 (w.heap.size + 1) (m) (e)) := Bx.mk (PairAt.below (by repeat' (first | (with_reducible assumption) | (with_reducible refine PairAt.at _ _ _ _ ?_; focus (first | omega | (simp only [World.size_alloc, World.size_setCell, World.size_drew] <;> omega) | (simp <;> omega))) | (with_reducible refine PairAt.alloc ?_ _) | (with_reducible refine PairAt.draws ?_ _) | (with_reducible refine PairAt.drew1 ?_) | (with_reducible apply PairAt.put) | (with_reducible apply PairAt.put1) | (with_reducible apply PairAt.put0) | (with_reducible refine PairAt.other2 ?_ ?_ _; focus (first | omega | (simp only [World.size_alloc, World.size_setCell, World.size_drew] <;> omega) | (simp <;> omega))))) hb1)
      have B1 : Bx (Below w.heap.size w w1) := Bx.mk (Below.trans (by repeat' (first | (with_reducible exact Below.refl _ _) | (with_reducible assumption) | (with_reducible refine Below.drew ?_) | (with_reducible refine Below.alloc ?_ ?_ _) | (with_reducible refine below_draws ?_ _) | (with_reducible refine Below.setCell ?_ ?_ _) | go_size)) (hb1.mono (by go_size)))
      clear hb1
      have zB1 := B1.out.size
      have K1_0c0 := K1_0.out.c0
      have K1_0c1 := K1_0.out.c1
      have K1_0f0 := K1_0.out.f0 0
      have K1_0f1 := K1_0.out.f0 1
      have K1_0lt := K1_0.out.lt
      have K1_1c0 := K1_1.out.c0
      have K1_1c1 := K1_1.out.c1
      have K1_1f0 := K1_1.out.f0 0
      have K1_1f1 := K1_1.out.f0 1
      have K1_1lt := K1_1.out.lt
      go_wp2_with (fail)
      refine (hp1 _).mono ?_
      rintro r2 w2 ⟨rfl, hb2⟩
      have K2_0 : Bx (PairAt w2 w.heap.size (n) (d)) := Bx.mk (PairAt.below (by have QK1_0 := K1_0.out; have QK1_1 := K1_1.out; repeat' (first | (with_reducible assumption) | (with_reducible refine PairAt.at _ _ _ _ ?_; focus (first | omega | (simp only [World.size_alloc, World.size_setCell, World.size_drew] <;> omega) | (simp <;> omega))) | (with_reducible refine PairAt.alloc ?_ _) | (with_reducible refine PairAt.draws ?_ _) | (with_reducible refine PairAt.drew1 ?_) | (with_reducible apply PairAt.put) | (with_reducible apply PairAt.put1) | (with_reducible apply PairAt.put0) | (with_reducible refine PairAt.other2 ?_ ?_ _; focus (first | omega | (simp only [World.size_alloc, World.size_setCell, World.size_drew] <;> omega) | (simp <;> omega))))) hb2)
      have K2_1 : Bx (PairAt w2 (w.heap.size + 1) (m) (e)) := Bx.mk (PairAt.below (by have QK1_0 := K1_0.out; have QK1_1 := K1_1.out; repeat' (first | (with_reducible assumption) | (with_reducible refine PairAt.at _ _ _ _ ?_; focus (first | omega | (simp only [World.size_alloc, World.size_setCell, World.size_drew] <;> omega) | (simp <;> omega))) | (with_reducible refine PairAt.alloc ?_ _) | (with_reducible refine PairAt.draws ?_ _) | (with_reducible refine PairAt.drew1 ?_) | (with_reducible apply PairAt.put) | (with_reducible apply PairAt.put1) | (with_reducible apply PairAt.put0) | (with_reducible refine PairAt.other2 ?_ ?_ _; focus (first | omega | (simp only [World.size_alloc, World.size_setCell, World.size_drew] <;> omega) | (simp <;> omega))))) hb2)
      have B2 : Bx (Below w.heap.size w w2) := Bx.mk (Below.trans (by have KBO := B1.out; repeat' (first | (with_reducible exact Below.refl _ _) | (with_reducible assumption) | (with_reducible refine Below.drew ?_) | (with_reducible refine Below.alloc ?_ ?_ _) | (with_reducible refine below_draws ?_ _) | (with_reducible refine Below.setCell ?_ ?_ _) | go_size)) (hb2.mono (by go_size)))
      clear hb2
      clear K1_0c0 K1_0c1 K1_0f0 K1_0f1 K1_0lt K1_0
      clear K1_1c0 K1_1c1 K1_1f0 K1_1f1 K1_1lt K1_1
      clear B1 zB1
      have zB2 := B2.out.size
      have K2_0c0 := K2_0.out.c0
      have K2_0c1 := K2_0.out.c1
      have K2_0f0 := K2_0.out.f0 0
      have K2_0f1 := K2_0.out.f0 1
      have K2_0lt := K2_0.out.lt
      have K2_1c0 := K2_1.out.c0
      have K2_1c1 := K2_1.out.c1
      have K2_1f0 := K2_1.out.f0 0
      have K2_1f1 := K2_1.out.f0 1
      have K2_1lt := K2_1.out.lt
      go_wp2_with (fail)
      all_goals
        go_returns
        refine two_out (t := cmpE n d m e) ?_ ?_
        · rw [HE.out]
          first
          | exact congrArg (fun z => (z, 0)) (HC.out.1 (by assumption) (by assumption))
          | exact congrArg (fun z => (z, 0)) (HC.out.2.1 (by rintro ⟨h1, h2⟩; contradiction) (by first | assumption | (subst_vars; assumption)))
          | exact congrArg (fun z => (z, 0)) (HC.out.2.2 (by rintro ⟨h1, h2⟩; contradiction) (by first | assumption | (subst_vars; assumption)))
        · have KBO := B2.out; repeat' (first | (with_reducible exact Below.refl _ _) | (with_reducible assumption) | (with_reducible refine Below.drew ?_) | (with_reducible refine Below.alloc ?_ ?_ _) | (with_reducible refine below_draws ?_ _) | (with_reducible refine Below.setCell ?_ ?_ _) | go_size)
end Go.Proofs.YtobhmoohalkijaaDoor
