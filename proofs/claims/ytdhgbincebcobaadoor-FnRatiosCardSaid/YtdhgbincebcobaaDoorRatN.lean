/- The program's octaves. -/
import Derived.Test.YtdhgbincebcobaaDoorRatL
namespace Go.Proofs.YtdhgbincebcobaaDoor
open Go.ChangeShapes Go.WideShapes Go.ChangeAt Go.RowKit
set_option linter.unusedVariables false
set_option linter.unusedSimpArgs false
set_option maxRecDepth 100000

def InOctOut (t : Int × Int × Int) (w : World) (e : Ending) (w' : World) : Prop := e = .returned (.tuple #[rat t.1 t.2.1, .int .i64 t.2.2]) ∧ Below w.heap.size w w'
def OctRelA (n d : Int) (w : World) (x : Value) (wr : World) : Prop := ∃ den k : Int, x = .int .i64 k ∧ OctA n d den k ∧ Below w.heap.size w wr ∧ PairAt wr w.heap.size n den ∧ PairAt wr (w.heap.size + 1) 0 0
def OctRelB (n d den : Int) (w : World) (x : Value) (wr : World) : Prop := ∃ num k : Int, x = .int .i64 k ∧ OctB n d num den k ∧ Below w.heap.size w wr ∧ PairAt wr w.heap.size num den ∧ PairAt wr (w.heap.size + 1) 0 0
set_option maxHeartbeats 2000000 in
theorem impl_inoctave (n d : Int) (w : World) (hn : 1 ≤ n ∧ n ≤ 1000000) (hd : 1 ≤ d ∧ d ≤ 1000000) :
    Calls Tryd.prog 70 #[rat n d] w (InOctOut (octN n d) w) := by
  have HN := Bx.mk hn
  have HD := Bx.mk hd
  obtain ⟨n1, n2⟩ := hn
  obtain ⟨d1, d2⟩ := hd
  unfold rat
  go_enter Tryd.func70, Tryd.ntmps70
  go_wp2_with (fail)
  go_loopw [4] (fun x wr => OctRelA n d w x wr) (fun x _ => (3000000 - intOf x).toNat)
  case atStart =>
    refine ⟨d, 0, rfl, octA_start n d, ?_, ?_, ?_⟩
    · repeat' (first | (with_reducible exact Below.refl _ _) | (with_reducible assumption) | (with_reducible refine Below.drew ?_) | (with_reducible refine Below.alloc ?_ ?_ _) | (with_reducible refine below_draws ?_ _) | (with_reducible refine Below.setCell ?_ ?_ _) | go_size)
    · repeat' (first | (with_reducible assumption) | (with_reducible refine PairAt.at _ _ _ _ ?_; focus (first | omega | (simp only [World.size_alloc, World.size_setCell, World.size_drew] <;> omega) | (simp <;> omega))) | (with_reducible refine PairAt.alloc ?_ _) | (with_reducible refine PairAt.draws ?_ _) | (with_reducible refine PairAt.drew1 ?_) | (with_reducible apply PairAt.put) | (with_reducible apply PairAt.put1) | (with_reducible apply PairAt.put0) | (with_reducible refine PairAt.other2 ?_ ?_ _; focus (first | omega | (simp only [World.size_alloc, World.size_setCell, World.size_drew] <;> omega) | (simp <;> omega))))
    · repeat' (first | (with_reducible assumption) | (with_reducible refine PairAt.at _ _ _ _ ?_; focus (first | omega | (simp only [World.size_alloc, World.size_setCell, World.size_drew] <;> omega) | (simp <;> omega))) | (with_reducible refine PairAt.alloc ?_ _) | (with_reducible refine PairAt.draws ?_ _) | (with_reducible refine PairAt.drew1 ?_) | (with_reducible apply PairAt.put) | (with_reducible apply PairAt.put1) | (with_reducible apply PairAt.put0) | (with_reducible refine PairAt.other2 ?_ ?_ _; focus (first | omega | (simp only [World.size_alloc, World.size_setCell, World.size_drew] <;> omega) | (simp <;> omega))))
  case round =>
    obtain ⟨den, k, rfl, hA, hb, h0, h1⟩ := hrel
    obtain ⟨⟨p1, p2⟩, p3, p4⟩ := octA_bd hA HN.out.2 HD.out
    have HA := Bx.mk hA
    have B0 := Bx.mk hb
    have K0 := Bx.mk h0
    have K1 := Bx.mk h1
    clear hA hb h0 h1
    have zB0 := B0.out.size
    have K0c0 := K0.out.c0
    have K0c1 := K0.out.c1
    have K0f0 := K0.out.f0 0
    have K0f1 := K0.out.f0 1
    have K0lt := K0.out.lt
    have K1c0 := K1.out.c0
    have K1c1 := K1.out.c1
    have K1f0 := K1.out.f0 0
    have K1f1 := K1.out.f0 1
    have K1lt := K1.out.lt
    by_cases hlt : 2 * den ≤ n
    · go_wp2
      go_roundw
      case rel => exact ⟨den * 2, k + 1, rfl, octA_step HA.out hlt, (by have KBO := B0.out; repeat' (first | (with_reducible exact Below.refl _ _) | (with_reducible assumption) | (with_reducible refine Below.drew ?_) | (with_reducible refine Below.alloc ?_ ?_ _) | (with_reducible refine below_draws ?_ _) | (with_reducible refine Below.setCell ?_ ?_ _) | go_size)), (by have Q := K0.out; repeat' (first | (with_reducible assumption) | (with_reducible refine PairAt.at _ _ _ _ ?_; focus (first | omega | (simp only [World.size_alloc, World.size_setCell, World.size_drew] <;> omega) | (simp <;> omega))) | (with_reducible refine PairAt.alloc ?_ _) | (with_reducible refine PairAt.draws ?_ _) | (with_reducible refine PairAt.drew1 ?_) | (with_reducible apply PairAt.put) | (with_reducible apply PairAt.put1) | (with_reducible apply PairAt.put0) | (with_reducible refine PairAt.other2 ?_ ?_ _; focus (first | omega | (simp only [World.size_alloc, World.size_setCell, World.size_drew] <;> omega) | (simp <;> omega))))), (by have Q := K1.out; repeat' (first | (with_reducible assumption) | (with_reducible refine PairAt.at _ _ _ _ ?_; focus (first | omega | (simp only [World.size_alloc, World.size_setCell, World.size_drew] <;> omega) | (simp <;> omega))) | (with_reducible refine PairAt.alloc ?_ _) | (with_reducible refine PairAt.draws ?_ _) | (with_reducible refine PairAt.drew1 ?_) | (with_reducible apply PairAt.put) | (with_reducible apply PairAt.put1) | (with_reducible apply PairAt.put0) | (with_reducible refine PairAt.other2 ?_ ?_ _; focus (first | omega | (simp only [World.size_alloc, World.size_setCell, World.size_drew] <;> omega) | (simp <;> omega)))))⟩
      case measure => simp [intOf]; omega
    · have HB := Bx.mk (octB_start HA.out (by omega))
      go_wp2
      go_loopw [4] (fun x wr => OctRelB n d den w x wr) (fun x _ => (intOf x + 3000000).toNat)
      case atStart => exact ⟨n, k, rfl, HB.out, B0.out, K0.out, K1.out⟩
      case round =>
        clear K0c0 K0c1 K0f0 K0f1 K0lt K1c0 K1c1 K1f0 K1f1 K1lt K0 K1 B0 zB0
        obtain ⟨num, k, rfl, hB, hb, h0, h1⟩ := hrel
        obtain ⟨⟨q1, q2⟩, _, q3, q4⟩ := octB_bd hB HN.out HD.out
        have HB2 := Bx.mk hB
        have B0 := Bx.mk hb
        have K0 := Bx.mk h0
        have K1 := Bx.mk h1
        clear hB hb h0 h1
        have zB0 := B0.out.size
        have K0c0 := K0.out.c0
        have K0c1 := K0.out.c1
        have K0f0 := K0.out.f0 0
        have K0f1 := K0.out.f0 1
        have K0lt := K0.out.lt
        have K1c0 := K1.out.c0
        have K1c1 := K1.out.c1
        have K1f0 := K1.out.f0 0
        have K1f1 := K1.out.f0 1
        have K1lt := K1.out.lt
        by_cases hlt2 : num < den
        · go_wp2
          go_roundw
          case rel => exact ⟨num * 2, k - 1, rfl, octB_step HB2.out hlt2, (by have KBO := B0.out; repeat' (first | (with_reducible exact Below.refl _ _) | (with_reducible assumption) | (with_reducible refine Below.drew ?_) | (with_reducible refine Below.alloc ?_ ?_ _) | (with_reducible refine below_draws ?_ _) | (with_reducible refine Below.setCell ?_ ?_ _) | go_size)), (by have Q := K0.out; repeat' (first | (with_reducible assumption) | (with_reducible refine PairAt.at _ _ _ _ ?_; focus (first | omega | (simp only [World.size_alloc, World.size_setCell, World.size_drew] <;> omega) | (simp <;> omega))) | (with_reducible refine PairAt.alloc ?_ _) | (with_reducible refine PairAt.draws ?_ _) | (with_reducible refine PairAt.drew1 ?_) | (with_reducible apply PairAt.put) | (with_reducible apply PairAt.put1) | (with_reducible apply PairAt.put0) | (with_reducible refine PairAt.other2 ?_ ?_ _; focus (first | omega | (simp only [World.size_alloc, World.size_setCell, World.size_drew] <;> omega) | (simp <;> omega))))), (by have Q := K1.out; repeat' (first | (with_reducible assumption) | (with_reducible refine PairAt.at _ _ _ _ ?_; focus (first | omega | (simp only [World.size_alloc, World.size_setCell, World.size_drew] <;> omega) | (simp <;> omega))) | (with_reducible refine PairAt.alloc ?_ _) | (with_reducible refine PairAt.draws ?_ _) | (with_reducible refine PairAt.drew1 ?_) | (with_reducible apply PairAt.put) | (with_reducible apply PairAt.put1) | (with_reducible apply PairAt.put0) | (with_reducible refine PairAt.other2 ?_ ?_ _; focus (first | omega | (simp only [World.size_alloc, World.size_setCell, World.size_drew] <;> omega) | (simp <;> omega)))))⟩
          case measure => simp [intOf]; omega
        · have HE := Bx.mk (octN_eq HN.out.1 HD.out.1 (octB_end HB2.out (by omega)))
          go_wp2
          have P := put_pair K1.out num den
          refine bodyPost_ret (v := .tuple #[.agg #[.int .i64 num, .int .i64 den], .int .i64 k]) (by simp [results, Tryd.results70, go_sem, P.1, P.2]) rfl ?_
          rw [HE.out]
          refine ⟨rfl, ?_⟩
          have KBO := B0.out
          repeat' (first | (with_reducible exact Below.refl _ _) | (with_reducible assumption) | (with_reducible refine Below.drew ?_) | (with_reducible refine Below.alloc ?_ ?_ _) | (with_reducible refine below_draws ?_ _) | (with_reducible refine Below.setCell ?_ ?_ _) | go_size)
theorem inoct_open {P : Program} {f : FuncId} {args : Array Value} {t : Int × Int × Int} (h : ∀ W, Calls P f args W (InOctOut t W)) (W : World) : Calls P f args W fun e w' => e = .returned (.tuple #[.agg #[.int .i64 t.1, .int .i64 t.2.1], .int .i64 t.2.2]) ∧ Below W.heap.size W w' := h W
set_option maxHeartbeats 1000000 in
theorem impl_octaveof (n d : Int) (w : World) : Calls Tryd.prog 34 #[rat n d] w (OctEOut (octE n d) w) := by
  have hp0 := fun W => impl_valid n d W
  cases hn : okR n d
  · have HE : Bx (octE n d = ((0, 0), 0, 1)) := Bx.mk (by simp [octE, hn])
    simp only [hn] at hp0
    clear hn
    unfold rat at *
    go_enter Tryd.func34, Tryd.ntmps34
    go_wp2_with (fail)
    refine (hp0 _).mono ?_
    rintro r1 w1 ⟨rfl, hb1⟩
    have K1_1 : Bx (PairAt w1 (w.heap.size + 1) (0) (0)) := Bx.mk (PairAt.below (by repeat' (first | (with_reducible assumption) | (with_reducible refine PairAt.at _ _ _ _ ?_; focus (first | omega | (simp only [World.size_alloc, World.size_setCell, World.size_drew] <;> omega) | (simp <;> omega))) | (with_reducible refine PairAt.alloc ?_ _) | (with_reducible refine PairAt.draws ?_ _) | (with_reducible refine PairAt.drew1 ?_) | (with_reducible apply PairAt.put) | (with_reducible apply PairAt.put1) | (with_reducible apply PairAt.put0) | (with_reducible refine PairAt.other2 ?_ ?_ _; focus (first | omega | (simp only [World.size_alloc, World.size_setCell, World.size_drew] <;> omega) | (simp <;> omega))))) hb1)
    have B1 : Bx (Below w.heap.size w w1) := Bx.mk (Below.trans (by repeat' (first | (with_reducible exact Below.refl _ _) | (with_reducible assumption) | (with_reducible refine Below.drew ?_) | (with_reducible refine Below.alloc ?_ ?_ _) | (with_reducible refine below_draws ?_ _) | (with_reducible refine Below.setCell ?_ ?_ _) | go_size)) (hb1.mono (by go_size)))
    clear hb1
    have zB1 := B1.out.size
    have K1_1c0 := K1_1.out.c0
    have K1_1c1 := K1_1.out.c1
    have K1_1f0 := K1_1.out.f0 0
    have K1_1f1 := K1_1.out.f0 1
    have K1_1lt := K1_1.out.lt
    go_wp2_with (fail)
    have P := put_pair K1_1.out (0) (0)
    refine bodyPost_ret (v := .tuple #[.agg #[.int .i64 0, .int .i64 0], .int .i64 0, .int .i64 1]) (by simp [results, Tryd.results34, go_sem, P.1, P.2]) rfl ?_
    refine octe_out HE.out ?_
    have KBO := B1.out
    repeat' (first | (with_reducible exact Below.refl _ _) | (with_reducible assumption) | (with_reducible refine Below.drew ?_) | (with_reducible refine Below.alloc ?_ ?_ _) | (with_reducible refine below_draws ?_ _) | (with_reducible refine Below.setCell ?_ ?_ _) | go_size)
  · simp only [hn] at hp0
    obtain ⟨n1, d1, _⟩ := okR_yes hn
    have HP := octN_spec n1.1 d1.1
    have hio := fun W => impl_inoctave n d W n1 d1
    replace hio := inoct_open hio
    obtain ⟨⟨p1, p2⟩, ⟨p3, p4⟩, p5, p6⟩ := octP_bd HP n1 d1
    have hft := fun W => impl_fitted (octN n d).1 (octN n d).2.1 W (by omega) (by omega)
    replace hft := rat_open hft
    have HC := done_code (octN n d).1 (octN n d).2.1
    have HE : Bx (octE n d = if (doneR (octN n d).1 (octN n d).2.1).2.2 = 0 then (((doneR (octN n d).1 (octN n d).2.1).1, (doneR (octN n d).1 (octN n d).2.1).2.1), (octN n d).2.2, 0) else ((0, 0), 0, 5)) := Bx.mk (by simp [octE, hn])
    clear hn n1 d1 HP p1 p2 p3 p4 p5 p6
    generalize octN n d = t at *
    obtain ⟨num, den, kk⟩ := t
    simp only at HC hft hio HE
    rcases HC with hC | hC
    · rw [hC] at HE hft
      have HE2 : Bx (octE n d = ((num / gz num den, den / gz num den), kk, 0)) := Bx.mk (HE.out.trans (if_pos rfl))
      clear HE hC
      generalize num / gz num den = x at *
      generalize den / gz num den = y at *
      unfold rat at *
      go_enter Tryd.func34, Tryd.ntmps34
      go_wp2_with (fail)
      refine (hp0 _).mono ?_
      rintro r1 w1 ⟨rfl, hb1⟩
      have K1_0 : Bx (PairAt w1 w.heap.size (n) (d)) := Bx.mk (PairAt.below (by repeat' (first | (with_reducible assumption) | (with_reducible refine PairAt.at _ _ _ _ ?_; focus (first | omega | (simp only [World.size_alloc, World.size_setCell, World.size_drew] <;> omega) | (simp <;> omega))) | (with_reducible refine PairAt.alloc ?_ _) | (with_reducible refine PairAt.draws ?_ _) | (with_reducible refine PairAt.drew1 ?_) | (with_reducible apply PairAt.put) | (with_reducible apply PairAt.put1) | (with_reducible apply PairAt.put0) | (with_reducible refine PairAt.other2 ?_ ?_ _; focus (first | omega | (simp only [World.size_alloc, World.size_setCell, World.size_drew] <;> omega) | (simp <;> omega))))) hb1)
      have K1_1 : Bx (PairAt w1 (w.heap.size + 1) (0) (0)) := Bx.mk (PairAt.below (by repeat' (first | (with_reducible assumption) | (with_reducible refine PairAt.at _ _ _ _ ?_; focus (first | omega | (simp only [World.size_alloc, World.size_setCell, World.size_drew] <;> omega) | (simp <;> omega))) | (with_reducible refine PairAt.alloc ?_ _) | (with_reducible refine PairAt.draws ?_ _) | (with_reducible refine PairAt.drew1 ?_) | (with_reducible apply PairAt.put) | (with_reducible apply PairAt.put1) | (with_reducible apply PairAt.put0) | (with_reducible refine PairAt.other2 ?_ ?_ _; focus (first | omega | (simp only [World.size_alloc, World.size_setCell, World.size_drew] <;> omega) | (simp <;> omega))))) hb1)
      have B1 : Bx (Below w.heap.size w w1) := Bx.mk (Below.trans (by repeat' (first | (with_reducible exact Below.refl _ _) | (with_reducible assumption) | (with_reducible refine Below.drew ?_) | (with_reducible refine Below.alloc ?_ ?_ _) | (with_reducible refine below_draws ?_ _) | (with_reducible refine Below.setCell ?_ ?_ _) | go_size)) (hb1.mono (by go_size)))
      clear hb1
      have zB1 := B1.out.size
      have K1_0c0 := K1_0.out.c0
      have K1_0c1 := K1_0.out.c1
      have K1_0f0 := K1_0.out.f0 0
      have K1_0f1 := K1_0.out.f0 1
      have K1_0lt := K1_0.out.lt
      have K1_1c0 := K1_1.out.c0
      have K1_1c1 := K1_1.out.c1
      have K1_1f0 := K1_1.out.f0 0
      have K1_1f1 := K1_1.out.f0 1
      have K1_1lt := K1_1.out.lt
      go_wp2_with (fail)
      refine (hio _).mono ?_
      rintro r2 w2 ⟨rfl, hb2⟩
      have K2_1 : Bx (PairAt w2 (w.heap.size + 1) (0) (0)) := Bx.mk (PairAt.below (by have QK1_0 := K1_0.out; have QK1_1 := K1_1.out; repeat' (first | (with_reducible assumption) | (with_reducible refine PairAt.at _ _ _ _ ?_; focus (first | omega | (simp only [World.size_alloc, World.size_setCell, World.size_drew] <;> omega) | (simp <;> omega))) | (with_reducible refine PairAt.alloc ?_ _) | (with_reducible refine PairAt.draws ?_ _) | (with_reducible refine PairAt.drew1 ?_) | (with_reducible apply PairAt.put) | (with_reducible apply PairAt.put1) | (with_reducible apply PairAt.put0) | (with_reducible refine PairAt.other2 ?_ ?_ _; focus (first | omega | (simp only [World.size_alloc, World.size_setCell, World.size_drew] <;> omega) | (simp <;> omega))))) hb2)
      have B2 : Bx (Below w.heap.size w w2) := Bx.mk (Below.trans (by have KBO := B1.out; repeat' (first | (with_reducible exact Below.refl _ _) | (with_reducible assumption) | (with_reducible refine Below.drew ?_) | (with_reducible refine Below.alloc ?_ ?_ _) | (with_reducible refine below_draws ?_ _) | (with_reducible refine Below.setCell ?_ ?_ _) | go_size)) (hb2.mono (by go_size)))
      clear hb2
      clear K1_0c0 K1_0c1 K1_0f0 K1_0f1 K1_0lt K1_0
      clear K1_1c0 K1_1c1 K1_1f0 K1_1f1 K1_1lt K1_1
      clear B1 zB1
      have zB2 := B2.out.size
      have K2_1c0 := K2_1.out.c0
      have K2_1c1 := K2_1.out.c1
      have K2_1f0 := K2_1.out.f0 0
      have K2_1f1 := K2_1.out.f0 1
      have K2_1lt := K2_1.out.lt
      go_wp2_with (fail)
      have hgz : w.heap.size + 1 < w2.heap.size := K2_1.out.lt
      refine (hft _).mono ?_
      rintro r3 w3 ⟨rfl, hb3⟩
      have K3_1 : Bx (PairAt w3 (w.heap.size + 1) (0) (0)) := Bx.mk (PairAt.below (by have QK2_1 := K2_1.out; repeat' (first | (with_reducible assumption) | (with_reducible refine PairAt.at _ _ _ _ ?_; focus (first | omega | (simp only [World.size_alloc, World.size_setCell, World.size_drew] <;> omega) | (simp <;> omega))) | (with_reducible refine PairAt.alloc ?_ _) | (with_reducible refine PairAt.draws ?_ _) | (with_reducible refine PairAt.drew1 ?_) | (with_reducible apply PairAt.put) | (with_reducible apply PairAt.put1) | (with_reducible apply PairAt.put0) | (with_reducible refine PairAt.other2 ?_ ?_ _; focus (first | omega | (simp only [World.size_alloc, World.size_setCell, World.size_drew] <;> omega) | (simp <;> omega))))) hb3)
      have K3_x : Bx (PairAt w3 w2.heap.size (num) (den)) := Bx.mk (PairAt.below (by have QK2_1 := K2_1.out; repeat' (first | (with_reducible assumption) | (with_reducible refine PairAt.at _ _ _ _ ?_; focus (first | omega | (simp only [World.size_alloc, World.size_setCell, World.size_drew] <;> omega) | (simp <;> omega))) | (with_reducible refine PairAt.alloc ?_ _) | (with_reducible refine PairAt.draws ?_ _) | (with_reducible refine PairAt.drew1 ?_) | (with_reducible apply PairAt.put) | (with_reducible apply PairAt.put1) | (with_reducible apply PairAt.put0) | (with_reducible refine PairAt.other2 ?_ ?_ _; focus (first | omega | (simp only [World.size_alloc, World.size_setCell, World.size_drew] <;> omega) | (simp <;> omega))))) hb3)
      have B3 : Bx (Below w.heap.size w w3) := Bx.mk (Below.trans (by have KBO := B2.out; repeat' (first | (with_reducible exact Below.refl _ _) | (with_reducible assumption) | (with_reducible refine Below.drew ?_) | (with_reducible refine Below.alloc ?_ ?_ _) | (with_reducible refine below_draws ?_ _) | (with_reducible refine Below.setCell ?_ ?_ _) | go_size)) (hb3.mono (by go_size)))
      clear hb3
      clear K2_1c0 K2_1c1 K2_1f0 K2_1f1 K2_1lt K2_1
      clear B2 zB2
      have zB3 := B3.out.size
      have K3_1c0 := K3_1.out.c0
      have K3_1c1 := K3_1.out.c1
      have K3_1f0 := K3_1.out.f0 0
      have K3_1f1 := K3_1.out.f0 1
      have K3_1lt := K3_1.out.lt
      have K3_xc0 := K3_x.out.c0
      have K3_xc1 := K3_x.out.c1
      have K3_xf0 := K3_x.out.f0 0
      have K3_xf1 := K3_x.out.f0 1
      have K3_xlt := K3_x.out.lt
      go_wp2_with (fail)
      have P := put_pair ((K3_1.out.other (b := w2.heap.size) (o := 0) (by omega) (.int .i64 x)).other (b := w2.heap.size) (o := 1) (by omega) (.int .i64 y)) x y
      refine bodyPost_ret (v := .tuple #[.agg #[.int .i64 x, .int .i64 y], .int .i64 kk, .int .i64 0]) (by simp [results, Tryd.results34, go_sem, P.1, P.2]) rfl ?_
      refine octe_out HE2.out ?_
      have KBO := B3.out
      repeat' (first | (with_reducible exact Below.refl _ _) | (with_reducible assumption) | (with_reducible refine Below.drew ?_) | (with_reducible refine Below.alloc ?_ ?_ _) | (with_reducible refine below_draws ?_ _) | (with_reducible refine Below.setCell ?_ ?_ _) | go_size)
    · rw [hC] at HE hft
      have HE2 : Bx (octE n d = ((0, 0), 0, 5)) := Bx.mk (HE.out.trans (if_neg (by simp)))
      clear HE hC
      unfold rat at *
      go_enter Tryd.func34, Tryd.ntmps34
      go_wp2_with (fail)
      refine (hp0 _).mono ?_
      rintro r1 w1 ⟨rfl, hb1⟩
      have K1_0 : Bx (PairAt w1 w.heap.size (n) (d)) := Bx.mk (PairAt.below (by repeat' (first | (with_reducible assumption) | (with_reducible refine PairAt.at _ _ _ _ ?_; focus (first | omega | (simp only [World.size_alloc, World.size_setCell, World.size_drew] <;> omega) | (simp <;> omega))) | (with_reducible refine PairAt.alloc ?_ _) | (with_reducible refine PairAt.draws ?_ _) | (with_reducible refine PairAt.drew1 ?_) | (with_reducible apply PairAt.put) | (with_reducible apply PairAt.put1) | (with_reducible apply PairAt.put0) | (with_reducible refine PairAt.other2 ?_ ?_ _; focus (first | omega | (simp only [World.size_alloc, World.size_setCell, World.size_drew] <;> omega) | (simp <;> omega))))) hb1)
      have K1_1 : Bx (PairAt w1 (w.heap.size + 1) (0) (0)) := Bx.mk (PairAt.below (by repeat' (first | (with_reducible assumption) | (with_reducible refine PairAt.at _ _ _ _ ?_; focus (first | omega | (simp only [World.size_alloc, World.size_setCell, World.size_drew] <;> omega) | (simp <;> omega))) | (with_reducible refine PairAt.alloc ?_ _) | (with_reducible refine PairAt.draws ?_ _) | (with_reducible refine PairAt.drew1 ?_) | (with_reducible apply PairAt.put) | (with_reducible apply PairAt.put1) | (with_reducible apply PairAt.put0) | (with_reducible refine PairAt.other2 ?_ ?_ _; focus (first | omega | (simp only [World.size_alloc, World.size_setCell, World.size_drew] <;> omega) | (simp <;> omega))))) hb1)
      have B1 : Bx (Below w.heap.size w w1) := Bx.mk (Below.trans (by repeat' (first | (with_reducible exact Below.refl _ _) | (with_reducible assumption) | (with_reducible refine Below.drew ?_) | (with_reducible refine Below.alloc ?_ ?_ _) | (with_reducible refine below_draws ?_ _) | (with_reducible refine Below.setCell ?_ ?_ _) | go_size)) (hb1.mono (by go_size)))
      clear hb1
      have zB1 := B1.out.size
      have K1_0c0 := K1_0.out.c0
      have K1_0c1 := K1_0.out.c1
      have K1_0f0 := K1_0.out.f0 0
      have K1_0f1 := K1_0.out.f0 1
      have K1_0lt := K1_0.out.lt
      have K1_1c0 := K1_1.out.c0
      have K1_1c1 := K1_1.out.c1
      have K1_1f0 := K1_1.out.f0 0
      have K1_1f1 := K1_1.out.f0 1
      have K1_1lt := K1_1.out.lt
      go_wp2_with (fail)
      refine (hio _).mono ?_
      rintro r2 w2 ⟨rfl, hb2⟩
      have K2_1 : Bx (PairAt w2 (w.heap.size + 1) (0) (0)) := Bx.mk (PairAt.below (by have QK1_0 := K1_0.out; have QK1_1 := K1_1.out; repeat' (first | (with_reducible assumption) | (with_reducible refine PairAt.at _ _ _ _ ?_; focus (first | omega | (simp only [World.size_alloc, World.size_setCell, World.size_drew] <;> omega) | (simp <;> omega))) | (with_reducible refine PairAt.alloc ?_ _) | (with_reducible refine PairAt.draws ?_ _) | (with_reducible refine PairAt.drew1 ?_) | (with_reducible apply PairAt.put) | (with_reducible apply PairAt.put1) | (with_reducible apply PairAt.put0) | (with_reducible refine PairAt.other2 ?_ ?_ _; focus (first | omega | (simp only [World.size_alloc, World.size_setCell, World.size_drew] <;> omega) | (simp <;> omega))))) hb2)
      have B2 : Bx (Below w.heap.size w w2) := Bx.mk (Below.trans (by have KBO := B1.out; repeat' (first | (with_reducible exact Below.refl _ _) | (with_reducible assumption) | (with_reducible refine Below.drew ?_) | (with_reducible refine Below.alloc ?_ ?_ _) | (with_reducible refine below_draws ?_ _) | (with_reducible refine Below.setCell ?_ ?_ _) | go_size)) (hb2.mono (by go_size)))
      clear hb2
      clear K1_0c0 K1_0c1 K1_0f0 K1_0f1 K1_0lt K1_0
      clear K1_1c0 K1_1c1 K1_1f0 K1_1f1 K1_1lt K1_1
      clear B1 zB1
      have zB2 := B2.out.size
      have K2_1c0 := K2_1.out.c0
      have K2_1c1 := K2_1.out.c1
      have K2_1f0 := K2_1.out.f0 0
      have K2_1f1 := K2_1.out.f0 1
      have K2_1lt := K2_1.out.lt
      go_wp2_with (fail)
      have hgz : w.heap.size + 1 < w2.heap.size := K2_1.out.lt
      refine (hft _).mono ?_
      rintro r3 w3 ⟨rfl, hb3⟩
      have K3_1 : Bx (PairAt w3 (w.heap.size + 1) (0) (0)) := Bx.mk (PairAt.below (by have QK2_1 := K2_1.out; repeat' (first | (with_reducible assumption) | (with_reducible refine PairAt.at _ _ _ _ ?_; focus (first | omega | (simp only [World.size_alloc, World.size_setCell, World.size_drew] <;> omega) | (simp <;> omega))) | (with_reducible refine PairAt.alloc ?_ _) | (with_reducible refine PairAt.draws ?_ _) | (with_reducible refine PairAt.drew1 ?_) | (with_reducible apply PairAt.put) | (with_reducible apply PairAt.put1) | (with_reducible apply PairAt.put0) | (with_reducible refine PairAt.other2 ?_ ?_ _; focus (first | omega | (simp only [World.size_alloc, World.size_setCell, World.size_drew] <;> omega) | (simp <;> omega))))) hb3)
      have K3_x : Bx (PairAt w3 w2.heap.size (num) (den)) := Bx.mk (PairAt.below (by have QK2_1 := K2_1.out; repeat' (first | (with_reducible assumption) | (with_reducible refine PairAt.at _ _ _ _ ?_; focus (first | omega | (simp only [World.size_alloc, World.size_setCell, World.size_drew] <;> omega) | (simp <;> omega))) | (with_reducible refine PairAt.alloc ?_ _) | (with_reducible refine PairAt.draws ?_ _) | (with_reducible refine PairAt.drew1 ?_) | (with_reducible apply PairAt.put) | (with_reducible apply PairAt.put1) | (with_reducible apply PairAt.put0) | (with_reducible refine PairAt.other2 ?_ ?_ _; focus (first | omega | (simp only [World.size_alloc, World.size_setCell, World.size_drew] <;> omega) | (simp <;> omega))))) hb3)
      have B3 : Bx (Below w.heap.size w w3) := Bx.mk (Below.trans (by have KBO := B2.out; repeat' (first | (with_reducible exact Below.refl _ _) | (with_reducible assumption) | (with_reducible refine Below.drew ?_) | (with_reducible refine Below.alloc ?_ ?_ _) | (with_reducible refine below_draws ?_ _) | (with_reducible refine Below.setCell ?_ ?_ _) | go_size)) (hb3.mono (by go_size)))
      clear hb3
      clear K2_1c0 K2_1c1 K2_1f0 K2_1f1 K2_1lt K2_1
      clear B2 zB2
      have zB3 := B3.out.size
      have K3_1c0 := K3_1.out.c0
      have K3_1c1 := K3_1.out.c1
      have K3_1f0 := K3_1.out.f0 0
      have K3_1f1 := K3_1.out.f0 1
      have K3_1lt := K3_1.out.lt
      have K3_xc0 := K3_x.out.c0
      have K3_xc1 := K3_x.out.c1
      have K3_xf0 := K3_x.out.f0 0
      have K3_xf1 := K3_x.out.f0 1
      have K3_xlt := K3_x.out.lt
      go_wp2_with (fail)
      have P := put_pair ((K3_1.out.other (b := w2.heap.size) (o := 0) (by omega) (.int .i64 0)).other (b := w2.heap.size) (o := 1) (by omega) (.int .i64 0)) 0 0
      refine bodyPost_ret (v := .tuple #[.agg #[.int .i64 0, .int .i64 0], .int .i64 0, .int .i64 5]) (by simp [results, Tryd.results34, go_sem, P.1, P.2]) rfl ?_
      refine octe_out HE2.out ?_
      have KBO := B3.out
      repeat' (first | (with_reducible exact Below.refl _ _) | (with_reducible assumption) | (with_reducible refine Below.drew ?_) | (with_reducible refine Below.alloc ?_ ?_ _) | (with_reducible refine below_draws ?_ _) | (with_reducible refine Below.setCell ?_ ?_ _) | go_size)
end Go.Proofs.YtdhgbincebcobaaDoor
