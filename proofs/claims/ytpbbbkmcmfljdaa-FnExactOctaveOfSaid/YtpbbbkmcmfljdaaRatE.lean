/- The model's CompareRatios, CentsOf, OctaveOf. -/
import Derived.Test.YtpbbbkmcmfljdaaRatC
namespace Go.Proofs.Ytpbbbkmcmfljdaa
open Go.ChangeShapes Go.WideShapes Go.ChangeAt Go.RowKit
set_option linter.unusedVariables false

def cmpE (n d m e : Int) : Int × Int := if (okR n d && okR m e) = true then (cmpR n d m e, 0) else (0, 1)
/-- what hands back two numbers -/
def TwoOut (t : Int × Int) (w : World) (e : Ending) (w' : World) : Prop := e = .returned (.tuple #[.int .i64 t.1, .int .i64 t.2]) ∧ Below w.heap.size w w'
theorem two_out {t : Int × Int} {w w' : World} {n c : Int} (h : t = (n, c)) (hb : Below w.heap.size w w') : TwoOut t w (.returned (.tuple #[.int .i64 n, .int .i64 c])) w' := by
  subst h; exact ⟨rfl, hb⟩
set_option maxHeartbeats 1000000 in
theorem spec_compare (n d m e : Int) (w : World) : Calls Try.prog 23 #[rat n d, rat m e] w (TwoOut (cmpE n d m e) w) := by
  cases hn : okR n d
  · have HE : Bx (cmpE n d m e = (0, 1)) := Bx.mk (by simp [cmpE, hn])
    have hp0 := fun g W h0 h1 => spec_ok g 0 n d W h0 h1
    simp only [hn] at hp0
    clear hn
    unfold rat
    go_enter Try.func23, Try.ntmps23
    go_wp2_with (fail)
    refine (hp0 _ _ (by go_simp) (by go_simp)).mono ?_
    rintro r w' ⟨rfl, k, rfl⟩
    go_wp2_with (fail)
    go_returns
    refine two_out HE.out ?_
    repeat' (first | (with_reducible exact Below.refl _ _) | (with_reducible assumption) | (with_reducible refine Below.alloc ?_ ?_ _) | (with_reducible refine below_draws ?_ _) | (with_reducible refine Below.setCell ?_ ?_ _) | go_size)
  · have hp0 := fun g W h0 h1 => spec_ok g 0 n d W h0 h1
    have hp1 := fun g W h0 h1 => spec_ok g 0 m e W h0 h1
    cases hd : okR m e
    · have HE : Bx (cmpE n d m e = (0, 1)) := Bx.mk (by simp [cmpE, hd])
      simp only [hn] at hp0
      simp only [hd] at hp1
      clear hn hd
      unfold rat
      go_enter Try.func23, Try.ntmps23
      go_wp2_with (fail)
      refine (hp0 _ _ (by go_simp) (by go_simp)).mono ?_
      rintro r w' ⟨rfl, k, rfl⟩
      go_wp2_with (fail)
      refine (hp1 _ _ (by go_simp) (by go_simp)).mono ?_
      rintro r w' ⟨rfl, k2, rfl⟩
      go_wp2_with (fail)
      go_returns
      refine two_out HE.out ?_
      repeat' (first | (with_reducible exact Below.refl _ _) | (with_reducible assumption) | (with_reducible refine Below.alloc ?_ ?_ _) | (with_reducible refine below_draws ?_ _) | (with_reducible refine Below.setCell ?_ ?_ _) | go_size)
    · obtain ⟨n1, d1, _⟩ := okR_yes hn
      obtain ⟨m1, e1, _⟩ := okR_yes hd
      have HE : Bx (cmpE n d m e = (cmpR n d m e, 0)) := Bx.mk (by simp [cmpE, hn, hd])
      have hcmp := fun g h W a0 a1 b0 b1 => spec_cmp0 g h 0 0 n d m e W a0 a1 b0 b1 n1 d1 m1 e1
      simp only [hn] at hp0
      simp only [hd] at hp1
      clear hn hd n1 d1 m1 e1
      generalize cmpR n d m e = c at HE hcmp
      unfold rat
      go_enter Try.func23, Try.ntmps23
      go_wp2_with (fail)
      refine (hp0 _ _ (by go_simp) (by go_simp)).mono ?_
      rintro r w' ⟨rfl, k, rfl⟩
      go_wp2_with (fail)
      refine (hp1 _ _ (by go_simp) (by go_simp)).mono ?_
      rintro r w' ⟨rfl, k2, rfl⟩
      go_wp2_with (fail)
      refine (hcmp _ _ _ (by go_simp) (by go_simp) (by go_simp) (by go_simp)).mono ?_
      rintro r w' ⟨rfl, k3, rfl⟩
      go_wp2_with (fail)
      go_returns
      refine two_out HE.out ?_
      repeat' (first | (with_reducible exact Below.refl _ _) | (with_reducible assumption) | (with_reducible refine Below.alloc ?_ ?_ _) | (with_reducible refine below_draws ?_ _) | (with_reducible refine Below.setCell ?_ ?_ _) | go_size)

noncomputable def centE (n d : Int) : Int × Int := if okR n d = true then (centsZ n d, 0) else (0, 1)
/-- a ratio within an octave, how many octaves it was away, and a code -/
noncomputable def octE (n d : Int) : (Int × Int) × Int × Int := if okR n d = true then (if (doneR (octN n d).1 (octN n d).2.1).2.2 = 0 then (((doneR (octN n d).1 (octN n d).2.1).1, (doneR (octN n d).1 (octN n d).2.1).2.1), (octN n d).2.2, 0) else ((0, 0), 0, 5)) else ((0, 0), 0, 1)
def OctEOut (t : (Int × Int) × Int × Int) (w : World) (e : Ending) (w' : World) : Prop := e = .returned (.tuple #[rat t.1.1 t.1.2, .int .i64 t.2.1, .int .i64 t.2.2]) ∧ Below w.heap.size w w'
theorem octe_out {t : (Int × Int) × Int × Int} {w w' : World} {n d k c : Int} (h : t = ((n, d), k, c)) (hb : Below w.heap.size w w') : OctEOut t w (.returned (.tuple #[.agg #[.int .i64 n, .int .i64 d], .int .i64 k, .int .i64 c])) w' := by
  subst h; exact ⟨rfl, hb⟩
theorem done_code (n d : Int) : (doneR n d = (n / gz n d, d / gz n d, 0)) ∨ doneR n d = (0, 0, 5) := by
  unfold doneR; split <;> simp
set_option maxHeartbeats 1000000 in
theorem spec_octaveof (n d : Int) (w : World) : Calls Try.prog 25 #[rat n d] w (OctEOut (octE n d) w) := by
  have hp0 := fun g W h0 h1 => spec_ok g 0 n d W h0 h1
  cases hn : okR n d
  · have HE : Bx (octE n d = ((0, 0), 0, 1)) := Bx.mk (by simp [octE, hn])
    simp only [hn] at hp0
    clear hn
    unfold rat
    go_enter Try.func25, Try.ntmps25
    go_wp2_with (fail)
    refine (hp0 _ _ (by go_simp) (by go_simp)).mono ?_
    rintro r w' ⟨rfl, k, rfl⟩
    go_wp2_with (fail)
    go_returns
    refine octe_out HE.out ?_
    repeat' (first | (with_reducible exact Below.refl _ _) | (with_reducible assumption) | (with_reducible refine Below.alloc ?_ ?_ _) | (with_reducible refine below_draws ?_ _) | (with_reducible refine Below.setCell ?_ ?_ _) | go_size)
  · obtain ⟨n1, d1, _⟩ := okR_yes hn
    have HO := fun g W a0 a1 => spec_octave g 0 n d W a0 a1 n1 d1
    have HP := octN_spec n1.1 d1.1
    obtain ⟨⟨p1, p2⟩, ⟨p3, p4⟩, p5, p6⟩ := octP_bd HP n1 d1
    have HD := fun W => spec_done (octN n d).1 (octN n d).2.1 W (by omega) (by omega)
    have HC := done_code (octN n d).1 (octN n d).2.1
    have HE : Bx (octE n d = if (doneR (octN n d).1 (octN n d).2.1).2.2 = 0 then (((doneR (octN n d).1 (octN n d).2.1).1, (doneR (octN n d).1 (octN n d).2.1).2.1), (octN n d).2.2, 0) else ((0, 0), 0, 5)) := Bx.mk (by simp [octE, hn])
    simp only [hn] at hp0
    clear hn n1 d1 HP p1 p2 p3 p4 p5 p6
    generalize octN n d = t at *
    obtain ⟨num, den, kk⟩ := t
    simp only at HC HD HE
    rcases HC with hC | hC
    · rw [hC] at HE HD
      have HE2 : Bx (octE n d = ((num / gz num den, den / gz num den), kk, 0)) := Bx.mk (HE.out.trans (if_pos rfl))
      clear HE hC
      generalize num / gz num den = x at *
      generalize den / gz num den = y at *
      unfold rat
      go_enter Try.func25, Try.ntmps25
      go_wp2_with (fail)
      refine (hp0 _ _ (by go_simp) (by go_simp)).mono ?_
      rintro r w' ⟨rfl, k, rfl⟩
      go_wp2_with (fail)
      refine (HO _ _ (by go_simp) (by go_simp)).mono ?_
      rintro r w' ⟨rfl, k2, rfl⟩
      go_wp2_with (fail)
      refine (HD _).mono ?_
      rintro r w1 ⟨rfl, hb1⟩
      obtain ⟨hc, hf⟩ := bcell hb1
      have hz : w.heap.size + 1 < w1.heap.size := by have := hb1.size; simp at this; omega
      unfold rat
      go_wp2_with (fail)
      refine bodyPost_ret (v := .tuple #[.agg #[.int .i64 x, .int .i64 y], .int .i64 kk, .int .i64 0]) (by simp [results, Try.results25, go_sem, hc, hz]) rfl ?_
      refine octe_out HE2.out ?_
      refine (((Below.trans ?_ (hb1.mono ?_)).setCell ?_ _).setCell ?_ _).alloc ?_ _
      repeat' (first | (with_reducible exact Below.refl _ _) | (with_reducible assumption) | (with_reducible refine Below.alloc ?_ ?_ _) | (with_reducible refine below_draws ?_ _) | (with_reducible refine Below.setCell ?_ ?_ _) | go_size)
    · rw [hC] at HE HD
      have HE2 : Bx (octE n d = ((0, 0), 0, 5)) := Bx.mk (HE.out.trans (if_neg (by simp)))
      clear HE hC
      unfold rat
      go_enter Try.func25, Try.ntmps25
      go_wp2_with (fail)
      refine (hp0 _ _ (by go_simp) (by go_simp)).mono ?_
      rintro r w' ⟨rfl, k, rfl⟩
      go_wp2_with (fail)
      refine (HO _ _ (by go_simp) (by go_simp)).mono ?_
      rintro r w' ⟨rfl, k2, rfl⟩
      go_wp2_with (fail)
      refine (HD _).mono ?_
      rintro r w1 ⟨rfl, hb1⟩
      obtain ⟨hc, hf⟩ := bcell hb1
      have hz : w.heap.size + 1 < w1.heap.size := by have := hb1.size; simp at this; omega
      unfold rat
      go_wp2_with (fail)
      refine bodyPost_ret (v := .tuple #[.agg #[.int .i64 0, .int .i64 0], .int .i64 0, .int .i64 5]) (by simp [results, Try.results25, go_sem, hc, hz]) rfl ?_
      refine octe_out HE2.out ?_
      refine (((Below.trans ?_ (hb1.mono ?_)).setCell ?_ _).setCell ?_ _).alloc ?_ _
      repeat' (first | (with_reducible exact Below.refl _ _) | (with_reducible assumption) | (with_reducible refine Below.alloc ?_ ?_ _) | (with_reducible refine below_draws ?_ _) | (with_reducible refine Below.setCell ?_ ?_ _) | go_size)
end Go.Proofs.Ytpbbbkmcmfljdaa
