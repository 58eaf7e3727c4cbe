/- The model's functions of chapter 2 that hand back a ratio. -/
import Derived.Test.YtpbbbkmcmfljdaaRat
namespace Go.Proofs.Ytpbbbkmcmfljdaa
open Go.ChangeShapes Go.WideShapes Go.ChangeAt Go.RowKit
set_option linter.unusedVariables false

set_option maxHeartbeats 1000000 in
theorem spec_reduce (n d : Int) (w : World) : Calls Try.prog 14 #[.int .i64 n, .int .i64 d] w (RatOut (redR n d) w) := by
  have hp0 := fun W => in_any n 1 1000000000000 W
  have hp1 := fun W => in_any d 1 1000000000000 W
  cases hn : inB n 1 1000000000000
  · have HE : Bx (redR n d = (0, 0, 2)) := Bx.mk (by simp [redR, hn])
    simp only [hn] at hp0
    clear hn
    go_enter Try.func14, Try.ntmps14
    go_wp2_with (go_at_call 32; refine (hp0 _).mono ?_; rintro e w' ⟨rfl, rfl⟩)
    go_returns
    refine rat_out HE.out ?_
    repeat' (first | (with_reducible exact Below.refl _ _) | (with_reducible assumption) | (with_reducible refine Below.alloc ?_ ?_ _) | (with_reducible refine below_draws ?_ _) | (with_reducible refine Below.setCell ?_ ?_ _) | go_size)
  · simp only [hn] at hp0
    cases hd : inB d 1 1000000000000
    · have HE : Bx (redR n d = (0, 0, 2)) := Bx.mk (by simp [redR, hd])
      simp only [hd] at hp1
      clear hn hd
      go_enter Try.func14, Try.ntmps14
      go_wp2_with (fail)
      refine (hp0 _).mono ?_
      rintro e w' ⟨rfl, rfl⟩
      go_wp2_with (fail)
      refine (hp1 _).mono ?_
      rintro e w' ⟨rfl, rfl⟩
      go_wp2_with (fail)
      go_returns
      refine rat_out HE.out ?_
      repeat' (first | (with_reducible exact Below.refl _ _) | (with_reducible assumption) | (with_reducible refine Below.alloc ?_ ?_ _) | (with_reducible refine below_draws ?_ _) | (with_reducible refine Below.setCell ?_ ?_ _) | go_size)
    · have HE : Bx (redR n d = doneR n d) := Bx.mk (by simp [redR, hn, hd])
      simp only [hd] at hp1
      have hdone := fun W => spec_done n d W (inB_yes hn) (inB_yes hd)
      clear hn hd
      generalize doneR n d = t at HE hdone
      go_enter Try.func14, Try.ntmps14
      go_wp2_with (fail)
      refine (hp0 _).mono ?_
      rintro e w' ⟨rfl, rfl⟩
      go_wp2_with (fail)
      refine (hp1 _).mono ?_
      rintro e w' ⟨rfl, rfl⟩
      go_wp2_with (fail)
      refine (hdone _).mono ?_
      rintro r w1 ⟨rfl, hb1⟩
      obtain ⟨hc, hf⟩ := bcell hb1
      have hz : w.heap.size < w1.heap.size := by have := hb1.size; simp at this; omega
      unfold rat
      go_wp2_with (fail)
      refine bodyPost_ret (v := .tuple #[.agg #[.int .i64 t.1, .int .i64 t.2.1], .int .i64 t.2.2]) (by simp [results, Try.results14, go_sem, hc, hz]) rfl ?_
      refine rat_out HE.out ?_
      refine ((Below.trans ?_ (hb1.mono ?_)).setCell ?_ _).setCell ?_ _
      repeat' (first | (with_reducible exact Below.refl _ _) | (with_reducible assumption) | (with_reducible refine Below.alloc ?_ ?_ _) | (with_reducible refine below_draws ?_ _) | (with_reducible refine Below.setCell ?_ ?_ _) | go_size)

set_option maxHeartbeats 1000000 in
theorem spec_mul (n d m e : Int) (w : World) : Calls Try.prog 17 #[rat n d, rat m e] w (RatOut (mulR n d m e) w) := by
  cases hn : okR n d
  · have HE : Bx (mulR n d m e = (0, 0, 1)) := Bx.mk (by simp [mulR, hn])
    have hp0 := fun g W h0 h1 => spec_ok g 0 n d W h0 h1
    simp only [hn] at hp0
    clear hn
    unfold rat
    go_enter Try.func17, Try.ntmps17
    go_wp2_with (fail)
    refine (hp0 _ _ (by go_simp) (by go_simp)).mono ?_
    rintro r w' ⟨rfl, k, rfl⟩
    go_wp2_with (fail)
    go_returns
    refine rat_out HE.out ?_
    repeat' (first | (with_reducible exact Below.refl _ _) | (with_reducible assumption) | (with_reducible refine Below.alloc ?_ ?_ _) | (with_reducible refine below_draws ?_ _) | (with_reducible refine Below.setCell ?_ ?_ _) | go_size)
  · have hp0 := fun g W h0 h1 => spec_ok g 0 n d W h0 h1
    have hp1 := fun g W h0 h1 => spec_ok g 0 m e W h0 h1
    cases hd : okR m e
    · have HE : Bx (mulR n d m e = (0, 0, 1)) := Bx.mk (by simp [mulR, hd])
      simp only [hn] at hp0
      simp only [hd] at hp1
      clear hn hd
      unfold rat
      go_enter Try.func17, Try.ntmps17
      go_wp2_with (fail)
      refine (hp0 _ _ (by go_simp) (by go_simp)).mono ?_
      rintro r w' ⟨rfl, k, rfl⟩
      go_wp2_with (fail)
      refine (hp1 _ _ (by go_simp) (by go_simp)).mono ?_
      rintro r w' ⟨rfl, k2, rfl⟩
      go_wp2_with (fail)
      go_returns
      refine rat_out HE.out ?_
      repeat' (first | (with_reducible exact Below.refl _ _) | (with_reducible assumption) | (with_reducible refine Below.alloc ?_ ?_ _) | (with_reducible refine below_draws ?_ _) | (with_reducible refine Below.setCell ?_ ?_ _) | go_size)
    · obtain ⟨⟨n1, n2⟩, ⟨d1, d2⟩, _⟩ := okR_yes hn
      obtain ⟨⟨m1, m2⟩, ⟨e1, e2⟩, _⟩ := okR_yes hd
      have HE : Bx (mulR n d m e = doneR (n * m) (d * e)) := Bx.mk (by simp [mulR, hn, hd])
      obtain ⟨x1, x2⟩ := (mul_rng ⟨n1, n2⟩ ⟨m1, m2⟩ : 1 ≤ n * m ∧ n * m ≤ 1000000000000)
      obtain ⟨y1, y2⟩ := (mul_rng ⟨d1, d2⟩ ⟨e1, e2⟩ : 1 ≤ d * e ∧ d * e ≤ 1000000000000)
      have hdone := fun W => spec_done (n * m) (d * e) W ⟨x1, x2⟩ ⟨y1, y2⟩
      simp only [hn] at hp0
      simp only [hd] at hp1
      clear hn hd
      generalize doneR (n * m) (d * e) = t at HE hdone
      unfold rat
      go_enter Try.func17, Try.ntmps17
      go_wp2_with (fail)
      refine (hp0 _ _ (by go_simp) (by go_simp)).mono ?_
      rintro r w' ⟨rfl, k, rfl⟩
      go_wp2_with (fail)
      refine (hp1 _ _ (by go_simp) (by go_simp)).mono ?_
      rintro r w' ⟨rfl, k2, rfl⟩
      go_wp2_with (fail)
      refine (hdone _).mono ?_
      rintro r w1 ⟨rfl, hb1⟩
      obtain ⟨hc, hf⟩ := bcell hb1
      have hz : w.heap.size + 2 < w1.heap.size := by have := hb1.size; simp at this; omega
      unfold rat
      go_wp2_with (fail)
      refine bodyPost_ret (v := .tuple #[.agg #[.int .i64 t.1, .int .i64 t.2.1], .int .i64 t.2.2]) (by simp [results, Try.results17, go_sem, hc, hz]) rfl ?_
      refine rat_out HE.out ?_
      refine ((Below.trans ?_ (hb1.mono ?_)).setCell ?_ _).setCell ?_ _
      repeat' (first | (with_reducible exact Below.refl _ _) | (with_reducible assumption) | (with_reducible refine Below.alloc ?_ ?_ _) | (with_reducible refine below_draws ?_ _) | (with_reducible refine Below.setCell ?_ ?_ _) | go_size)

set_option maxHeartbeats 1000000 in
theorem spec_div (n d m e : Int) (w : World) : Calls Try.prog 19 #[rat n d, rat m e] w (RatOut (divR n d m e) w) := by
  cases hn : okR n d
  · have HE : Bx (divR n d m e = (0, 0, 1)) := Bx.mk (by simp [divR, hn])
    have hp0 := fun g W h0 h1 => spec_ok g 0 n d W h0 h1
    simp only [hn] at hp0
    clear hn
    unfold rat
    go_enter Try.func19, Try.ntmps19
    go_wp2_with (fail)
    refine (hp0 _ _ (by go_simp) (by go_simp)).mono ?_
    rintro r w' ⟨rfl, k, rfl⟩
    go_wp2_with (fail)
    go_returns
    refine rat_out HE.out ?_
    repeat' (first | (with_reducible exact Below.refl _ _) | (with_reducible assumption) | (with_reducible refine Below.alloc ?_ ?_ _) | (with_reducible refine below_draws ?_ _) | (with_reducible refine Below.setCell ?_ ?_ _) | go_size)
  · have hp0 := fun g W h0 h1 => spec_ok g 0 n d W h0 h1
    have hp1 := fun g W h0 h1 => spec_ok g 0 m e W h0 h1
    cases hd : okR m e
    · have HE : Bx (divR n d m e = (0, 0, 1)) := Bx.mk (by simp [divR, hd])
      simp only [hn] at hp0
      simp only [hd] at hp1
      clear hn hd
      unfold rat
      go_enter Try.func19, Try.ntmps19
      go_wp2_with (fail)
      refine (hp0 _ _ (by go_simp) (by go_simp)).mono ?_
      rintro r w' ⟨rfl, k, rfl⟩
      go_wp2_with (fail)
      refine (hp1 _ _ (by go_simp) (by go_simp)).mono ?_
      rintro r w' ⟨rfl, k2, rfl⟩
      go_wp2_with (fail)
      go_returns
      refine rat_out HE.out ?_
      repeat' (first | (with_reducible exact Below.refl _ _) | (with_reducible assumption) | (with_reducible refine Below.alloc ?_ ?_ _) | (with_reducible refine below_draws ?_ _) | (with_reducible refine Below.setCell ?_ ?_ _) | go_size)
    · obtain ⟨⟨n1, n2⟩, ⟨d1, d2⟩, _⟩ := okR_yes hn
      obtain ⟨⟨m1, m2⟩, ⟨e1, e2⟩, _⟩ := okR_yes hd
      have HE : Bx (divR n d m e = doneR (n * e) (d * m)) := Bx.mk (by simp [divR, hn, hd])
      obtain ⟨x1, x2⟩ := (mul_rng ⟨n1, n2⟩ ⟨e1, e2⟩ : 1 ≤ n * e ∧ n * e ≤ 1000000000000)
      obtain ⟨y1, y2⟩ := (mul_rng ⟨d1, d2⟩ ⟨m1, m2⟩ : 1 ≤ d * m ∧ d * m ≤ 1000000000000)
      have hdone := fun W => spec_done (n * e) (d * m) W ⟨x1, x2⟩ ⟨y1, y2⟩
      simp only [hn] at hp0
      simp only [hd] at hp1
      clear hn hd
      generalize doneR (n * e) (d * m) = t at HE hdone
      unfold rat
      go_enter Try.func19, Try.ntmps19
      go_wp2_with (fail)
      refine (hp0 _ _ (by go_simp) (by go_simp)).mono ?_
      rintro r w' ⟨rfl, k, rfl⟩
      go_wp2_with (fail)
      refine (hp1 _ _ (by go_simp) (by go_simp)).mono ?_
      rintro r w' ⟨rfl, k2, rfl⟩
      go_wp2_with (fail)
      refine (hdone _).mono ?_
      rintro r w1 ⟨rfl, hb1⟩
      obtain ⟨hc, hf⟩ := bcell hb1
      have hz : w.heap.size + 2 < w1.heap.size := by have := hb1.size; simp at this; omega
      unfold rat
      go_wp2_with (fail)
      refine bodyPost_ret (v := .tuple #[.agg #[.int .i64 t.1, .int .i64 t.2.1], .int .i64 t.2.2]) (by simp [results, Try.results19, go_sem, hc, hz]) rfl ?_
      refine rat_out HE.out ?_
      refine ((Below.trans ?_ (hb1.mono ?_)).setCell ?_ _).setCell ?_ _
      repeat' (first | (with_reducible exact Below.refl _ _) | (with_reducible assumption) | (with_reducible refine Below.alloc ?_ ?_ _) | (with_reducible refine below_draws ?_ _) | (with_reducible refine Below.setCell ?_ ?_ _) | go_size)

set_option maxHeartbeats 1000000 in
theorem spec_bet (n d m e : Int) (w : World) : Calls Try.prog 27 #[rat n d, rat m e] w (RatOut (betR n d m e) w) := by
  cases hn : okR n d
  · have HE : Bx (betR n d m e = (0, 0, 1)) := Bx.mk (by simp [betR, hn])
    have hp0 := fun g W h0 h1 => spec_ok g 0 n d W h0 h1
    simp only [hn] at hp0
    clear hn
    unfold rat
    go_enter Try.func27, Try.ntmps27
    go_wp2_with (fail)
    refine (hp0 _ _ (by go_simp) (by go_simp)).mono ?_
    rintro r w' ⟨rfl, k, rfl⟩
    go_wp2_with (fail)
    go_returns
    refine rat_out HE.out ?_
    repeat' (first | (with_reducible exact Below.refl _ _) | (with_reducible assumption) | (with_reducible refine Below.alloc ?_ ?_ _) | (with_reducible refine below_draws ?_ _) | (with_reducible refine Below.setCell ?_ ?_ _) | go_size)
  · have hp0 := fun g W h0 h1 => spec_ok g 0 n d W h0 h1
    have hp1 := fun g W h0 h1 => spec_ok g 0 m e W h0 h1
    cases hd : okR m e
    · have HE : Bx (betR n d m e = (0, 0, 1)) := Bx.mk (by simp [betR, hd])
      simp only [hn] at hp0
      simp only [hd] at hp1
      clear hn hd
      unfold rat
      go_enter Try.func27, Try.ntmps27
      go_wp2_with (fail)
      refine (hp0 _ _ (by go_simp) (by go_simp)).mono ?_
      rintro r w' ⟨rfl, k, rfl⟩
      go_wp2_with (fail)
      refine (hp1 _ _ (by go_simp) (by go_simp)).mono ?_
      rintro r w' ⟨rfl, k2, rfl⟩
      go_wp2_with (fail)
      go_returns
      refine rat_out HE.out ?_
      repeat' (first | (with_reducible exact Below.refl _ _) | (with_reducible assumption) | (with_reducible refine Below.alloc ?_ ?_ _) | (with_reducible refine below_draws ?_ _) | (with_reducible refine Below.setCell ?_ ?_ _) | go_size)
    · obtain ⟨⟨n1, n2⟩, ⟨d1, d2⟩, _⟩ := okR_yes hn
      obtain ⟨⟨m1, m2⟩, ⟨e1, e2⟩, _⟩ := okR_yes hd
      have HE : Bx (betR n d m e = doneR (n + m) (d + e)) := Bx.mk (by simp [betR, hn, hd])
      obtain ⟨x1, x2⟩ := (by omega : 1 ≤ n + m ∧ n + m ≤ 1000000000000)
      obtain ⟨y1, y2⟩ := (by omega : 1 ≤ d + e ∧ d + e ≤ 1000000000000)
      have hdone := fun W => spec_done (n + m) (d + e) W ⟨x1, x2⟩ ⟨y1, y2⟩
      simp only [hn] at hp0
      simp only [hd] at hp1
      clear hn hd
      generalize doneR (n + m) (d + e) = t at HE hdone
      unfold rat
      go_enter Try.func27, Try.ntmps27
      go_wp2_with (fail)
      refine (hp0 _ _ (by go_simp) (by go_simp)).mono ?_
      rintro r w' ⟨rfl, k, rfl⟩
      go_wp2_with (fail)
      refine (hp1 _ _ (by go_simp) (by go_simp)).mono ?_
      rintro r w' ⟨rfl, k2, rfl⟩
      go_wp2_with (fail)
      refine (hdone _).mono ?_
      rintro r w1 ⟨rfl, hb1⟩
      obtain ⟨hc, hf⟩ := bcell hb1
      have hz : w.heap.size + 2 < w1.heap.size := by have := hb1.size; simp at this; omega
      unfold rat
      go_wp2_with (fail)
      refine bodyPost_ret (v := .tuple #[.agg #[.int .i64 t.1, .int .i64 t.2.1], .int .i64 t.2.2]) (by simp [results, Try.results27, go_sem, hc, hz]) rfl ?_
      refine rat_out HE.out ?_
      refine ((Below.trans ?_ (hb1.mono ?_)).setCell ?_ _).setCell ?_ _
      repeat' (first | (with_reducible exact Below.refl _ _) | (with_reducible assumption) | (with_reducible refine Below.alloc ?_ ?_ _) | (with_reducible refine below_draws ?_ _) | (with_reducible refine Below.setCell ?_ ?_ _) | go_size)
end Go.Proofs.Ytpbbbkmcmfljdaa
