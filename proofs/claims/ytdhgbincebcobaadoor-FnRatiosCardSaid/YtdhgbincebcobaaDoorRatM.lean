/- The model's functions of chapter 2 that hand back a ratio. -/
import Derived.Test.YtdhgbincebcobaaDoorRat
namespace Go.Proofs.YtdhgbincebcobaaDoor
open Go.ChangeShapes Go.WideShapes Go.ChangeAt Go.RowKit
set_option linter.unusedVariables false
set_option linter.unusedSimpArgs false
set_option maxRecDepth 100000

set_option maxHeartbeats 1000000 in
theorem spec_reduce (n d : Int) (w : World) : Calls Tryd.prog 39 #[.int .i64 n, .int .i64 d] w (RatOut (redR n d) w) := by
  have hp0 := fun W => in_any n 1 1000000000000 W
  have hp1 := fun W => in_any d 1 1000000000000 W
  cases hn : inB n 1 1000000000000
  · have HE : Bx (redR n d = (0, 0, 2)) := Bx.mk (by simp [redR, hn])
    simp only [hn] at hp0
    clear hn
    go_enter Tryd.func39, Tryd.ntmps39
    go_wp2_with (go_at_call 76; refine (hp0 _).mono ?_; rintro e w' ⟨rfl, rfl⟩)
    go_returns
    refine rat_out HE.out ?_
    repeat' (first | (with_reducible exact Below.refl _ _) | (with_reducible assumption) | (with_reducible refine Below.alloc ?_ ?_ _) | (with_reducible refine below_draws ?_ _) | (with_reducible refine Below.setCell ?_ ?_ _) | go_size)
  · simp only [hn] at hp0
    cases hd : inB d 1 1000000000000
    · have HE : Bx (redR n d = (0, 0, 2)) := Bx.mk (by simp [redR, hd])
      simp only [hd] at hp1
      clear hn hd
      go_enter Tryd.func39, Tryd.ntmps39
      go_wp2_with (fail)
      refine (hp0 _).mono ?_
      rintro e w' ⟨rfl, rfl⟩
      go_wp2_with (fail)
      refine (hp1 _).mono ?_
      rintro e w' ⟨rfl, rfl⟩
      go_wp2_with (fail)
      go_returns
      refine rat_out HE.out ?_
      repeat' (first | (with_reducible exact Below.refl _ _) | (with_reducible assumption) | (with_reducible refine Below.alloc ?_ ?_ _) | (with_reducible refine below_draws ?_ _) | (with_reducible refine Below.setCell ?_ ?_ _) | go_size)
    · have HE : Bx (redR n d = doneR n d) := Bx.mk (by simp [redR, hn, hd])
      simp only [hd] at hp1
      have hdone := fun W => spec_done n d W (inB_yes hn) (inB_yes hd)
      clear hn hd
      generalize doneR n d = t at HE hdone
      go_enter Tryd.func39, Tryd.ntmps39
      go_wp2_with (fail)
      refine (hp0 _).mono ?_
      rintro e w' ⟨rfl, rfl⟩
      go_wp2_with (fail)
      refine (hp1 _).mono ?_
      rintro e w' ⟨rfl, rfl⟩
      go_wp2_with (fail)
      refine (hdone _).mono ?_
      rintro r w1 ⟨rfl, hb1⟩
      obtain ⟨hc, hf⟩ := bcell hb1
      have hz : w.heap.size < w1.heap.size := by have := hb1.size; simp at this; omega
      unfold rat
      go_wp2_with (fail)
      refine bodyPost_ret (v := .tuple #[.agg #[.int .i64 t.1, .int .i64 t.2.1], .int .i64 t.2.2]) (by simp [results, Tryd.results39, go_sem, hc, hz]) rfl ?_
      refine rat_out HE.out ?_
      refine ((Below.trans ?_ (hb1.mono ?_)).setCell ?_ _).setCell ?_ _
      repeat' (first | (with_reducible exact Below.refl _ _) | (with_reducible assumption) | (with_reducible refine Below.alloc ?_ ?_ _) | (with_reducible refine below_draws ?_ _) | (with_reducible refine Below.setCell ?_ ?_ _) | go_size)

end Go.Proofs.YtdhgbincebcobaaDoor
