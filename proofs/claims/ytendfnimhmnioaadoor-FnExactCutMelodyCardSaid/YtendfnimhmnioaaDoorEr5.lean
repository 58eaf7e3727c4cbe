/- The writer of melodies: writing a note. -/
import Derived.Test.YtendfnimhmnioaaDoorEr4
namespace Go.Proofs.YtendfnimhmnioaaDoor
open Go.ChangeShapes Go.WideShapes Go.ChangeAt Go.RowKit
set_option linter.unusedVariables false
set_option linter.unusedSimpArgs false
set_option maxRecDepth 100000

set_option maxHeartbeats 2000000 in
theorem write_bad (g base : Nat) (l : List (Int × Int)) (q : Option Addr) (a b : Addr) (p n : Int) (w : World) (h : WrAt w g base l q) (he : Er w a b) (hq : q = none ∨ q = some a) (hn : okN (p, n) = false) :
    Calls Tryd.prog 47 #[.pointer (some ⟨g, 0, none⟩), nt p n] w fun e w' => (∃ v, e = .returned v) ∧ WrAt w' g base l (some a) ∧ Stp g base w w' := by
  have hc := fun W => impl_isnote p n W
  rw [hn] at hc
  have hb : Below w.heap.size w (w.alloc (.cells #[.int .i64 p, .int .i64 n] 45)) := (Below.refl _ _).alloc (Nat.le_refl _) _
  have HB := Bx.mk hb
  have HW := Bx.mk h
  have HE := Bx.mk he
  clear h he hb hn
  unfold nt at *
  go_enter Tryd.func47, Tryd.ntmps47
  go_wp2_with (fail)
  refine (hc _).mono ?_
  rintro e w1 ⟨rfl, hb1⟩
  have B1 := Bx.mk (HB.out.trans (hb1.mono HB.out.size))
  have W1 := Bx.mk (HW.out.below B1.out)
  have E1 := Bx.mk (HE.out.below B1.out)
  clear hb1 hc
  have g0 := E1.out.g0
  have hf := impl_fail g base l q a w1 W1.out hq
  unfold erV at *
  go_wp2_with (fail)
  refine hf.mono ?_
  rintro e w2 ⟨⟨v, rfl⟩, hw2, hs2⟩
  have R := Bx.mk (And.intro hw2 ((Stp.of_below HW.out.lt B1.out).trans hs2))
  clear hw2 hs2 hf g0
  go_wp2_with (fail)
  go_end0
  exact ⟨⟨_, rfl⟩, R.out.1, R.out.2⟩
set_option maxHeartbeats 2000000 in
theorem write_full (g base : Nat) (l : List (Int × Int)) (q : Option Addr) (a b : Addr) (p n : Int) (w : World) (h : WrAt w g base l q) (he : Er w a b) (hq : q = none ∨ q = some b) (hn : okN (p, n) = true) (hl : l.length = 48) :
    Calls Tryd.prog 47 #[.pointer (some ⟨g, 0, none⟩), nt p n] w fun e w' => (∃ v, e = .returned v) ∧ WrAt w' g base l (some b) ∧ Stp g base w w' := by
  have hc := fun W => impl_isnote p n W
  rw [hn] at hc
  have hb : Below w.heap.size w (w.alloc (.cells #[.int .i64 p, .int .i64 n] 45)) := (Below.refl _ _).alloc (Nat.le_refl _) _
  have HB := Bx.mk hb
  have HW := Bx.mk h
  have HE := Bx.mk he
  have HL := Bx.mk hl
  clear h he hb hn hl
  unfold nt at *
  go_enter Tryd.func47, Tryd.ntmps47
  go_wp2_with (fail)
  refine (hc _).mono ?_
  rintro e w1 ⟨rfl, hb1⟩
  have B1 := Bx.mk (HB.out.trans (hb1.mono HB.out.size))
  have W1 := Bx.mk (HW.out.below B1.out)
  have E1 := Bx.mk (HE.out.below B1.out)
  clear hb1 hc
  have g1 := E1.out.g1
  have hf := impl_fail g base l q b w1 W1.out hq
  obtain ⟨sl, r, h1, h2, h3⟩ := W1.out.ex
  obtain ⟨A, c, rfl⟩ := own_len h2
  rw [HL.out] at h1
  have y0 := h1.c (k := 0) rfl
  have yl := h1.lt
  clear h1 h2 h3
  unfold erV at *
  go_wp2_with (fail)
  refine hf.mono ?_
  rintro e w2 ⟨⟨v, rfl⟩, hw2, hs2⟩
  have R := Bx.mk (And.intro hw2 ((Stp.of_below HW.out.lt B1.out).trans hs2))
  clear hw2 hs2 hf g1 y0 yl
  go_wp2_with (fail)
  go_end0
  exact ⟨⟨_, rfl⟩, R.out.1, R.out.2⟩
/-- a slice stored into the writer's box -/
theorem stp_app {g base : Nat} {w w1 w6 : World} {sl r sl6 : Value} {o : Obj} {n : Nat} {xs ys : List Value} (hx : BoxN w g #[sl, r] 55) (ho : w.ownsRow base 45 2 sl n xs) (h1 : w1 = w.alloc o) (hg : w1.grownBy w6 sl.ownBlock) (ho6 : w6.ownsRow base 45 2 sl6 (n + 1) ys)
    (hat : sl.ownBlock = sl6.ownBlock ∨ ∃ k, sl6.ownBlock = some k ∧ w.heap.size ≤ k) : Stp g base w (w6.setCell ⟨g, 0, none⟩ sl6) := by
  have hb1 : Below w.heap.size w w1 := by rw [h1]; exact (Below.refl _ _).alloc (Nat.le_refl _) _
  have hx1 := hx.below hb1
  have ho1 := own_below ho hb1
  have hx6 := hx1.grownE hg (box_ne_rowE ho1 hx1 (by decide))
  have hx7 := hx6.put 0 sl6
  have c0 := hx.c (k := 0) rfl
  have c7 := hx7.c (k := 0) rfl
  have h67 : ∀ k, k ≠ g → (w6.setCell ⟨g, 0, none⟩ sl6).heap[k]? = w6.heap[k]? := fun k hk => Below.heap_setCell _ _ _ _ hk
  have hs7 : (w6.setCell ⟨g, 0, none⟩ sl6).heap.size = w6.heap.size := by simp [World.setCell]
  have hkk : ∀ k o', w.heap[k]? = some o' → k ≠ g → sl.ownBlock ≠ some k → (w6.setCell ⟨g, 0, none⟩ sl6).heap[k]? = some o' := fun k o' hk h2 h3 => by
    have hlt := (Array.getElem?_eq_some_iff.1 hk).1
    have hlt1 := Nat.lt_of_lt_of_le hlt hb1.size
    rw [h67 k h2, hg.block k hlt1 (fun e => h3 e.symm), hb1.block k hlt, hk]
  have hX7 : ∀ k, XB (some g) (w6.setCell ⟨g, 0, none⟩ sl6) k → k = g ∨ sl6.ownBlock = some k := fun k hk => by
    rcases hk with h | ⟨v, hv, hk⟩
    · exact .inl h
    · rw [c7] at hv
      injection hv with hv
      subst hv
      exact .inr hk
  refine ⟨fun n₀ hn1 hn2 => ⟨?_, fun k o' hk hc hnx => ?_, fun k hk => ?_, fun hh k hk => ?_⟩, ⟨?_, fun k o' hk hc => ?_⟩⟩
  · refine Below.setCell ?_ (p := ⟨g, 0, none⟩) hn1 sl6
    refine (hb1.mono (Nat.le_trans hn1 (Nat.le_of_lt hx.lt))).grown hg (Nat.le_trans (Nat.le_trans hn1 (Nat.le_of_lt hx.lt)) hb1.size) (fun k hk => Nat.le_trans hn2 (own_lo ho k hk))
  · exact hkk k o' hk (fun e => hnx (.inl e)) (fun e => hnx (.inr ⟨sl, c0, e⟩))
  · rcases hX7 k hk with h | h
    · exact .inl (.inl h)
    · rcases hat with e | ⟨j, e, hj⟩
      · exact .inl (.inr ⟨sl, c0, by rw [e]; exact h⟩)
      · rw [e] at h; injection h with h; subst h; exact .inr hj
  · rw [hs7]
    rcases hX7 k hk with h | h
    · subst h; exact hx6.lt
    · exact (ho6.lt k h).2
  · rw [hs7]; exact Nat.le_trans hb1.size hg.size
  · refine hkk k o' hk ?_ ?_
    · rintro rfl
      unfold BoxN at hx
      rw [hx] at hk; injection hk with hk; subst hk; cases hc
    · intro e
      rcases ho.2 with ⟨hv, _⟩ | ⟨j, cap, cur, hv, _, hj, _⟩
      · rw [hv] at e; simp [Value.ownBlock] at e
      · rw [hv] at e
        simp [Value.ownBlock] at e
        subst e
        rw [hj] at hk; injection hk with hk; subst hk; cases hc
end Go.Proofs.YtendfnimhmnioaaDoor
