/- The writer of melodies: a note that is kept; what was written. -/
import Derived.Test.YtendfnimhmnioaaDoorEr5
namespace Go.Proofs.YtendfnimhmnioaaDoor
open Go.ChangeShapes Go.WideShapes Go.ChangeAt Go.RowKit
set_option linter.unusedVariables false
set_option linter.unusedSimpArgs false
set_option maxRecDepth 100000

theorem WrAt.xb {W : World} {g base : Nat} {l : List (Int × Int)} {q : Option Addr} (h : WrAt W g base l q) (k : Nat) (hk : XB (some g) W k) : k < W.heap.size := by
  obtain ⟨sl, r, h1, h2, h3⟩ := h.ex
  rcases hk with rfl | ⟨v, hv, hk⟩
  · exact h1.lt
  · rw [h1.c (k := 0) rfl] at hv
    injection hv with hv
    subst hv
    exact (h2.lt k hk).2
/-- a block that was made anew is not the writer's -/
theorem WrAt.new {W : World} {g base : Nat} {l : List (Int × Int)} {q : Option Addr} (h : WrAt W g base l q) (o : Obj) : ¬ XB (some g) (W.alloc o) W.heap.size := fun hk => by
  have hb : Below W.heap.size W (W.alloc o) := (Below.refl _ _).alloc (Nat.le_refl _) _
  have := h.xb W.heap.size ((xb_same (fun j hj => by injection hj with hj; subst hj; exact hb.block g h.lt)).1 hk)
  omega
/-- a box that is not the writer's stands through a step -/
theorem Stp.box {g base gn : Nat} {w w' : World} {xs : Array Value} {t : TypeId} (h : Stp g base w w') (hn : BoxN w gn xs t) (hx : ¬ XB (some g) w gn) : BoxN w' gn xs t :=
  (h.kp 0 (Nat.zero_le _) (Nat.zero_le _)).kept gn _ hn rfl hx
theorem rs_grown {W W' : World} {v sl : Value} {q : Option Addr} {base n : Nat} {xs : List Value} (h : RsAt W v q) (ho : W.ownsRow base 45 2 sl n xs) (hg : W.grownBy W' sl.ownBlock) : RsAt W' v q := by
  cases q with
  | none => exact h
  | some x =>
    obtain ⟨j, e, k, c, cs, h1, h2, h3⟩ := h
    exact ⟨j, e, k, c, cs, h1.grownE hg (box_ne_rowE ho h1 (by decide)), h2.grownE hg (box_ne_rowE ho h2 (by decide)), h3⟩
set_option maxHeartbeats 4000000 in
theorem write_ok (g base : Nat) (l : List (Int × Int)) (q : Option Addr) (p n : Int) (w : World) (h : WrAt w g base l q) (hbs : base ≤ w.heap.size) (hn : okN (p, n) = true) (hl : l.length < 48) :
    Calls Tryd.prog 47 #[.pointer (some ⟨g, 0, none⟩), nt p n] w fun e w' => (∃ v, e = .returned v) ∧ WrAt w' g base (l ++ [(p, n)]) q ∧ Stp g base w w' := by
  obtain ⟨i0, hi, hz0, hz1, hz2⟩ := info_parts infoNoteL
  have hc := fun W => impl_isnote p n W
  rw [hn] at hc
  have hb : Below w.heap.size w (w.alloc (.cells #[.int .i64 p, .int .i64 n] 45)) := (Below.refl _ _).alloc (Nat.le_refl _) _
  have hN := BoxN.at w w.heap.size #[.int .i64 p, .int .i64 n] 45 rfl
  have HB := Bx.mk hb
  have HN := Bx.mk hN
  have HW := Bx.mk h
  have HL := Bx.mk hl
  clear h hb hn hl hN
  unfold nt at *
  go_enter Tryd.func47, Tryd.ntmps47
  go_wp2_with (fail)
  refine (hc _).mono ?_
  rintro e w1 ⟨rfl, hb1⟩
  have B1 := Bx.mk (HB.out.trans (hb1.mono HB.out.size))
  have W1 := Bx.mk (HW.out.below B1.out)
  have N1 := Bx.mk (HN.out.below hb1)
  clear hb1 hc
  obtain ⟨sl, r, h1, h2, h3⟩ := W1.out.ex
  obtain ⟨A, c, rfl⟩ := own_len h2
  have X1 := Bx.mk h1
  have O1 := Bx.mk h2
  have R1 := Bx.mk h3
  have dl : ((l.length : Int) == 48) = false := beq_false_of_ne (by have := HL.out; omega)
  have n0 := N1.out.c (k := 0) rfl
  have n1 := N1.out.c (k := 1) rfl
  have nl := N1.out.lt
  have y0 := h1.c (k := 0) rfl
  have yf := h1.fr 0
  have yl := h1.lt
  have hb1 : base ≤ w1.heap.size := Nat.le_trans hbs B1.out.size
  clear h1 h2 h3
  go_wp2_with (fail)
  have y0 : w1.drew.cell? ⟨g, 0, none⟩ = some (.slice A l.length c) := X1.out.c (k := 0) rfl
  have n0 : w1.drew.cell? ⟨w.heap.size, 0, none⟩ = some (.int .i64 p) := N1.out.c (k := 0) rfl
  have n1 : w1.drew.cell? ⟨w.heap.size, 1, none⟩ = some (.int .i64 n) := N1.out.c (k := 1) rfl
  go_region_law ((refine step_append_lies _ (by rfl) _ _ _ (by rfl) base 45 i0 _ 2 16 Tryd.underlying51 hi hz0 hz1 hz2 (by rfl) (by omega) _ _ _ (by rfl) (World.ownsRow.alloc (show w1.drew.ownsRow _ _ _ _ _ _ from O1.out) _) ⟨w1.heap.size, 0, none⟩ 1 1 [.int .i64 p, .int .i64 n] (by rfl) (by rfl) (World.news_of_block (cs := #[.int .i64 p, .int .i64 n]) (t := 45) (fr := (0, 0)) (heap_alloc_new w1.drew _)) (by simp [Value.oneCell']) (by omega) (by have := HL.out; unfold maxLen; omega) (by have := HL.out; omega) (by simp; omega) (w1.heap.size + 1) (by simp) ?_; intro gg cap w6 hown6 hgrow hat hlt6; have HO6 := Bx.mk hown6; have HG6 := Bx.mk hgrow; have HA6 := Bx.mk hat; have hx6 := (BoxN.alloc (show BoxN w1.drew g _ _ from X1.out) (.cells #[.int .i64 p, .int .i64 n] 45)).grownE hgrow (box_ne_rowE (World.ownsRow.alloc (show w1.drew.ownsRow _ _ _ _ _ _ from O1.out) (.cells #[.int .i64 p, .int .i64 n] 45)) (BoxN.alloc (show BoxN w1.drew g _ _ from X1.out) (.cells #[.int .i64 p, .int .i64 n] 45)) (by decide)); have X6 := Bx.mk hx6; have gc := hx6.c (k := 0) rfl; have gf := hx6.fr 0; have gl := hx6.lt; clear hgrow hown6 hat hx6))
  all_goals
    have R6 := rs_grown (RsAt.below (RsAt.below R1.out (Below.refl _ _).drew) ((Below.refl _ _).alloc (Nat.le_refl _) (.cells #[.int .i64 p, .int .i64 n] 45))) (World.ownsRow.alloc (show w1.drew.ownsRow _ _ _ _ _ _ from O1.out) (.cells #[.int .i64 p, .int .i64 n] 45)) HG6.out
    have S6 := stp_app (w := w1.drew) (show BoxN w1.drew g _ _ from X1.out) (show w1.drew.ownsRow _ _ _ _ _ _ from O1.out) rfl HG6.out HO6.out (by
      rcases HA6.out with e | e
      · exact .inl e
      · exact .inr ⟨gg, rfl, by show w1.heap.size ≤ gg; omega⟩)
    have S7 := (Stp.of_below (base := base) HW.out.lt B1.out.drew).trans S6
    have O7 : (w6.setCell ⟨g, 0, none⟩ (.slice (some ⟨gg, 0, none⟩) (l.length + 1) cap)).ownsRow base 45 2 (.slice (some ⟨gg, 0, none⟩) (l.length + 1) cap) (l ++ [(p, n)]).length (pcl (l ++ [(p, n)])) := by
      rw [pcl_snoc, List.length_append]
      exact own_setE HO6.out X6.out (by decide) _ _
    have RES := Bx.mk (And.intro (WrAt.mk ⟨_, r, X6.out.put 0 _, O7, jn_set X6.out R6 _⟩) S7)
    clear R6 S6 S7 O7
    go_wp2_with (fail)
    go_end0
    exact ⟨⟨_, rfl⟩, RES.out.1, RES.out.2⟩
/-- what was written -/
def wrE (l : List (Int × Int)) (q : Option Addr) (a b : Addr) : List (Int × Int) × Int := if q = some a then ([], 6) else if q = some b then ([], 5) else (l, 0)
set_option maxHeartbeats 2000000 in
theorem impl_written (g base : Nat) (l : List (Int × Int)) (q : Option Addr) (a b : Addr) (w : World) (h : WrAt w g base l q) (he : Er w a b) (hq : q = none ∨ q = some a ∨ q = some b) :
    Calls Tryd.prog 48 #[.pointer (some ⟨g, 0, none⟩)] w fun e w' => ∃ v, e = .returned (.tuple #[v, .int .i64 (wrE l q a b).2]) ∧ w'.ownsRow base 45 2 v (wrE l q a b).1.length (pcl (wrE l q a b).1) ∧ Below w.heap.size w w' := by
  have hne := he.ne
  have hx : ∀ y, q = some y → ∀ z, (z = a ∨ z = b) → y ≠ z → (∃ ca ta, w.heap[y.block]? = some (.cells ca ta (0, 0))) ∧ ∃ cb tb, w.heap[z.block]? = some (.cells cb tb (0, 0)) := by
    intro y hy z hz hyz
    have k1 : ∀ z, (z = a ∨ z = b) → ∃ cb tb, w.heap[z.block]? = some (.cells cb tb (0, 0)) := fun z hz => by
      rcases hz with rfl | rfl
      · exact he.ha
      · exact he.hb
    refine ⟨k1 y ?_, k1 z hz⟩
    rcases hq with rfl | rfl | rfl
    · cases hy
    · injection hy with hy; exact .inl hy.symm
    · injection hy with hy; exact .inr hy.symm
  obtain ⟨sl, r, h1, h2, h3⟩ := h.ex
  have q1 := fun n => std_is r q a (w.drewN n) (h3.below (below_draws (Below.refl _ _) n)) (fun y hy hyz => hx y hy a (.inl rfl) hyz)
  have q2 := fun n => std_is r q b (w.drewN n) (h3.below (below_draws (Below.refl _ _) n)) (fun y hy hyz => hx y hy b (.inr rfl) hyz)
  have g0 := he.g0
  have g1 := he.g1
  have gl0 := he.l0
  have gl1 := he.l1
  have y0 := h1.c (k := 0) rfl
  have y1 := h1.c (k := 1) rfl
  have yl := h1.lt
  have HO := Bx.mk h2
  obtain ⟨A, c, rfl⟩ := own_len h2
  have s1 := fun n => (q1 n).mono (fun e w' (hh : e = .returned (.bool (hasR q a)) ∧ w' = w.drewN n) => (⟨hh.1, 0, hh.2⟩ : e = .returned (.bool (hasR q a)) ∧ ∃ m, w' = (w.drewN n).drewN m))
  have s2 := fun n => (q2 n).mono (fun e w' (hh : e = .returned (.bool (hasR q b)) ∧ w' = w.drewN n) => (⟨hh.1, 0, hh.2⟩ : e = .returned (.bool (hasR q b)) ∧ ∃ m, w' = (w.drewN n).drewN m))
  have HE : Bx (wrE l q a b = if hasR q a = true then ([], 6) else if hasR q b = true then ([], 5) else (l, 0)) := Bx.mk (by simp [wrE, hasR])
  clear h h1 h2 h3 he q1 q2 hx hq hne
  rw [HE.out]
  clear HE
  unfold erV at *
  cases e1 : hasR q a
  · rw [e1] at s1
    cases e2 : hasR q b
    · rw [e2] at s2
      go_enter Tryd.func48, Tryd.ntmps48
      go_wp2_with (fail)
      go_quiet ((go_at_call 64; with_reducible exact quiet_dr (s1 _)))
      revert nq
      intro nq1
      have s3 := fun n => (by have := s2 (nq1 + n); rw [← World.drewN_drewN] at this; exact this : Calls Tryd.prog 64 #[r, .iface 166 (.pointer (some b))] ((w.drewN nq1).drewN n) (fun e w' => e = .returned (.bool false) ∧ ∃ m, w' = ((w.drewN nq1).drewN n).drewN m))
      have y1' : (w.drewN nq1).cell? ⟨g, 1, none⟩ = some r := y1
      have y0' : (w.drewN nq1).cell? ⟨g, 0, none⟩ = some (.slice A l.length c) := y0
      have yl' : g < (w.drewN nq1).heap.size := yl
      have g1' : (w.drewN nq1).cell? ⟨1, 0, none⟩ = some (.iface 166 (.pointer (some b))) := g1
      have gl1' : 1 < (w.drewN nq1).heap.size := gl1
      have HBW : Bx (Below w.heap.size w (w.drewN nq1)) := Bx.mk (below_draws (Below.refl _ _) nq1)
      have HOW : Bx ((w.drewN nq1).ownsRow base 45 2 (.slice A l.length c) l.length (pcl l)) := Bx.mk HO.out
      clear s1 s2 y0 y1 yl g0 g1 gl0 gl1 HO
      generalize w.drewN nq1 = W at *
      go_wp2_with (fail)
      go_quiet ((go_at_call 64; with_reducible exact quiet_dr (s3 _)))
      go_wp2_with (fail)
      go_ret2
      exact ⟨_, rfl, HOW.out, below_draws HBW.out _⟩
    · rw [e2] at s2
      go_enter Tryd.func48, Tryd.ntmps48
      go_wp2_with (fail)
      go_quiet ((go_at_call 64; with_reducible exact quiet_dr (s1 _)))
      revert nq
      intro nq1
      have s3 := fun n => (by have := s2 (nq1 + n); rw [← World.drewN_drewN] at this; exact this : Calls Tryd.prog 64 #[r, .iface 166 (.pointer (some b))] ((w.drewN nq1).drewN n) (fun e w' => e = .returned (.bool true) ∧ ∃ m, w' = ((w.drewN nq1).drewN n).drewN m))
      have y1' : (w.drewN nq1).cell? ⟨g, 1, none⟩ = some r := y1
      have y0' : (w.drewN nq1).cell? ⟨g, 0, none⟩ = some (.slice A l.length c) := y0
      have yl' : g < (w.drewN nq1).heap.size := yl
      have g1' : (w.drewN nq1).cell? ⟨1, 0, none⟩ = some (.iface 166 (.pointer (some b))) := g1
      have gl1' : 1 < (w.drewN nq1).heap.size := gl1
      have HBW : Bx (Below w.heap.size w (w.drewN nq1)) := Bx.mk (below_draws (Below.refl _ _) nq1)
      have HOW : Bx ((w.drewN nq1).ownsRow base 45 2 (.slice A l.length c) l.length (pcl l)) := Bx.mk HO.out
      clear s1 s2 y0 y1 yl g0 g1 gl0 gl1 HO
      generalize w.drewN nq1 = W at *
      go_wp2_with (fail)
      go_quiet ((go_at_call 64; with_reducible exact quiet_dr (s3 _)))
      go_wp2_with (fail)
      go_ret2
      exact ⟨_, rfl, World.ownsRow_nil _ _ _ _, below_draws HBW.out _⟩
  · rw [e1] at s1
    go_enter Tryd.func48, Tryd.ntmps48
    go_wp2_with (fail)
    go_quiet ((go_at_call 64; with_reducible exact quiet_dr (s1 _)))
    go_wp2_with (fail)
    go_ret2
    exact ⟨_, rfl, World.ownsRow_nil _ _ _ _, below_draws (Below.refl _ _) _⟩
end Go.Proofs.YtendfnimhmnioaaDoor
