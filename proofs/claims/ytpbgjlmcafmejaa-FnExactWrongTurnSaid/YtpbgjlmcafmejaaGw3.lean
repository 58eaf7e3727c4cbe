/- WrongTurn, by the program, at every input; copies with their capacity. -/
import Derived.Test.YtpbgjlmcafmejaaGw2
namespace Go.Proofs.Ytpbgjlmcafmejaa
open Go.ChangeShapes Go.WideShapes Go.ChangeAt Go.RowKit
set_option linter.unusedVariables false
set_option linter.unusedSimpArgs false
set_option maxRecDepth 100000

/-- the arcs of this value lie within their capacity -/
def capG (v : Value) (G : Gr) : Prop := ∃ f C c, v = grV G.n G.s f (.slice C G.a.length c) ∧ G.a.length ≤ c
theorem own_cap3 {w : World} {base e n : Nat} {v : Value} {xs : List Value} (h : w.ownsRow base e 3 v n xs) : ∃ A c, v = .slice A n c ∧ n ≤ c := by
  rcases h.2 with ⟨rfl, hx⟩ | ⟨g, cap, cur, rfl, _, _, h2, _⟩
  · obtain ⟨A, c, hv⟩ := own_len h
    simp only [Value.slice.injEq] at hv
    exact ⟨none, 0, by rw [hv.2.1], by omega⟩
  · exact ⟨_, cap, rfl, by omega⟩
theorem gr_copyC (v : Value) (G : Gr) (w : World) (h : GrAt w v G) (hm : SmG G) :
    Calls Try.prog 17 #[v] w fun e w' => ∃ v', e = .returned v' ∧ GrAt w' v' G ∧ capG v' G ∧ Below w.heap.size w w' :=
  (copy_gr v G w h hm).mono fun e w' ⟨f, a, he, hf, ha, _, hb⟩ => by
    obtain ⟨A, c, rfl, hc⟩ := own_cap3 ha
    exact ⟨_, he, ⟨f, _, rfl, IntsAt.own hf, TrsAt.own ha⟩, ⟨f, A, c, rfl, hc⟩, hb⟩
theorem wrong_len {G : Gr} {zs : List Int} (h : SmG G) : (wrongE G zs).2.1.length ≤ 1048576 := by
  unfold wrongE
  split
  · split
    · simp
    · exact Nat.le_trans (pitF_len _ _) h.a
  · simp
set_option maxHeartbeats 2000000 in
theorem impl_wrongturn (v u : Value) (G : Gr) (zs : List Int) (w : World) (h : GrAt w v G) (hcp : capG v G) (hm : SmG G) (hz : IntsAt w u zs) (hl : zs.length ≤ 1048576) :
    Calls Try.prog 35 #[v, u] w (WOut (wrongE G zs) w) := by
  obtain ⟨B, b, C, c, rfl, h1, h2⟩ := gr_form h
  have hcc : G.a.length ≤ c := by
    obtain ⟨f, C', c', e, hle⟩ := hcp
    unfold grV at e
    simp only [Value.agg.injEq] at e
    simp at e
    omega
  cases hok : okGr G
  · have HE : Bx (wrongE G zs = (0, [], 1)) := Bx.mk (by unfold wrongE; rw [hok]; rfl)
    have hb : Below w.heap.size w (w.alloc (.cells #[.int .i64 G.n, .int .i64 G.s, .slice B G.f.length b, .slice C G.a.length c] 30)) := (Below.refl _ _).alloc (Nat.le_refl _) _
    have hk := impl_validgr _ G _ (h.below hb) hm
    rw [hok] at hk
    have HB := Bx.mk hb
    clear h h1 h2 hcp hz hm hb hok
    generalize wrongE G zs = t at *
    go_enter Try.func35, Try.ntmps35
    go_wp2_with (fail)
    refine hk.mono ?_
    rintro r w1 ⟨rfl, hb1⟩
    have B_1 := Bx.mk (HB.out.trans (hb1.mono HB.out.size))
    clear hb1
    go_wp2_with (fail)
    go_returns
    exact w_nil HE.out B_1.out
  · cases hac : accB G zs
    · have e : wrongE G zs = ((((runG G.a G.s zs).1 : Nat) : Int), pitF G.a (runG G.a G.s zs).2, 0) := by unfold wrongE; rw [hok, hac]; rfl
      rw [e]
      exact impl_wrong3 B b C c u G zs w h h2 hm hz hl hcc hok hac
    · have HE : Bx (wrongE G zs = (0, [], 3)) := Bx.mk (by unfold wrongE; rw [hok, hac]; rfl)
      have hb : Below w.heap.size w (w.alloc (.cells #[.int .i64 G.n, .int .i64 G.s, .slice B G.f.length b, .slice C G.a.length c] 30)) := (Below.refl _ _).alloc (Nat.le_refl _) _
      have hX := BoxN.at w w.heap.size #[.int .i64 G.n, .int .i64 G.s, .slice B G.f.length b, .slice C G.a.length c] 30 rfl
      have hk := impl_validgr _ G _ (h.below hb) hm
      rw [hok] at hk
      have hO := Bx.mk (ok_of hok)
      have HB := Bx.mk hb
      have HX := Bx.mk hX
      have HG := Bx.mk h
      have HZ := Bx.mk hz
      have HM := Bx.mk hm
      have HAC := Bx.mk hac
      clear h h1 h2 hcp hz hm hb hok hX hac
      generalize wrongE G zs = t at *
      go_enter Try.func35, Try.ntmps35
      go_wp2_with (fail)
      refine hk.mono ?_
      rintro r w1 ⟨rfl, hb1⟩
      have B_1 := Bx.mk (HB.out.trans (hb1.mono HB.out.size))
      have X_1 := Bx.mk (HX.out.below hb1)
      have hq := impl_acc7 _ G _ zs w1 (HG.out.below B_1.out) HM.out hO.out (HZ.out.below B_1.out) hl
      rw [HAC.out] at hq
      clear hb1
      have y0 := X_1.out.c (k := 0) rfl
      have y1 := X_1.out.c (k := 1) rfl
      have y2 := X_1.out.c (k := 2) rfl
      have y3 := X_1.out.c (k := 3) rfl
      have yl := X_1.out.lt
      go_wp2_with (fail)
      refine hq.mono ?_
      rintro r w2 ⟨rfl, hb1⟩
      have B_2 := Bx.mk (B_1.out.trans (hb1.mono B_1.out.size))
      clear hb1
      go_wp2_with (fail)
      go_returns
      exact w_nil HE.out B_2.out
end Go.Proofs.Ytpbgjlmcafmejaa
