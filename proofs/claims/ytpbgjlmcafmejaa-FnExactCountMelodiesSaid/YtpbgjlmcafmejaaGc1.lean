/- CountMelodies: the model. -/
import Derived.Test.YtpbgjlmcafmejaaGc
import Derived.Deep.RegionWith
namespace Go.Proofs.Ytpbgjlmcafmejaa
open Go.ChangeShapes Go.WideShapes Go.ChangeAt Go.RowKit
set_option linter.unusedVariables false
set_option linter.unusedSimpArgs false
set_option maxRecDepth 100000

def OutG2 (t : Int × Int) (w : World) (e : Ending) (w' : World) : Prop := e = .returned (.tuple #[.int .i64 t.1, .int .i64 t.2]) ∧ Below w.heap.size w w'
theorem outg2 {t : Int × Int} {w w' : World} {a b : Int} (h : t = (a, b)) (hb : Below w.heap.size w w') : OutG2 t w (.returned (.tuple #[.int .i64 a, .int .i64 b])) w' := by
  subst h; exact ⟨rfl, hb⟩
theorem spec_long7 (n : Int) (w : World) : Calls Try.prog 85 #[.int .i64 n] w fun e w' => e = .returned (.bool (inB n 0 12)) ∧ w = w' := by
  have hq := fun W => in_any n 0 12 W
  go_enter Try.func85, Try.ntmps85
  go_wp2_with (fail)
  refine (hq _).mono ?_
  rintro r w1 ⟨rfl, rfl⟩
  go_wp2_with (fail)
  go_ret
  exact ⟨rfl, rfl⟩
theorem impl_long7 (n : Int) (w : World) : Calls Try.prog 87 #[.int .i64 n] w fun e w' => e = .returned (.bool (inB n 0 12)) ∧ w = w' := by
  by_cases h1 : 0 ≤ n
  · have d1 : decide (0 ≤ n) = true := decide_eq_true h1
    by_cases h2 : n ≤ 12
    · have d2 : decide (n ≤ 12) = true := decide_eq_true h2
      have HE : Bx (inB n 0 12 = true) := Bx.mk (inB_mk ⟨h1, h2⟩)
      clear h1 h2
      go_enter Try.func87, Try.ntmps87
      go_wp2_with (fail)
      go_ret
      exact ⟨ret_bool HE.out.symm, rfl⟩
    · have d2 : decide (n ≤ 12) = false := decide_eq_false h2
      have HE : Bx (inB n 0 12 = false) := Bx.mk (decide_eq_false (fun h => h2 h.2))
      clear h1 h2
      go_enter Try.func87, Try.ntmps87
      go_wp2_with (fail)
      go_ret
      exact ⟨ret_bool HE.out.symm, rfl⟩
  · have d1 : decide (0 ≤ n) = false := decide_eq_false h1
    have HE : Bx (inB n 0 12 = false) := Bx.mk (decide_eq_false (fun h => h1 h.1))
    clear h1
    go_enter Try.func87, Try.ntmps87
    go_wp2_with (fail)
    go_ret
    exact ⟨ret_bool HE.out.symm, rfl⟩
theorem keepB1 {w0 W W' : World} {g s0 : Nat} {x : Value} (h : W.cell? ⟨g, s0, none⟩ = some x ∧ g < W.heap.size ∧ Below w0.heap.size w0 W) (hb : Below W.heap.size W W') : W'.cell? ⟨g, s0, none⟩ = some x ∧ g < W'.heap.size ∧ Below w0.heap.size w0 W' :=
  ⟨(hb.cell (p := ⟨g, s0, none⟩) h.2.1).trans h.1, Nat.lt_of_lt_of_le h.2.1 hb.size, h.2.2.trans (hb.mono h.2.2.size)⟩
set_option maxHeartbeats 4000000 in
theorem spec_countmel (v : Value) (G : Gr) (n : Int) (w : World) (h : GrAt w v G) (hm : SmG G) :
    Calls Try.prog 38 #[v, .int .i64 n] w (OutG2 (countE G n) w) := by
  obtain ⟨B, b, C, c, rfl, h1, h2⟩ := gr_form h
  have hb : Below w.heap.size w (w.alloc (.cells #[.int .i64 G.n, .int .i64 G.s, .slice B G.f.length b, .slice C G.a.length c] 30)) := (Below.refl _ _).alloc (Nat.le_refl _) _
  have hX := BoxN.at w w.heap.size #[.int .i64 G.n, .int .i64 G.s, .slice B G.f.length b, .slice C G.a.length c] 30 rfl
  have hP : PtrGr (w.alloc (.cells #[.int .i64 G.n, .int .i64 G.s, .slice B G.f.length b, .slice C G.a.length c] 30)) w.heap.size G := ⟨_, hX, _, _, rfl, h1.below hb, h2.below hb⟩
  have hk := spec_grok w.heap.size G _ hP hm
  have hq := fun W => spec_long7 n W
  have HM := Bx.mk hm
  have HO : Bx (countE G n = if okGr G = true then (if inB n 0 12 = true then (cntG G n.toNat G.s.toNat, 0) else (0, 2)) else (0, 1)) := Bx.mk rfl
  have HOK := Bx.mk (ok_of (G := G))
  clear h h1 h2 hm
  generalize countE G n = u at *
  generalize hok : okGr G = ok at *
  have B_0 := Bx.mk hb
  have X_0 := Bx.mk hX
  have P_0 := Bx.mk hP
  clear hb hX hP hok
  cases ok
  · have HE : Bx (u = (0, 1)) := Bx.mk HO.out
    clear HO
    go_enter Try.func38, Try.ntmps38
    go_wp2_with (fail)
    refine hk.mono ?_
    rintro r w1 ⟨rfl, hb1⟩
    have B_1 := Bx.mk (B_0.out.trans (hb1.mono B_0.out.size))
    clear hb1
    go_wp2_with (fail)
    go_ret2
    exact outg2 HE.out B_1.out
  · cases hn : inB n 0 12
    · simp only [hn] at hq
      have HE : Bx (u = (0, 2)) := Bx.mk (by rw [HO.out, hn]; rfl)
      clear HO hn
      go_enter Try.func38, Try.ntmps38
      go_wp2_with (fail)
      refine hk.mono ?_
      rintro r w1 ⟨rfl, hb1⟩
      have B_1 := Bx.mk (B_0.out.trans (hb1.mono B_0.out.size))
      clear hb1
      go_wp2_with (fail)
      refine (hq _).mono ?_
      rintro r w2 ⟨rfl, rfl⟩
      go_wp2_with (fail)
      go_ret2
      exact outg2 HE.out B_1.out
    · simp only [hn] at hq
      have hnb := inB_yes hn
      obtain ⟨k, rfl⟩ : ∃ k : Nat, n = k := ⟨n.toNat, by omega⟩
      have hO := HOK.out rfl
      have HE : Bx (u = (cntG G k G.s.toNat, 0)) := Bx.mk (by rw [HO.out, hn]; rfl)
      clear HO hn
      have hs := hO.s
      have hn2 := hO.n
      have HOG := Bx.mk hO
      clear hO
      obtain ⟨m, hm2⟩ : ∃ m : Nat, G.n.toNat = m := ⟨_, rfl⟩
      obtain ⟨s, hs2⟩ : ∃ s : Nat, G.s = s := ⟨G.s.toNat, by omega⟩
      have s1 : (0 : Int) ≤ (s : Int) := by omega
      have s2 : (s : Int) < (m : Int) := by omega
      have HSM := Bx.mk (show s < m by omega)
      have HE2 : Bx (u = (cntG G k s, 0)) := Bx.mk (by rw [HE.out, hs2]; rfl)
      have HSE := Bx.mk hs2
      have HM2 := Bx.mk hm2
      clear HE hs hn2 hs2 hm2
      go_enter Try.func38, Try.ntmps38
      go_wp2_with (fail)
      refine hk.mono ?_
      rintro r w1 ⟨rfl, hb1⟩
      have B_1 := Bx.mk (B_0.out.trans (hb1.mono B_0.out.size))
      have X_1 := Bx.mk (X_0.out.below hb1)
      have P_1 := Bx.mk (P_0.out.below hb1)
      clear hb1 hk
      go_wp2_with (fail)
      refine (hq _).mono ?_
      rintro r w2 ⟨rfl, rfl⟩
      have y1 := X_1.out.c (k := 1) rfl
      have yl := X_1.out.lt
      have hc := spec_counts w.heap.size G k w1.drew (P_1.out.below (Below.refl _ _).drew) HM.out HOG.out (by omega)
      rw [HM2.out] at hc
      have hc2 : ∀ w4, Below w1.drew.heap.size w1.drew w4 → Below w1.heap.size w1 w4 := fun w4 h => (Below.refl w1.heap.size w1).drew.trans h
      replace y1 : w1.cell? ⟨w.heap.size, 1, none⟩ = some (.int .i64 (s : Int)) := by rw [← HSE.out]; exact y1
      clear hq
      go_wp2_with (fail)
      go_region_with (go_at_call 86; (with_reducible refine hc.mono ?_); rintro r w4 ⟨bc, rfl, hA, hbc, hb4⟩; have y1' := (hb4.cell (p := ⟨w.heap.size, 1, none⟩) yl).trans y1; have yl' := Nat.lt_of_lt_of_le yl hb4.size; have hcell := (hA.cell s).trans (rowF_at _ _ _ HSM.out); have hal := hA.lt; have B_4 := Bx.mk (B_1.out.trans ((hc2 _ hb4).mono B_1.out.size)); clear hb4)
      all_goals
        go_wp2_with (fail)
        go_ret2
        exact outg2 HE2.out B_4.out
end Go.Proofs.Ytpbgjlmcafmejaa
