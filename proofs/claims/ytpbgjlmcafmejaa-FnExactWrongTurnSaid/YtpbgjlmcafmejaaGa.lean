/- Grammars that follow pitches: the model. -/
import Derived.Test.YtpbgjlmcafmejaaGaM
import Derived.Test.YtpbgjlmcafmejaaGv
namespace Go.Proofs.Ytpbgjlmcafmejaa
open Go.ChangeShapes Go.WideShapes Go.ChangeAt Go.RowKit
set_option linter.unusedVariables false
set_option linter.unusedSimpArgs false
set_option maxRecDepth 100000

set_option maxHeartbeats 2000000 in
theorem spec_step7 (g : Nat) (G : Gr) (s p : Int) (w : World) (h : PtrGr w g G) (hm : SmG G) :
    Calls Try.prog 89 #[.pointer (some ⟨g, 0, none⟩), .int .i64 s, .int .i64 p] w fun e w' => e = .returned (.int .i64 (stepZ G.a s p)) ∧ w = w' := by
  obtain ⟨B, b, C, c, hx, i1, i2⟩ := ptrgr_form h
  have y3 := hx.c (k := 3) rfl
  have yl := hx.lt
  have HT := Bx.mk i2
  have ma := hm.a
  clear h hx i1 i2 hm
  go_enter Try.func89, Try.ntmps89
  go_wp2_with (fail)
  go_loop [7] (fun i => ∃ k : Nat, k ≤ G.a.length ∧ i = .int .i64 k ∧ Bx (∀ i, i < k → arcM G.a s p i = false)) (fun i => G.a.length - (intOf i).toNat)
  case atStart => exact ⟨0, Nat.zero_le _, rfl, Bx.mk (fun i hi => by omega)⟩
  case round =>
    obtain ⟨k, hk, rfl, HK⟩ := hrel
    by_cases hlt : k < G.a.length
    · obtain ⟨bb, oo, cc, hv, lb, hc⟩ := HT.out.form (by omega)
      injection hv with hA _ hC
      subst hA hC
      have c1 := (hc k hlt).1
      have c2 := (hc k hlt).2.1
      have c3 := (hc k hlt).2.2
      have x1 : (0 : Int) ≤ (k : Int) := by omega
      have x2 : (k : Int) < (G.a.length : Int) := by omega
      have dlt : decide ((k : Int) < (G.a.length : Int)) = true := decide_eq_true x2
      have HS : Bx (arcM G.a s p k = false → ∀ i, i < k + 1 → arcM G.a s p i = false) := Bx.mk (fun h i hi => by
        by_cases hij : i < k
        · exact HK.out i hij
        · obtain rfl : i = k := (by omega)
          exact h)
      have HY : Bx (arcM G.a s p k = true → stepZ G.a s p = (tat G.a k).2.2) := Bx.mk (fun h => stepZ_some (stepN_hit k hlt h HK.out))
      have HM : Bx (arcM G.a s p k = ((tat G.a k).1 == s && (tat G.a k).2.1 == p)) := Bx.mk rfl
      clear hc HK
      generalize arcM G.a s p k = b at HS HY HM
      generalize tat G.a k = t at c1 c2 c3 HY HM
      obtain ⟨t1, t2, t3⟩ := t
      dsimp only at c1 c2 c3
      by_cases h1 : t1 = s
      · have e1 : (t1 == s) = true := by simpa using h1
        by_cases h2 : t2 = p
        · have e2 : (t2 == p) = true := by simpa using h2
          have HE := Bx.mk (HY.out (by rw [HM.out, e1, e2]; rfl))
          clear HS HY HM h1 h2
          go_wp2_with (fail)
          go_ret
          exact ⟨ret_int HE.out.symm, rfl⟩
        · have e2 : (t2 == p) = false := by simpa using h2
          have HE := Bx.mk (HS.out (by rw [HM.out, e1, e2]; rfl))
          clear HS HY HM h1 h2
          go_wp2_with (fail)
          go_round
          case rel => exact ⟨k + 1, by omega, by go_num, HE⟩
          case measure => simp [intOf]; omega
      · have e1 : (t1 == s) = false := by simpa using h1
        have HE := Bx.mk (HS.out (by rw [HM.out, e1]; rfl))
        clear HS HY HM h1
        go_wp2_with (fail)
        go_round
        case rel => exact ⟨k + 1, by omega, by go_num, HE⟩
        case measure => simp [intOf]; omega
    · obtain rfl : k = G.a.length := by omega
      have dlt : decide ((G.a.length : Int) < (G.a.length : Int)) = false := decide_eq_false (by omega)
      have HE : Bx (stepZ G.a s p = -1) := Bx.mk (stepZ_none (stepN_miss HK.out))
      go_wp2_with (fail)
      go_ret
      exact ⟨ret_int HE.out.symm, rfl⟩
set_option maxHeartbeats 2000000 in
theorem spec_run7 (g : Nat) (G : Gr) (v : Value) (zs : List Int) (w : World) (h : PtrGr w g G) (hm : SmG G) (hz : IntsAt w v zs) (hl : zs.length ≤ 1048576) :
    Calls Try.prog 82 #[.pointer (some ⟨g, 0, none⟩), v] w fun e w' => e = .returned (.tuple #[.int .i64 (runG G.a G.s zs).2, .int .i64 ((runG G.a G.s zs).1 : Nat)]) ∧ w = w' := by
  obtain ⟨A, c0, rfl⟩ := ints_form hz
  have hq := fun s p => spec_step7 g G s p w h hm
  obtain ⟨B, b, C, c, hx, i1, i2⟩ := ptrgr_form h
  have y1 := hx.c (k := 1) rfl
  have yl := hx.lt
  have HZ := Bx.mk hz
  clear h hx i1 i2 hz
  go_enter Try.func82, Try.ntmps82
  go_wp2_with (fail)
  go_loop [6, 7] (fun st i => ∃ (k : Nat) (s : Int), k ≤ zs.length ∧ i = .int .i64 k ∧ st = .int .i64 s ∧ Bx (runG G.a G.s zs = ((runG G.a s (zs.drop k)).1 + k, (runG G.a s (zs.drop k)).2))) (fun _ i => zs.length - (intOf i).toNat)
  case atStart => exact ⟨0, _, Nat.zero_le _, rfl, rfl, Bx.mk (by simp)⟩
  case round =>
    obtain ⟨k, s, hk, rfl, rfl, HK⟩ := hrel
    by_cases hlt : k < zs.length
    · obtain ⟨bb, oo, cc, hv, lb, hc⟩ := HZ.out.form (by omega)
      injection hv with hA _ hC
      subst hA hC
      have c1 := hc k hlt
      have x1 : (0 : Int) ≤ (k : Int) := by omega
      have x2 : (k : Int) < (zs.length : Int) := by omega
      have dlt : decide ((k : Int) < (zs.length : Int)) = true := decide_eq_true x2
      have hqz := hq s (zs.getD k 0)
      have H0 := Bx.mk (runG_stop (l := G.a) (s := s) hlt)
      have H1 := Bx.mk (runG_go (l := G.a) (s := s) hlt)
      clear hc
      generalize zs.getD k 0 = z at *
      generalize stepZ G.a s z = t at *
      by_cases hn : t < 0
      · have HE : Bx (runG G.a G.s zs = (k, s)) := Bx.mk (by rw [HK.out, H0.out hn]; simp)
        have dn : decide (t < 0) = true := decide_eq_true hn
        clear HK H0 H1 hn hq
        go_wp2_with (fail)
        refine hqz.mono ?_
        rintro r w1 ⟨rfl, rfl⟩
        go_wp2_with (fail)
        go_ret2
        exact ⟨by rw [HE.out]; rfl, rfl⟩
      · have HE : Bx (runG G.a G.s zs = ((runG G.a t (zs.drop (k + 1))).1 + (k + 1), (runG G.a t (zs.drop (k + 1))).2)) := Bx.mk (by rw [HK.out, H1.out hn]; simp only [Prod.mk.injEq, and_true]; omega)
        have dn : decide (t < 0) = false := decide_eq_false hn
        clear HK H0 H1 hn hq
        go_wp2_with (fail)
        refine hqz.mono ?_
        rintro r w1 ⟨rfl, rfl⟩
        go_wp2_with (fail)
        go_round
        case rel => exact ⟨k + 1, t, by omega, by go_num, rfl, HE⟩
        case measure => simp [intOf]; omega
    · obtain rfl : k = zs.length := by omega
      have dlt : decide ((zs.length : Int) < (zs.length : Int)) = false := decide_eq_false (by omega)
      have HE : Bx (runG G.a G.s zs = (zs.length, s)) := Bx.mk (by rw [HK.out, List.drop_length]; simp [runG])
      clear HK hq
      go_wp2_with (fail)
      go_ret2
      exact ⟨by rw [HE.out]; rfl, rfl⟩
theorem spec_acc7 (g : Nat) (G : Gr) (v : Value) (zs : List Int) (w : World) (h : PtrGr w g G) (hm : SmG G) (hz : IntsAt w v zs) (hl : zs.length ≤ 1048576) :
    Calls Try.prog 80 #[.pointer (some ⟨g, 0, none⟩), v] w fun e w' => e = .returned (.bool (accB G zs)) ∧ w = w' := by
  have hq := spec_run7 g G v zs w h hm hz hl
  obtain ⟨A, c0, rfl⟩ := ints_form hz
  obtain ⟨B, b, C, c, hx, i1, i2⟩ := ptrgr_form h
  have hh := fun t => spec_has _ G.f t w i1 (Nat.le_trans hm.f (by decide))
  have y2 := hx.c (k := 2) rfl
  have yl := hx.lt
  have HO : Bx (accB G zs = (decide ((runG G.a G.s zs).1 = zs.length) && hasB G.f (runG G.a G.s zs).2)) := Bx.mk rfl
  clear h hx i1 i2 hz
  generalize runG G.a G.s zs = r at *
  obtain ⟨r1, r2⟩ := r
  dsimp only at hq HO
  have hh := hh r2
  generalize hasB G.f r2 = hb at *
  by_cases he : r1 = zs.length
  · have d1 : ((r1 : Int) == (zs.length : Int)) = true := by simp; omega
    have HE : Bx (accB G zs = hb) := Bx.mk (by rw [HO.out, decide_eq_true he]; rfl)
    clear HO he
    go_enter Try.func80, Try.ntmps80
    go_wp2_with (fail)
    refine hq.mono ?_
    rintro r w1 ⟨rfl, rfl⟩
    go_wp2_with (fail)
    refine hh.mono ?_
    rintro r w1 ⟨rfl, rfl⟩
    go_wp2_with (fail)
    go_ret
    exact ⟨ret_bool HE.out.symm, rfl⟩
  · have d1 : ((r1 : Int) == (zs.length : Int)) = false := by simp; omega
    have HE : Bx (accB G zs = false) := Bx.mk (by rw [HO.out, decide_eq_false he]; rfl)
    clear HO he
    go_enter Try.func80, Try.ntmps80
    go_wp2_with (fail)
    refine hq.mono ?_
    rintro r w1 ⟨rfl, rfl⟩
    go_wp2_with (fail)
    go_ret
    exact ⟨ret_bool HE.out.symm, rfl⟩
theorem spec_accepts (v u : Value) (G : Gr) (zs : List Int) (w : World) (h : GrAt w v G) (hm : SmG G) (hz : IntsAt w u zs) (hl : zs.length ≤ 1048576) :
    Calls Try.prog 30 #[v, u] w fun e w' => e = .returned (.bool (acceptsE G zs)) ∧ Below w.heap.size w w' := by
  obtain ⟨B, b, C, c, rfl, h1, h2⟩ := gr_form h
  obtain ⟨A, c0, rfl⟩ := ints_form hz
  have hb : Below w.heap.size w (w.alloc (.cells #[.int .i64 G.n, .int .i64 G.s, .slice B G.f.length b, .slice C G.a.length c] 30)) := (Below.refl _ _).alloc (Nat.le_refl _) _
  have hP : PtrGr (w.alloc (.cells #[.int .i64 G.n, .int .i64 G.s, .slice B G.f.length b, .slice C G.a.length c] 30)) w.heap.size G := ⟨_, BoxN.at w _ _ _ rfl, _, _, rfl, h1.below hb, h2.below hb⟩
  have hZ := hz.below hb
  have HO : Bx (acceptsE G zs = (okGr G && accB G zs)) := Bx.mk rfl
  have hk := spec_grok w.heap.size G _ hP hm
  have HM := Bx.mk hm
  clear h h1 h2 hz hm
  generalize okGr G = ok at *
  cases ok
  · go_enter Try.func30, Try.ntmps30
    go_wp2_with (fail)
    refine hk.mono ?_
    rintro r w1 ⟨rfl, hb1⟩
    have B1 := Bx.mk (hb.trans (hb1.mono hb.size))
    clear hb1
    go_wp2_with (fail)
    go_ret
    exact ⟨ret_bool HO.out.symm, B1.out⟩
  · go_enter Try.func30, Try.ntmps30
    go_wp2_with (fail)
    refine hk.mono ?_
    rintro r w1 ⟨rfl, hb1⟩
    have B1 := Bx.mk (hb.trans (hb1.mono hb.size))
    have hq := spec_acc7 w.heap.size G _ zs w1 (hP.below hb1) HM.out (hZ.below hb1) hl
    clear hb1
    go_wp2_with (fail)
    refine hq.mono ?_
    rintro r w2 ⟨rfl, rfl⟩
    go_wp2_with (fail)
    go_ret
    exact ⟨ret_bool HO.out.symm, B1.out⟩
end Go.Proofs.Ytpbgjlmcafmejaa
