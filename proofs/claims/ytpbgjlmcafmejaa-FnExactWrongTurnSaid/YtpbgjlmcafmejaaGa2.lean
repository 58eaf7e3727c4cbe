/- Grammars that follow pitches: the program. -/
import Derived.Test.YtpbgjlmcafmejaaGa
import Derived.Test.YtpbgjlmcafmejaaGb
import Derived.Test.YtpbgjlmcafmejaaGv2
namespace Go.Proofs.Ytpbgjlmcafmejaa
open Go.ChangeShapes Go.WideShapes Go.ChangeAt Go.RowKit
set_option linter.unusedVariables false
set_option linter.unusedSimpArgs false
set_option maxRecDepth 100000

theorem found_yes {l : List (Int × Int × Int)} (h : ∀ i, i + 1 < l.length → aLt (tat l i) (tat l (i + 1))) {s p r : Int} {k : Nat} (hf : foundB l (s, p, r) k = true) : stepN l s p = some k ∧ k < l.length := by
  unfold foundB at hf
  simp only [Bool.and_eq_true, decide_eq_true_eq, cmpA_zero] at hf
  exact ⟨stepN_only h hf.1 (arcM_iff.2 hf.2), hf.1⟩
theorem found_no {l : List (Int × Int × Int)} (h : ∀ i, i + 1 < l.length → aLt (tat l i) (tat l (i + 1))) {s p r : Int} {k : Nat} (hk : LowAt l (s, p, r) k) (hf : foundB l (s, p, r) k = false) : stepN l s p = none := by
  refine stepN_miss (fun i hi => ?_)
  cases hc : arcM l s p i with
  | false => rfl
  | true =>
    exfalso
    obtain ⟨e1, e2⟩ := arcM_iff.1 hc
    rcases Nat.lt_trichotomy i k with hh | hh | hh
    · exact aLt_irr (hk.lo i hh) e1 e2
    · subst hh
      have : foundB l (s, p, r) i = true := by
        unfold foundB
        simp only [Bool.and_eq_true, decide_eq_true_eq, cmpA_zero]
        exact ⟨hi, e1, e2⟩
      rw [this] at hf; cases hf
    · have h1 := arcs_rise h i k hh hi
      refine hk.hi k (Nat.le_refl _) (by omega) ?_
      unfold aLt at h1 ⊢
      dsimp only
      omega
set_option maxHeartbeats 2000000 in
theorem impl_place (n s0 : Int) (f : Value) (C : Option Addr) (c : Nat) (l : List (Int × Int × Int)) (s p : Int) (w : World) (h : TrsAt w (.slice C l.length c) l) (hm : l.length ≤ 1048576) (hr : ∀ i, i + 1 < l.length → aLt (tat l i) (tat l (i + 1))) :
    Calls Try.prog 132 #[.agg #[.int .i64 n, .int .i64 s0, f, .slice C l.length c], .int .i64 s, .int .i64 p] w
      fun e w' => ∃ k : Nat, e = .returned (.tuple #[.int .i64 k, .bool (foundB l (s, p, 0) k)]) ∧ LowAt l (s, p, 0) k ∧ Below w.heap.size w w' := by
  have hb : Below w.heap.size w (w.alloc (.cells #[.int .i64 n, .int .i64 s0, f, .slice C l.length c] 30)) := (Below.refl _ _).alloc (Nat.le_refl _) _
  have hq := std_bsearch _ l s p 0 _ (h.below hb) hm hr
  clear h hr
  go_enter Try.func132, Try.ntmps132
  go_wp2_with (fail)
  refine hq.mono ?_
  rintro r w1 ⟨k, rfl, hk, hb1⟩
  have HK := Bx.mk hk
  have B1 := Bx.mk (hb.trans (hb1.mono hb.size))
  clear hb1 hk hq
  go_wp2_with (fail)
  go_ret2
  exact ⟨k, rfl, HK.out, B1.out⟩
theorem impl_isfinal (n s0 : Int) (B : Option Addr) (b : Nat) (zs : List Int) (a : Value) (s : Int) (w : World) (h : IntsAt w (.slice B zs.length b) zs) (hm : zs.length ≤ 1048576) :
    Calls Try.prog 131 #[.agg #[.int .i64 n, .int .i64 s0, .slice B zs.length b, a], .int .i64 s] w fun e w' => e = .returned (.bool (hasB zs s)) ∧ Below w.heap.size w w' := by
  have hb : Below w.heap.size w (w.alloc (.cells #[.int .i64 n, .int .i64 s0, .slice B zs.length b, a] 30)) := (Below.refl _ _).alloc (Nat.le_refl _) _
  have hq := std_contains _ zs s _ (h.below hb) (Nat.le_trans hm (by decide))
  have HB := Bx.mk hb
  clear h hb
  go_enter Try.func131, Try.ntmps131
  go_wp2_with (fail)
  refine hq.mono ?_
  rintro r w1 ⟨rfl, rfl⟩
  go_wp2_with (fail)
  go_ret
  exact ⟨rfl, HB.out⟩
set_option maxHeartbeats 2000000 in
theorem impl_follow (v : Value) (G : Gr) (u : Value) (zs : List Int) (w : World) (h : GrAt w v G) (hm : SmG G) (hok : OkGr G) (hz : IntsAt w u zs) (hl : zs.length ≤ 1048576) :
    Calls Try.prog 83 #[v, u] w fun e w' => e = .returned (.tuple #[.int .i64 ((runG G.a G.s zs).1 : Nat), .int .i64 (runG G.a G.s zs).2]) ∧ Below w.heap.size w w' := by
  obtain ⟨B, b, C, c, rfl, i1, i2⟩ := gr_form h
  obtain ⟨A, c0, rfl⟩ := ints_form hz
  have hb : Below w.heap.size w (w.alloc (.cells #[.int .i64 G.n, .int .i64 G.s, .slice B G.f.length b, .slice C G.a.length c] 30)) := (Below.refl _ _).alloc (Nat.le_refl _) _
  have hX := BoxN.at w w.heap.size #[.int .i64 G.n, .int .i64 G.s, .slice B G.f.length b, .slice C G.a.length c] 30 rfl
  have T_0 := Bx.mk (i2.below hb)
  have Z_0 := Bx.mk (hz.below hb)
  have HR := Bx.mk hok.ao
  have HS := Bx.mk (fun s p => step_rng hok s p)
  have HAR := Bx.mk (fun i hi => (hok.ar i hi).2.2)
  have ma := hm.a
  clear h hz i1 i2 hok hm
  go_enter Try.func83, Try.ntmps83
  generalize hW : w.alloc (.cells #[.int .i64 G.n, .int .i64 G.s, .slice B G.f.length b, .slice C G.a.length c] 30) = W0 at *
  have B_0 := Bx.mk hb
  have X_0 := Bx.mk hX
  clear hb hX
  have y1 := X_0.out.c (k := 1) rfl
  have yl := X_0.out.lt
  go_wp2_with (fail)
  clear hW
  clear y1 yl
  go_loopw [6, 15] (fun st i wr => ∃ (k : Nat) (s : Int), k ≤ zs.length ∧ i = .int .i64 k ∧ st = .int .i64 s ∧ Bx (runG G.a G.s zs = ((runG G.a s (zs.drop k)).1 + k, (runG G.a s (zs.drop k)).2)) ∧ Bx (Below W0.heap.size W0 wr)) (fun _ i _ => zs.length - (intOf i).toNat)
  case atStart => exact ⟨0, _, Nat.zero_le _, rfl, rfl, Bx.mk (by simp), Bx.mk (Below.refl _ _)⟩
  case round =>
    obtain ⟨k, s, hk, rfl, rfl, HK, HW⟩ := hrel
    have B_w := Bx.mk (B_0.out.trans (HW.out.mono B_0.out.size))
    have X_w := Bx.mk (X_0.out.below HW.out)
    have T_w := Bx.mk (T_0.out.below HW.out)
    have Z_w := Bx.mk (Z_0.out.below HW.out)
    have y0 := X_w.out.c (k := 0) rfl
    have y1 := X_w.out.c (k := 1) rfl
    have y2 := X_w.out.c (k := 2) rfl
    have y3 := X_w.out.c (k := 3) rfl
    have yl := X_w.out.lt
    by_cases hlt : k < zs.length
    · obtain ⟨bb, oo, cc, hv, lb, hc⟩ := Z_w.out.form (by omega)
      injection hv with hA _ hC
      subst hA hC
      have c1 := hc k hlt
      have x1 : (0 : Int) ≤ (k : Int) := by omega
      have x2 : (k : Int) < (zs.length : Int) := by omega
      have dlt : decide ((k : Int) < (zs.length : Int)) = true := decide_eq_true x2
      have H0 := Bx.mk (runG_stop (l := G.a) (s := s) hlt)
      have H1 := Bx.mk (runG_go (l := G.a) (s := s) hlt)
      clear hc
      generalize zs.getD k 0 = z at c1 H0 H1
      have hq := impl_place G.n G.s (.slice B G.f.length b) C c G.a s z wr T_w.out ma HR.out
      go_wp2_with (fail)
      refine hq.mono ?_
      rintro r w1 ⟨j, rfl, hj, hb1⟩
      have HJ := Bx.mk hj
      have W_1 := Bx.mk (HW.out.trans (hb1.mono HW.out.size))
      have X_1 := Bx.mk (X_w.out.below hb1)
      have T_1 := Bx.mk (T_w.out.below hb1)
      clear hb1 hj hq y0 y1 y2 y3 yl c1 X_w T_w Z_w
      have y3 := X_1.out.c (k := 3) rfl
      have yl := X_1.out.lt
      cases hf : foundB G.a (s, z, 0) j
      · have hn := stepZ_none (found_no HR.out HJ.out hf)
        have HE : Bx (runG G.a G.s zs = (k, s)) := Bx.mk (by rw [HK.out, H0.out (by omega)]; simp)
        clear HK H0 H1 hn hf
        go_wp2_with (fail)
        go_ret2
        exact ⟨by rw [HE.out]; rfl, B_0.out.trans (W_1.out.mono B_0.out.size)⟩
      · obtain ⟨hs, hjl⟩ := found_yes HR.out hf
        have hn := stepZ_some hs
        have hp : ¬ stepZ G.a s z < 0 := by
          rcases HS.out s z with h | h
          · exfalso
            obtain ⟨bb2, oo2, cc2, hv2, lb2, hc2⟩ := T_1.out.form (by omega)
            have h5 := h
            rw [hn] at h5
            have := HAR.out j hjl
            omega
          · omega
        have HE : Bx (runG G.a G.s zs = ((runG G.a (tat G.a j).2.2 (zs.drop (k + 1))).1 + (k + 1), (runG G.a (tat G.a j).2.2 (zs.drop (k + 1))).2)) := Bx.mk (by rw [HK.out, H1.out (by omega), hn]; simp only [Prod.mk.injEq, and_true]; omega)
        obtain ⟨bb2, oo2, cc2, hv2, lb2, hc2⟩ := T_1.out.form (by omega)
        injection hv2 with hA2 _ hC2
        subst hA2 hC2
        have d3 := (hc2 j hjl).2.2
        have z1 : (0 : Int) ≤ (j : Int) := by omega
        have z2 : (j : Int) < (G.a.length : Int) := by omega
        clear HK H0 H1 hn hf hp hs hc2
        generalize (tat G.a j).2.2 = t at *
        go_wp2_with (fail)
        go_roundw
        case rel => exact ⟨k + 1, t, by omega, by go_num, rfl, HE, W_1⟩
        case measure => simp [intOf]; omega
    · obtain rfl : k = zs.length := by omega
      have dlt : decide ((zs.length : Int) < (zs.length : Int)) = false := decide_eq_false (by omega)
      have HE : Bx (runG G.a G.s zs = (zs.length, s)) := Bx.mk (by rw [HK.out, List.drop_length]; simp [runG])
      clear HK
      go_wp2_with (fail)
      go_ret2
      exact ⟨by rw [HE.out]; rfl, B_w.out⟩
set_option maxHeartbeats 2000000 in
theorem impl_acc7 (v : Value) (G : Gr) (u : Value) (zs : List Int) (w : World) (h : GrAt w v G) (hm : SmG G) (hok : OkGr G) (hz : IntsAt w u zs) (hl : zs.length ≤ 1048576) :
    Calls Try.prog 81 #[v, u] w fun e w' => e = .returned (.bool (accB G zs)) ∧ Below w.heap.size w w' := by
  obtain ⟨B, b, C, c, rfl, i1, i2⟩ := gr_form h
  obtain ⟨A, c0, rfl⟩ := ints_form hz
  have hb : Below w.heap.size w (w.alloc (.cells #[.int .i64 G.n, .int .i64 G.s, .slice B G.f.length b, .slice C G.a.length c] 30)) := (Below.refl _ _).alloc (Nat.le_refl _) _
  have hX := BoxN.at w w.heap.size #[.int .i64 G.n, .int .i64 G.s, .slice B G.f.length b, .slice C G.a.length c] 30 rfl
  have hq := impl_follow _ G _ zs _ (h.below hb) hm hok (hz.below hb) hl
  have F_0 := Bx.mk (i1.below hb)
  have mf := hm.f
  have HO : Bx (accB G zs = (decide ((runG G.a G.s zs).1 = zs.length) && hasB G.f (runG G.a G.s zs).2)) := Bx.mk rfl
  clear h hz i1 i2 hok hm
  generalize runG G.a G.s zs = r at *
  obtain ⟨r1, r2⟩ := r
  dsimp only at hq HO
  generalize hW : w.alloc (.cells #[.int .i64 G.n, .int .i64 G.s, .slice B G.f.length b, .slice C G.a.length c] 30) = W0 at *
  go_enter Try.func81, Try.ntmps81
  have B_0 := Bx.mk hb
  have X_0 := Bx.mk hX
  clear hb hX
  have y0 := X_0.out.c (k := 0) rfl
  have y1 := X_0.out.c (k := 1) rfl
  have y2 := X_0.out.c (k := 2) rfl
  have y3 := X_0.out.c (k := 3) rfl
  have yl := X_0.out.lt
  go_wp2_with (fail)
  clear hW
  refine hq.mono ?_
  rintro r w1 ⟨rfl, hb1⟩
  have B_1 := Bx.mk (B_0.out.trans (hb1.mono B_0.out.size))
  have X_1 := Bx.mk (X_0.out.below hb1)
  have hf := impl_isfinal G.n G.s B b G.f (.slice C G.a.length c) r2 w1 (F_0.out.below hb1) mf
  clear hb1 hq y0 y1 y2 y3 yl
  have y0 := X_1.out.c (k := 0) rfl
  have y1 := X_1.out.c (k := 1) rfl
  have y2 := X_1.out.c (k := 2) rfl
  have y3 := X_1.out.c (k := 3) rfl
  have yl := X_1.out.lt
  generalize hasB G.f r2 = hb at *
  by_cases he : r1 = zs.length
  · have d1 : ((r1 : Int) == (zs.length : Int)) = true := by simp; omega
    have HE : Bx (accB G zs = hb) := Bx.mk (by rw [HO.out, decide_eq_true he]; rfl)
    clear HO he
    go_wp2_with (fail)
    refine hf.mono ?_
    rintro r w2 ⟨rfl, hb2⟩
    have B_2 := Bx.mk (B_1.out.trans (hb2.mono B_1.out.size))
    clear hb2
    go_wp2_with (fail)
    go_ret
    exact ⟨ret_bool HE.out.symm, B_2.out⟩
  · have d1 : ((r1 : Int) == (zs.length : Int)) = false := by simp; omega
    have HE : Bx (accB G zs = false) := Bx.mk (by rw [HO.out, decide_eq_false he]; rfl)
    clear HO he
    go_wp2_with (fail)
    go_ret
    exact ⟨ret_bool HE.out.symm, B_1.out⟩
theorem impl_accepts (v u : Value) (G : Gr) (zs : List Int) (w : World) (h : GrAt w v G) (hm : SmG G) (hz : IntsAt w u zs) (hl : zs.length ≤ 1048576) :
    Calls Try.prog 32 #[v, u] w fun e w' => e = .returned (.bool (acceptsE G zs)) ∧ Below w.heap.size w w' := by
  obtain ⟨B, b, C, c, rfl, h1, h2⟩ := gr_form h
  obtain ⟨A, c0, rfl⟩ := ints_form hz
  have hb : Below w.heap.size w (w.alloc (.cells #[.int .i64 G.n, .int .i64 G.s, .slice B G.f.length b, .slice C G.a.length c] 30)) := (Below.refl _ _).alloc (Nat.le_refl _) _
  have hX := BoxN.at w w.heap.size #[.int .i64 G.n, .int .i64 G.s, .slice B G.f.length b, .slice C G.a.length c] 30 rfl
  have hG := h.below hb
  have hZ := hz.below hb
  have hk := impl_validgr _ G _ hG hm
  have HO : Bx (acceptsE G zs = (okGr G && accB G zs)) := Bx.mk rfl
  have HM := Bx.mk hm
  have HOK := Bx.mk (ok_of (G := G))
  clear h h1 h2 hz hm
  generalize hok : okGr G = ok at *
  generalize hW : w.alloc (.cells #[.int .i64 G.n, .int .i64 G.s, .slice B G.f.length b, .slice C G.a.length c] 30) = W0 at *
  go_enter Try.func32, Try.ntmps32
  have B_0 := Bx.mk hb
  have X_0 := Bx.mk hX
  have G_0 := Bx.mk hG
  have Z_0 := Bx.mk hZ
  clear hb hX hG hZ hok
  have y0 := X_0.out.c (k := 0) rfl
  have y1 := X_0.out.c (k := 1) rfl
  have y2 := X_0.out.c (k := 2) rfl
  have y3 := X_0.out.c (k := 3) rfl
  have yl := X_0.out.lt
  go_wp2_with (fail)
  clear hW
  refine hk.mono ?_
  rintro r w1 ⟨rfl, hb1⟩
  have B_1 := Bx.mk (B_0.out.trans (hb1.mono B_0.out.size))
  have X_1 := Bx.mk (X_0.out.below hb1)
  have G_1 := Bx.mk (G_0.out.below hb1)
  have Z_1 := Bx.mk (Z_0.out.below hb1)
  clear hb1 hk y0 y1 y2 y3 yl
  have y0 := X_1.out.c (k := 0) rfl
  have y1 := X_1.out.c (k := 1) rfl
  have y2 := X_1.out.c (k := 2) rfl
  have y3 := X_1.out.c (k := 3) rfl
  have yl := X_1.out.lt
  cases ok
  · have HE : Bx (acceptsE G zs = false) := Bx.mk (by rw [HO.out]; rfl)
    clear HO
    go_wp2_with (fail)
    go_ret
    exact ⟨ret_bool HE.out.symm, B_1.out⟩
  · have HE : Bx (acceptsE G zs = accB G zs) := Bx.mk (by rw [HO.out]; rfl)
    have hq := impl_acc7 _ G _ zs w1 G_1.out HM.out (HOK.out rfl) Z_1.out hl
    clear HO
    go_wp2_with (fail)
    refine hq.mono ?_
    rintro r w2 ⟨rfl, hb2⟩
    have B_2 := Bx.mk (B_1.out.trans (hb2.mono B_1.out.size))
    clear hb2
    go_wp2_with (fail)
    go_ret
    exact ⟨ret_bool HE.out.symm, B_2.out⟩
end Go.Proofs.Ytpbgjlmcafmejaa
