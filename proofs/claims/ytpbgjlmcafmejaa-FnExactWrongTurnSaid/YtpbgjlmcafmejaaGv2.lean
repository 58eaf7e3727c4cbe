/- Valid grammars: the program. -/
import Derived.Test.YtpbgjlmcafmejaaGv
import Derived.Test.YtpbgjlmcafmejaaGi
namespace Go.Proofs.Ytpbgjlmcafmejaa
open Go.ChangeShapes Go.WideShapes Go.ChangeAt Go.RowKit
set_option linter.unusedVariables false
set_option linter.unusedSimpArgs false
set_option maxRecDepth 100000

theorem inZ_no {n : Int} {zs : List Int} (k : Nat) (h : k < zs.length) (hn : stB n (zs.getD k 0) = false) : inZ n zs = false := decide_eq_false (fun hh => by rw [hh k h] at hn; cases hn)
theorem inZ_yes {n : Int} {zs : List Int} (h : ∀ i, i < zs.length → stB n (zs.getD i 0) = true) : inZ n zs = true := decide_eq_true h
theorem inA_no {n : Int} {l : List (Int × Int × Int)} (k : Nat) (h : k < l.length) (hn : arcB n (tat l k) = false) : inA n l = false := decide_eq_false (fun hh => by rw [hh k h] at hn; cases hn)
theorem inA_yes {n : Int} {l : List (Int × Int × Int)} (h : ∀ i, i < l.length → arcB n (tat l i) = true) : inA n l = true := decide_eq_true h
theorem arcB_st {n a b c : Int} : arcB n (a, b, c) = (stB n a && (inB b (-12) 23 && stB n c)) := by
  rw [Bool.eq_iff_iff, arcB_iff]
  simp only [stB, inB, Bool.and_eq_true, decide_eq_true_eq]
set_option maxHeartbeats 4000000 in
theorem impl_validgr (v : Value) (G : Gr) (w : World) (h : GrAt w v G) (hm : SmG G) :
    Calls Try.prog 18 #[v] w fun e w' => e = .returned (.bool (okGr G)) ∧ Below w.heap.size w w' := by
  obtain ⟨B, b, C, c, rfl, i1, i2⟩ := gr_form h
  have hb : Below w.heap.size w (w.alloc (.cells #[.int .i64 G.n, .int .i64 G.s, .slice B G.f.length b, .slice C G.a.length c] 30)) := (Below.refl _ _).alloc (Nat.le_refl _) _
  have hX := BoxN.at w w.heap.size #[.int .i64 G.n, .int .i64 G.s, .slice B G.f.length b, .slice C G.a.length c] 30 rfl
  have hI := i1.below hb
  have hT := i2.below hb
  have HO := Bx.mk (ok_split G)
  have HM := Bx.mk hm
  have con0 := fun W => impl_great G.n G.s B C G.f.length b G.a.length c G.a W rfl
  have con1 := fun W => impl_hasst G.n G.s G.s (.slice B G.f.length b) (.slice C G.a.length c) W
  have qs := fun x W => impl_hasst G.n G.s x (.slice B G.f.length b) (.slice C G.a.length c) W
  have mf := hm.f
  have ma := hm.a
  clear h hm i1 i2
  go_enter Try.func18, Try.ntmps18
  obtain ⟨g, hg⟩ : ∃ x, x = w.heap.size := ⟨_, rfl⟩
  generalize hW : w.alloc (.cells #[.int .i64 G.n, .int .i64 G.s, .slice B G.f.length b, .slice C G.a.length c] 30) = W0 at *
  have B_0 := Bx.mk hb
  have X_0 := Bx.mk hX
  have I_0 := Bx.mk hI
  have T_0 := Bx.mk hT
  clear hb hX hI hT
  have y0 := X_0.out.c (k := 0) rfl
  have y1 := X_0.out.c (k := 1) rfl
  have y2 := X_0.out.c (k := 2) rfl
  have y3 := X_0.out.c (k := 3) rfl
  have yl := X_0.out.lt
  go_wp2_with (fail)
  clear hW hg
  have hc := con0 W0
  obtain ⟨b0, hb0⟩ : ∃ x, x = greatB G.n G.a := ⟨_, rfl⟩
  rw [← hb0] at hc
  have Hb0 := Bx.mk hb0
  clear hb0
  refine hc.mono ?_
  clear hc
  rintro r q1 ⟨rfl, hb⟩
  have B_1 := Bx.mk (B_0.out.trans (hb.mono B_0.out.size))
  have X_1 := Bx.mk (X_0.out.below hb)
  have I_1 := Bx.mk (I_0.out.below hb)
  have T_1 := Bx.mk (T_0.out.below hb)
  clear B_0 X_0 I_0 T_0 y0 y1 y2 y3 yl hb
  have y0 := X_1.out.c (k := 0) rfl
  have y1 := X_1.out.c (k := 1) rfl
  have y2 := X_1.out.c (k := 2) rfl
  have y3 := X_1.out.c (k := 3) rfl
  have yl := X_1.out.lt
  cases b0
  case true =>
    have HE : Bx (okGr G = false) := Bx.mk (by rw [HO.out, ← Hb0.out]; simp)
    clear HO
    go_wp2_with (fail)
    go_ret
    exact ⟨ret_bool HE.out.symm, B_1.out⟩
  case false =>
    go_wp2_with (fail)
    have hc := con1 q1
    obtain ⟨b1, hb1⟩ : ∃ x, x = stB G.n G.s := ⟨_, rfl⟩
    rw [← hb1] at hc
    have Hb1 := Bx.mk hb1
    clear hb1
    refine hc.mono ?_
    clear hc
    rintro r q2 ⟨rfl, hb⟩
    have B_2 := Bx.mk (B_1.out.trans (hb.mono B_1.out.size))
    have X_2 := Bx.mk (X_1.out.below hb)
    have I_2 := Bx.mk (I_1.out.below hb)
    have T_2 := Bx.mk (T_1.out.below hb)
    clear B_1 X_1 I_1 T_1 y0 y1 y2 y3 yl hb
    have y0 := X_2.out.c (k := 0) rfl
    have y1 := X_2.out.c (k := 1) rfl
    have y2 := X_2.out.c (k := 2) rfl
    have y3 := X_2.out.c (k := 3) rfl
    have yl := X_2.out.lt
    cases b1
    · have HE : Bx (okGr G = false) := Bx.mk (by rw [HO.out, ← Hb0.out, ← Hb1.out]; simp)
      clear HO
      go_wp2_with (fail)
      go_ret
      exact ⟨ret_bool HE.out.symm, B_2.out⟩
    · skip
      go_wp2_with (fail)
      have hc := (impl_incI _ G.f _ I_2.out HM.out.f)
      obtain ⟨b2, hb2⟩ : ∃ x, x = incI G.f := ⟨_, rfl⟩
      rw [← hb2] at hc
      have Hb2 := Bx.mk hb2
      clear hb2
      refine hc.mono ?_
      clear hc
      rintro r q3 ⟨rfl, hb⟩
      have B_3 := Bx.mk (B_2.out.trans (hb.mono B_2.out.size))
      have X_3 := Bx.mk (X_2.out.below hb)
      have I_3 := Bx.mk (I_2.out.below hb)
      have T_3 := Bx.mk (T_2.out.below hb)
      clear B_2 X_2 I_2 T_2 y0 y1 y2 y3 yl hb
      have y0 := X_3.out.c (k := 0) rfl
      have y1 := X_3.out.c (k := 1) rfl
      have y2 := X_3.out.c (k := 2) rfl
      have y3 := X_3.out.c (k := 3) rfl
      have yl := X_3.out.lt
      cases b2
      · have HE : Bx (okGr G = false) := Bx.mk (by rw [HO.out, ← Hb0.out, ← Hb1.out, ← Hb2.out]; simp)
        clear HO
        go_wp2_with (fail)
        go_ret
        exact ⟨ret_bool HE.out.symm, B_3.out⟩
      · skip
        go_wp2_with (fail)
        have hc := (impl_incA _ G.a _ T_3.out HM.out.a)
        obtain ⟨b3, hb3⟩ : ∃ x, x = incA G.a := ⟨_, rfl⟩
        rw [← hb3] at hc
        have Hb3 := Bx.mk hb3
        clear hb3
        refine hc.mono ?_
        clear hc
        rintro r q4 ⟨rfl, hb⟩
        have B_4 := Bx.mk (B_3.out.trans (hb.mono B_3.out.size))
        have X_4 := Bx.mk (X_3.out.below hb)
        have I_4 := Bx.mk (I_3.out.below hb)
        have T_4 := Bx.mk (T_3.out.below hb)
        clear B_3 X_3 I_3 T_3 y0 y1 y2 y3 yl hb
        have y0 := X_4.out.c (k := 0) rfl
        have y1 := X_4.out.c (k := 1) rfl
        have y2 := X_4.out.c (k := 2) rfl
        have y3 := X_4.out.c (k := 3) rfl
        have yl := X_4.out.lt
        cases b3
        · have HE : Bx (okGr G = false) := Bx.mk (by rw [HO.out, ← Hb0.out, ← Hb1.out, ← Hb2.out, ← Hb3.out]; simp)
          clear HO
          go_wp2_with (fail)
          go_ret
          exact ⟨ret_bool HE.out.symm, B_4.out⟩
        · skip
          go_wp2_with (fail)
          have HO2 : Bx (okGr G = (inZ G.n G.f && inA G.n G.a)) := Bx.mk (by rw [HO.out, ← Hb0.out, ← Hb1.out, ← Hb2.out, ← Hb3.out]; simp)
          clear HO Hb0 Hb1 Hb2 Hb3 con0 con1
          clear y0 y1 y2 y3 yl
          go_loopw [29] (fun i wr => ∃ k : Nat, k ≤ G.f.length ∧ i = .int .i64 k ∧ Bx (∀ i, i < k → stB G.n (G.f.getD i 0) = true) ∧ Bx (Below q4.heap.size q4 wr)) (fun i _ => G.f.length - (intOf i).toNat)
          case atStart => exact ⟨0, Nat.zero_le _, rfl, Bx.mk (fun i hi => by omega), Bx.mk (Below.refl _ _)⟩
          case round =>
            obtain ⟨k, hk, rfl, HK, HW⟩ := hrel
            have B_w := Bx.mk (B_4.out.trans (HW.out.mono B_4.out.size))
            have X_w := Bx.mk (X_4.out.below HW.out)
            have I_w := Bx.mk (I_4.out.below HW.out)
            have T_w := Bx.mk (T_4.out.below HW.out)
            have y0 := X_w.out.c (k := 0) rfl
            have y1 := X_w.out.c (k := 1) rfl
            have y2 := X_w.out.c (k := 2) rfl
            have y3 := X_w.out.c (k := 3) rfl
            have yl := X_w.out.lt
            by_cases hlt : k < G.f.length
            · obtain ⟨bb, oo, cc, hv, lb, hc⟩ := I_w.out.form (by omega)
              injection hv with hA _ hC
              subst hA hC
              have c1 := hc k hlt
              have dlt : decide ((k : Int) < (G.f.length : Int)) = true := decide_eq_true (by omega)
              have x1 : (0 : Int) ≤ (k : Int) := by omega
              have x2 : (k : Int) < (G.f.length : Int) := by omega
              have HN := Bx.mk (inZ_no (n := G.n) (zs := G.f) k hlt)
              obtain ⟨x, hx⟩ : ∃ x, x = G.f.getD k 0 := ⟨_, rfl⟩
              rw [← hx] at c1 HN
              have HX := Bx.mk hx
              clear hx hc
              have hq := fun W => qs x W
              cases hs : stB G.n x
              · rw [hs] at hq
                have HE : Bx (okGr G = false) := Bx.mk (by rw [HO2.out, HN.out hs]; rfl)
                clear HO2 HK HN hs
                go_wp2_with (fail)
                refine (hq _).mono ?_
                rintro r w1 ⟨rfl, hb⟩
                have B_1 := Bx.mk (B_w.out.trans (hb.mono B_w.out.size))
                clear hb
                go_wp2_with (fail)
                go_ret
                exact ⟨ret_bool HE.out.symm, B_1.out⟩
              · rw [hs] at hq
                have HS : Bx (∀ i, i < k + 1 → stB G.n (G.f.getD i 0) = true) := Bx.mk (fun i hi => by
                  by_cases hij : i < k
                  · exact HK.out i hij
                  · obtain rfl : i = k := (by omega)
                    rw [← HX.out]; exact hs)
                clear HO2 HK HN hs
                go_wp2_with (fail)
                refine (hq _).mono ?_
                rintro r w1 ⟨rfl, hb⟩
                have W_1 := Bx.mk (HW.out.trans (hb.mono HW.out.size))
                clear hb
                go_wp2_with (fail)
                go_roundw
                case rel => exact ⟨k + 1, by omega, by go_num, HS, W_1⟩
                case measure => simp [intOf]; omega
            · obtain rfl : k = G.f.length := by omega
              have dlt : decide ((G.f.length : Int) < (G.f.length : Int)) = false := decide_eq_false (by omega)
              have HO3 : Bx (okGr G = inA G.n G.a) := Bx.mk (by rw [HO2.out, inZ_yes HK.out]; rfl)
              clear HO2 HK
              go_wp2_with (fail)
              clear y0 y1 y2 y3 yl
              obtain ⟨wf, hwf⟩ : ∃ x, x = wr := ⟨_, rfl⟩
              subst hwf
              go_loopw [41] (fun i wz => ∃ k : Nat, k ≤ G.a.length ∧ i = .int .i64 k ∧ Bx (∀ i, i < k → arcB G.n (tat G.a i) = true) ∧ Bx (Below wf.heap.size wf wz)) (fun i _ => G.a.length - (intOf i).toNat)
              case atStart => exact ⟨0, Nat.zero_le _, rfl, Bx.mk (fun i hi => by omega), Bx.mk (Below.refl _ _)⟩
              case round =>
                obtain ⟨k, hk, rfl, HK, HZ⟩ := hrel
                have B_z := Bx.mk (B_w.out.trans (HZ.out.mono B_w.out.size))
                have X_z := Bx.mk (X_w.out.below HZ.out)
                have T_z := Bx.mk (T_w.out.below HZ.out)
                have y0 := X_z.out.c (k := 0) rfl
                have y1 := X_z.out.c (k := 1) rfl
                have y2 := X_z.out.c (k := 2) rfl
                have y3 := X_z.out.c (k := 3) rfl
                have yl := X_z.out.lt
                by_cases hlt : k < G.a.length
                · obtain ⟨bb, oo, cc, hv, lb, hc⟩ := T_z.out.form (by omega)
                  injection hv with hA _ hC
                  subst hA hC
                  have c1 := (hc k hlt).1
                  have c2 := (hc k hlt).2.1
                  have c3 := (hc k hlt).2.2
                  have dlt : decide ((k : Int) < (G.a.length : Int)) = true := decide_eq_true (by omega)
                  have x1 : (0 : Int) ≤ (k : Int) := by omega
                  have x2 : (k : Int) < (G.a.length : Int) := by omega
                  have HN := Bx.mk (inA_no (n := G.n) (l := G.a) k hlt)
                  obtain ⟨p, hp⟩ : ∃ x, x = tat G.a k := ⟨_, rfl⟩
                  rw [← hp] at c1 c2 c3 HN
                  have HP := Bx.mk hp
                  clear hp hc
                  obtain ⟨p1, p2, p3⟩ := p
                  dsimp only at c1 c2 c3
                  rw [arcB_st] at HN
                  go_wp2_with (fail)
                  have bA : Below wr.heap.size wr (wr.alloc (.cells #[.int .i64 p1, .int .i64 p2, .int .i64 p3] 76)) := (Below.refl _ _).alloc (Nat.le_refl _) _
                  have Z_1 := Bx.mk (HZ.out.trans (bA.mono HZ.out.size))
                  have XA := Bx.mk (BoxN.at wr wr.heap.size #[.int .i64 p1, .int .i64 p2, .int .i64 p3] 76 rfl)
                  have XX := Bx.mk (X_z.out.below bA)
                  clear c1 c2 c3 y0 y1 y2 y3 bA lb
                  obtain ⟨ga, hga⟩ : ∃ x, x = wr.heap.size := ⟨_, rfl⟩
                  rw [← hga] at XA ⊢
                  clear hga
                  generalize hW : wr.alloc (.cells #[.int .i64 p1, .int .i64 p2, .int .i64 p3] 76) = W1 at *
                  clear hW
                  have y0 := XX.out.c (k := 0) rfl
                  have y1 := XX.out.c (k := 1) rfl
                  have y2 := XX.out.c (k := 2) rfl
                  have y3 := XX.out.c (k := 3) rfl
                  have u0 := XA.out.c (k := 0) rfl
                  have u1 := XA.out.c (k := 1) rfl
                  have u2 := XA.out.c (k := 2) rfl
                  have yl := XX.out.lt
                  have ul := XA.out.lt
                  have hc := fun W => qs p1 W
                  cases e0 : stB G.n p1
                  · rw [e0] at hc
                    have HE : Bx (okGr G = false) := Bx.mk (by rw [HO3.out, HN.out (by rw [e0]; simp)])
                    clear HO3 HN HK
                    refine (hc _).mono ?_
                    rintro r w1 ⟨rfl, hb⟩
                    have Z_1 := Bx.mk (Z_1.out.trans (hb.mono Z_1.out.size))
                    have XA := Bx.mk (XA.out.below hb)
                    have XX := Bx.mk (XX.out.below hb)
                    clear hb y0 y1 y2 y3 u0 u1 u2 yl ul
                    have y0 := XX.out.c (k := 0) rfl
                    have y1 := XX.out.c (k := 1) rfl
                    have y2 := XX.out.c (k := 2) rfl
                    have y3 := XX.out.c (k := 3) rfl
                    have u0 := XA.out.c (k := 0) rfl
                    have u1 := XA.out.c (k := 1) rfl
                    have u2 := XA.out.c (k := 2) rfl
                    have yl := XX.out.lt
                    have ul := XA.out.lt
                    go_wp2_with (fail)
                    go_ret
                    exact ⟨ret_bool HE.out.symm, B_w.out.trans (Z_1.out.mono B_w.out.size)⟩
                  · rw [e0] at hc
                    refine (hc _).mono ?_
                    rintro r w1 ⟨rfl, hb⟩
                    have Z_1 := Bx.mk (Z_1.out.trans (hb.mono Z_1.out.size))
                    have XA := Bx.mk (XA.out.below hb)
                    have XX := Bx.mk (XX.out.below hb)
                    clear hb y0 y1 y2 y3 u0 u1 u2 yl ul
                    have y0 := XX.out.c (k := 0) rfl
                    have y1 := XX.out.c (k := 1) rfl
                    have y2 := XX.out.c (k := 2) rfl
                    have y3 := XX.out.c (k := 3) rfl
                    have u0 := XA.out.c (k := 0) rfl
                    have u1 := XA.out.c (k := 1) rfl
                    have u2 := XA.out.c (k := 2) rfl
                    have yl := XX.out.lt
                    have ul := XA.out.lt
                    go_wp2_with (fail)
                    clear hc
                    have hc := fun W => impl_ispitch p2 W
                    cases e1 : inB p2 (-12) 23
                    · rw [e1] at hc
                      have HE : Bx (okGr G = false) := Bx.mk (by rw [HO3.out, HN.out (by rw [e0, e1]; simp)])
                      clear HO3 HN HK
                      refine (hc _).mono ?_
                      rintro r w1 ⟨rfl, rfl⟩
                      clear y0 y1 y2 y3 u0 u1 u2 yl ul
                      have y0 := XX.out.c (k := 0) rfl
                      have y1 := XX.out.c (k := 1) rfl
                      have y2 := XX.out.c (k := 2) rfl
                      have y3 := XX.out.c (k := 3) rfl
                      have u0 := XA.out.c (k := 0) rfl
                      have u1 := XA.out.c (k := 1) rfl
                      have u2 := XA.out.c (k := 2) rfl
                      have yl := XX.out.lt
                      have ul := XA.out.lt
                      go_wp2_with (fail)
                      go_ret
                      exact ⟨ret_bool HE.out.symm, B_w.out.trans (Z_1.out.mono B_w.out.size)⟩
                    · rw [e1] at hc
                      refine (hc _).mono ?_
                      rintro r w1 ⟨rfl, rfl⟩
                      clear y0 y1 y2 y3 u0 u1 u2 yl ul
                      have y0 := XX.out.c (k := 0) rfl
                      have y1 := XX.out.c (k := 1) rfl
                      have y2 := XX.out.c (k := 2) rfl
                      have y3 := XX.out.c (k := 3) rfl
                      have u0 := XA.out.c (k := 0) rfl
                      have u1 := XA.out.c (k := 1) rfl
                      have u2 := XA.out.c (k := 2) rfl
                      have yl := XX.out.lt
                      have ul := XA.out.lt
                      go_wp2_with (fail)
                      clear hc
                      have hc := fun W => qs p3 W
                      cases e2 : stB G.n p3
                      · rw [e2] at hc
                        have HE : Bx (okGr G = false) := Bx.mk (by rw [HO3.out, HN.out (by rw [e0, e1, e2]; simp)])
                        clear HO3 HN HK
                        refine (hc _).mono ?_
                        rintro r w1 ⟨rfl, hb⟩
                        have Z_1 := Bx.mk (Z_1.out.trans (hb.mono Z_1.out.size))
                        have XA := Bx.mk (XA.out.below hb)
                        have XX := Bx.mk (XX.out.below hb)
                        clear hb y0 y1 y2 y3 u0 u1 u2 yl ul
                        have y0 := XX.out.c (k := 0) rfl
                        have y1 := XX.out.c (k := 1) rfl
                        have y2 := XX.out.c (k := 2) rfl
                        have y3 := XX.out.c (k := 3) rfl
                        have u0 := XA.out.c (k := 0) rfl
                        have u1 := XA.out.c (k := 1) rfl
                        have u2 := XA.out.c (k := 2) rfl
                        have yl := XX.out.lt
                        have ul := XA.out.lt
                        go_wp2_with (fail)
                        go_ret
                        exact ⟨ret_bool HE.out.symm, B_w.out.trans (Z_1.out.mono B_w.out.size)⟩
                      · rw [e2] at hc
                        have HS : Bx (∀ i, i < k + 1 → arcB G.n (tat G.a i) = true) := Bx.mk (fun i hi => by
                          by_cases hij : i < k
                          · exact HK.out i hij
                          · obtain rfl : i = k := (by omega)
                            rw [← HP.out, arcB_st, e0, e1, e2]; rfl)
                        clear HO3 HN HK
                        refine (hc _).mono ?_
                        rintro r w1 ⟨rfl, hb⟩
                        have Z_1 := Bx.mk (Z_1.out.trans (hb.mono Z_1.out.size))
                        have XA := Bx.mk (XA.out.below hb)
                        have XX := Bx.mk (XX.out.below hb)
                        clear hb y0 y1 y2 y3 u0 u1 u2 yl ul
                        have y0 := XX.out.c (k := 0) rfl
                        have y1 := XX.out.c (k := 1) rfl
                        have y2 := XX.out.c (k := 2) rfl
                        have y3 := XX.out.c (k := 3) rfl
                        have u0 := XA.out.c (k := 0) rfl
                        have u1 := XA.out.c (k := 1) rfl
                        have u2 := XA.out.c (k := 2) rfl
                        have yl := XX.out.lt
                        have ul := XA.out.lt
                        go_wp2_with (fail)
                        go_roundw
                        case rel => exact ⟨k + 1, by omega, by go_num, HS, Z_1⟩
                        case measure => simp [intOf]; omega
                · obtain rfl : k = G.a.length := by omega
                  have dlt : decide ((G.a.length : Int) < (G.a.length : Int)) = false := decide_eq_false (by omega)
                  have HE : Bx (okGr G = true) := Bx.mk (HO3.out.trans (inA_yes HK.out))
                  clear HO3 HK
                  go_wp2_with (fail)
                  go_ret
                  exact ⟨ret_bool HE.out.symm, B_z.out⟩
end Go.Proofs.Ytpbgjlmcafmejaa
