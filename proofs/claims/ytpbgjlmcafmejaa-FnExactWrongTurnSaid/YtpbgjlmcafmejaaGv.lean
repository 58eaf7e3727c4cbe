/- Valid grammars: the model. -/
import Derived.Test.YtpbgjlmcafmejaaGvM
namespace Go.Proofs.Ytpbgjlmcafmejaa
open Go.ChangeShapes Go.WideShapes Go.ChangeAt Go.RowKit
set_option linter.unusedVariables false
set_option linter.unusedSimpArgs false
set_option maxRecDepth 100000

def PtrGr (w : World) (g : Nat) (G : Gr) : Prop := ∃ xs, BoxN w g xs 30 ∧ GrAt w (.agg xs) G
theorem PtrGr.below {w w' : World} {g : Nat} {G : Gr} (h : PtrGr w g G) (hb : Below w.heap.size w w') : PtrGr w' g G := by
  obtain ⟨xs, h1, h2⟩ := h
  exact ⟨xs, h1.below hb, h2.below hb⟩
theorem ptrgr_form {w : World} {g : Nat} {G : Gr} (h : PtrGr w g G) : ∃ B b C c, BoxN w g #[.int .i64 G.n, .int .i64 G.s, .slice B G.f.length b, .slice C G.a.length c] 30 ∧ IntsAt w (.slice B G.f.length b) G.f ∧ TrsAt w (.slice C G.a.length c) G.a := by
  obtain ⟨xs, h1, h2⟩ := h
  obtain ⟨B, b, C, c, e, i1, i2⟩ := gr_form h2
  injection e with e
  subst e
  exact ⟨B, b, C, c, h1, i1, i2⟩
theorem spec_risesE (v : Value) (zs : List Int) (lo hi : Int) (w : World) (h : IntsAt w v zs) (hm : zs.length ≤ 281474976710656) :
    Calls Try.prog 110 #[v, .int .i64 lo, .int .i64 hi] w fun e w' => e = .returned (.bool (riseB lo hi zs)) ∧ ∃ n, w' = w.drewN n := by
  rcases Nat.eq_zero_or_pos zs.length with h0 | h0
  · obtain rfl := List.eq_nil_of_length_eq_zero h0
    obtain ⟨A, c, rfl⟩ := ints_form h
    have HE : Bx (riseB lo hi [] = true) := Bx.mk (rise_yes (fun i hi => by simp at hi))
    clear h h0 hm
    go_enter Try.func110, Try.ntmps110
    go_wp2_with (fail)
    refine wp_loop_rounds 1 ?_
    rw [rounds_succ]
    go_wp2
    go_ret
    exact ⟨ret_bool HE.out.symm, 0, rfl⟩
  · exact spec_rises v zs lo hi w h h0 hm
theorem hcell3 {w W : World} {b x y z : Nat} {p q r : Value} (hb : Below w.heap.size w W) (hl : b < w.heap.size) (h : w.cell? ⟨b, x, none⟩ = some p ∧ w.cell? ⟨b, y, none⟩ = some q ∧ w.cell? ⟨b, z, none⟩ = some r) :
    W.cell? ⟨b, x, none⟩ = some p ∧ W.cell? ⟨b, y, none⟩ = some q ∧ W.cell? ⟨b, z, none⟩ = some r :=
  ⟨(hb.cell (p := ⟨b, x, none⟩) hl).trans h.1, (hb.cell (p := ⟨b, y, none⟩) hl).trans h.2.1, (hb.cell (p := ⟨b, z, none⟩) hl).trans h.2.2⟩
set_option maxHeartbeats 4000000 in
theorem spec_grok (g : Nat) (G : Gr) (w : World) (h : PtrGr w g G) (hm : SmG G) :
    Calls Try.prog 54 #[.pointer (some ⟨g, 0, none⟩)] w fun e w' => e = .returned (.bool (okGr G)) ∧ Below w.heap.size w w' := by
  obtain ⟨B, b, C, c, hx, i1, i2⟩ := ptrgr_form h
  have h0 := hx.c (k := 0) rfl
  have h1 := hx.c (k := 1) rfl
  have h2 := hx.c (k := 2) rfl
  have h3 := hx.c (k := 3) rfl
  have hl := hx.lt
  have HX := Bx.mk hx
  have HT := Bx.mk i2
  have HI := Bx.mk i1
  have q0 := fun W => in_any G.n 1 32 W
  have q1 := fun W => in_any G.s 0 (G.n - 1) W
  have q2 := fun m => spec_risesE _ G.f 0 (G.n - 1) (w.drewN m) i1 (Nat.le_trans hm.f (by decide))
  have HO : Bx (okGr G = (inB G.n 1 32 && (inB G.s 0 (G.n - 1) && (riseB 0 (G.n - 1) G.f && (decide (G.a.length ≤ 256) && arcsB G.n G.a))))) := Bx.mk rfl
  have hwf := wf_bounds hm.n
  have HA := Bx.mk hm.a
  clear h hx i1 i2 hm
  cases e0 : inB G.n 1 32
  · simp only [e0] at q0
    have HE : Bx (okGr G = false) := Bx.mk (by rw [HO.out, e0]; simp)
    clear HO HX HT HI HA e0 q1 q2
    go_enter Try.func54, Try.ntmps54
    go_wp2_with (fail)
    go_quiet (first | (go_at_call 70; with_reducible exact quiet_eq (q0 _)) | (go_at_call 70; with_reducible exact quiet_eq (q1 _)) | (go_at_call 110; with_reducible exact quiet_dr (q2 _)))
    go_wp2_with (fail)
    go_ret
    exact ⟨ret_bool HE.out.symm, below_draws (Below.refl _ _) _⟩
  · simp only [e0] at q0
    cases e1 : inB G.s 0 (G.n - 1)
    · simp only [e1] at q1
      have hsub : IntKind.i64.wrap (G.n - 1) = G.n - 1 := IntWalk.i64_in _ (by have := inB_yes e0; omega)
      have HE : Bx (okGr G = false) := Bx.mk (by rw [HO.out, e0, e1]; simp)
      clear HO HX HT HI HA e0 e1 q2
      go_enter Try.func54, Try.ntmps54
      go_wp2_with (fail)
      go_quiet (first | (go_at_call 70; with_reducible exact quiet_eq (q0 _)) | (go_at_call 70; with_reducible exact quiet_eq (q1 _)) | (go_at_call 110; with_reducible exact quiet_dr (q2 _)))
      go_wp2_with (fail)
      go_ret
      exact ⟨ret_bool HE.out.symm, below_draws (Below.refl _ _) _⟩
    · simp only [e1] at q1
      cases e2 : riseB 0 (G.n - 1) G.f
      · simp only [e2] at q2
        have hsub : IntKind.i64.wrap (G.n - 1) = G.n - 1 := IntWalk.i64_in _ (by have := inB_yes e0; omega)
        have HE : Bx (okGr G = false) := Bx.mk (by rw [HO.out, e0, e1, e2]; simp)
        clear HO HX HT HI HA e0 e1 e2
        go_enter Try.func54, Try.ntmps54
        go_wp2_with (fail)
        go_quiet (first | (go_at_call 70; with_reducible exact quiet_eq (q0 _)) | (go_at_call 70; with_reducible exact quiet_eq (q1 _)) | (go_at_call 110; with_reducible exact quiet_dr (q2 _)))
        go_wp2_with (fail)
        go_ret
        exact ⟨ret_bool HE.out.symm, below_draws (Below.refl _ _) _⟩
      · simp only [e2] at q2
        have hn := inB_yes e0
        have hsub : IntKind.i64.wrap (G.n - 1) = G.n - 1 := IntWalk.i64_in _ (by omega)
        by_cases hal : G.a.length ≤ 256
        · have dal : decide ((G.a.length : Int) > 256) = false := decide_eq_false (by omega)
          have HO2 : Bx (okGr G = arcsB G.n G.a) := Bx.mk (by rw [HO.out, e0, e1, e2, decide_eq_true hal]; rfl)
          clear HO e0 e1 e2
          go_enter Try.func54, Try.ntmps54
          go_wp2_with (fail)
          go_quiet (first | (go_at_call 70; with_reducible exact quiet_eq (q0 _)) | (go_at_call 70; with_reducible exact quiet_eq (q1 _)) | (go_at_call 110; with_reducible exact quiet_dr (q2 _)))
          go_wp2_with (fail)
          clear q0 q1 q2
          go_loopw [3] (fun i wr => ∃ k : Nat, k ≤ G.a.length ∧ i = .int .i64 k ∧ Bx (∀ i, i < k → stepA G.n G.a i) ∧ Bx (Below w.heap.size w wr)) (fun i _ => G.a.length - (intOf i).toNat)
          case atStart => exact ⟨0, Nat.zero_le _, rfl, Bx.mk (fun i hi => by omega), Bx.mk (below_draws (Below.refl _ _) _)⟩
          case round =>
            obtain ⟨k, hk, rfl, HK, HW⟩ := hrel
            have HXw := Bx.mk (HX.out.below HW.out)
            have HTw := Bx.mk (HT.out.below HW.out)
            have y0 := HXw.out.c (k := 0) rfl
            have y1 := HXw.out.c (k := 1) rfl
            have y2 := HXw.out.c (k := 2) rfl
            have y3 := HXw.out.c (k := 3) rfl
            have yl := HXw.out.lt
            by_cases hlt : k < G.a.length
            · obtain ⟨bb, oo, cc, hv, lb, hcells⟩ := HTw.out.form (by omega)
              injection hv with hA1 _ hC1
              subst hA1 hC1
              have HCS := Bx.mk hcells
              have t0 := (hcells k hlt).1
              have t1 := (hcells k hlt).2.1
              have t2 := (hcells k hlt).2.2
              have x1 : (0 : Int) ≤ (k : Int) := by omega
              have x2 : (k : Int) < (G.a.length : Int) := by omega
              have dlt : decide ((k : Int) < (G.a.length : Int)) = true := decide_eq_true x2
              have HP := Bx.mk (show tat G.a k = tat G.a k from rfl)
              obtain ⟨p, hp⟩ : ∃ p, p = tat G.a k := ⟨_, rfl⟩
              rw [← hp] at t0 t1 t2
              have HPk := Bx.mk hp
              clear hcells HP hp
              obtain ⟨p1, p2, p3⟩ := p
              dsimp only at t0 t1 t2
              go_wp2_with (fail)
              have bA : Below wr.heap.size wr (wr.alloc (.cells #[.int .i64 p1, .int .i64 p2, .int .i64 p3] 76)) := (Below.refl _ _).alloc (Nat.le_refl _) _
              have B1 := Bx.mk (HW.out.trans (bA.mono HW.out.size))
              have XA := BoxN.at wr wr.heap.size #[.int .i64 p1, .int .i64 p2, .int .i64 p3] 76 rfl
              have XG := HXw.out.below bA
              have XT := Bx.mk (fun j (hj : j < G.a.length) => ((hcell3 bA lb (HCS.out j hj)) : _))
              have a0 := XA.c (k := 0) rfl
              have a1 := XA.c (k := 1) rfl
              have a2 := XA.c (k := 2) rfl
              have al := XA.lt
              clear y0 y1 y2 y3 t0 t1 t2
              have y0 := XG.c (k := 0) rfl
              have y1 := XG.c (k := 1) rfl
              have y2 := XG.c (k := 2) rfl
              have y3 := XG.c (k := 3) rfl
              have yl := XG.lt
              have lb := Nat.lt_of_lt_of_le lb bA.size
              obtain ⟨ga, hga⟩ : ∃ x, x = wr.heap.size := ⟨_, rfl⟩
              rw [← hga] at XA a0 a1 a2 al ⊢
              clear bA XA XG HXw HTw hga
              generalize hW : wr.alloc (.cells #[.int .i64 p1, .int .i64 p2, .int .i64 p3] 76) = W1 at *
              clear hW
              have r0 := fun W => in_any p1 0 (G.n - 1) W
              have r1 := fun W => spec_pitch p2 W
              have r2 := fun W => in_any p3 0 (G.n - 1) W
              cases f0 : inB p1 0 (G.n - 1)
              · simp only [f0] at r0
                have HN : Bx (okGr G = false) := Bx.mk (by rw [HO2.out]; exact arcs_no k hlt (fun hh => by have := hh.1; rw [← HPk.out] at this; simp [arcB, f0] at this))
                clear HK HO2 f0
                go_quiet (first | (go_at_call 70; with_reducible exact quiet_eq (r0 _)) | (go_at_call 69; with_reducible exact quiet_eq (r1 _)) | (go_at_call 70; with_reducible exact quiet_eq (r2 _)))
                go_wp2_with (fail)
                go_ret
                exact ⟨ret_bool HN.out.symm, below_draws B1.out _⟩
              · simp only [f0] at r0
                cases f1 : inB p2 (-12) 23
                · simp only [f1] at r1
                  have HN : Bx (okGr G = false) := Bx.mk (by rw [HO2.out]; exact arcs_no k hlt (fun hh => by have := hh.1; rw [← HPk.out] at this; simp [arcB, f0, f1] at this))
                  clear HK HO2 f0 f1
                  go_quiet (first | (go_at_call 70; with_reducible exact quiet_eq (r0 _)) | (go_at_call 69; with_reducible exact quiet_eq (r1 _)) | (go_at_call 70; with_reducible exact quiet_eq (r2 _)))
                  go_wp2_with (fail)
                  go_ret
                  exact ⟨ret_bool HN.out.symm, below_draws B1.out _⟩
                · simp only [f1] at r1
                  cases f2 : inB p3 0 (G.n - 1)
                  · simp only [f2] at r2
                    have HN : Bx (okGr G = false) := Bx.mk (by rw [HO2.out]; exact arcs_no k hlt (fun hh => by have := hh.1; rw [← HPk.out] at this; simp [arcB, f0, f1, f2] at this))
                    clear HK HO2 f0 f1 f2
                    go_quiet (first | (go_at_call 70; with_reducible exact quiet_eq (r0 _)) | (go_at_call 69; with_reducible exact quiet_eq (r1 _)) | (go_at_call 70; with_reducible exact quiet_eq (r2 _)))
                    go_wp2_with (fail)
                    go_ret
                    exact ⟨ret_bool HN.out.symm, below_draws B1.out _⟩
                  · simp only [f2] at r2
                    have HAB : Bx (arcB G.n (tat G.a k) = true) := Bx.mk (by rw [← HPk.out]; simp [arcB, f0, f1, f2])
                    clear f0 f1 f2
                    cases k with
                    | zero =>
                      have HS : Bx (∀ i, i < 1 → stepA G.n G.a i) := Bx.mk (fun i hi => by obtain rfl : i = 0 := (by omega); exact ⟨HAB.out, fun h => by omega⟩)
                      have x3 : decide ((0 : Int) > 0) = false := by decide
                      clear HK HAB
                      go_quiet (first | (go_at_call 70; with_reducible exact quiet_eq (r0 _)) | (go_at_call 69; with_reducible exact quiet_eq (r1 _)) | (go_at_call 70; with_reducible exact quiet_eq (r2 _)))
                      go_wp2_with (fail)
                      go_quiet (fail)
                      go_wp2_with (fail)
                      go_roundw
                      case rel => exact ⟨1, by omega, by go_num, HS, Bx.mk (below_draws B1.out _)⟩
                      case measure => simp [intOf]; omega
                    | succ j =>
                      have u0 := (XT.out j (by omega)).1
                      have u1 := (XT.out j (by omega)).2.1
                      obtain ⟨q, hq⟩ : ∃ q, q = tat G.a j := ⟨_, rfl⟩
                      rw [← hq] at u0 u1
                      have HQk := Bx.mk hq
                      clear hq XT
                      obtain ⟨b1, b2, b3⟩ := q
                      dsimp only at u0 u1
                      have HST : Bx (aLt (b1, b2, b3) (p1, p2, p3) → ∀ i, i < j + 1 + 1 → stepA G.n G.a i) := Bx.mk (fun h i hi => by
                        by_cases hij : i < j + 1
                        · exact HK.out i hij
                        · obtain rfl : i = j + 1 := (by omega)
                          exact ⟨HAB.out, fun _ => by rw [Nat.add_sub_cancel, ← HQk.out, ← HPk.out]; exact h⟩)
                      have HNO : Bx (¬ aLt (b1, b2, b3) (p1, p2, p3) → okGr G = false) := Bx.mk (fun h => by
                        rw [HO2.out]
                        exact arcs_no (j + 1) hlt (fun hh => h (by have := hh.2 (by omega); rw [Nat.add_sub_cancel, ← HQk.out, ← HPk.out] at this; exact this)))
                      clear HK HAB HO2 HQk HPk HCS
                      have z1 : (0 : Int) ≤ (j : Int) + 1 := by omega
                      have z2 : (j : Int) + 1 < (G.a.length : Int) := by omega
                      have z3 : ((j : Int) + 1).toNat = j + 1 := by omega
                      have x3 : decide ((j : Int) + 1 > 0) = true := decide_eq_true (by omega)
                      have x4 : IntKind.i64.wrap ((j : Int) + 1 - 1) = (j : Int) := by rw [show (j : Int) + 1 - 1 = j by omega]; exact IntWalk.i64_in _ (by omega)
                      have x5 : (0 : Int) ≤ (j : Int) := by omega
                      have x6 : (j : Int) < (G.a.length : Int) := by omega
                      rcases Int.lt_trichotomy b1 p1 with h | h | h
                      · have w1 : decide (b1 > p1) = false := decide_eq_false (by omega)
                        have w2 : (b1 == p1) = false := by simp; omega
                        have HS := Bx.mk (HST.out (.inl h))
                        clear HST HNO h
                        go_quiet (first | (go_at_call 70; with_reducible exact quiet_eq (r0 _)) | (go_at_call 69; with_reducible exact quiet_eq (r1 _)) | (go_at_call 70; with_reducible exact quiet_eq (r2 _)))
                        go_wp2_with (fail)
                        go_quiet (fail)
                        go_wp2_with (fail)
                        go_roundw
                        case rel => exact ⟨j + 1 + 1, by omega, by go_num, HS, Bx.mk (below_draws B1.out _)⟩
                        case measure => simp [intOf]; omega
                      · subst h
                        have w1 : decide (b1 > b1) = false := decide_eq_false (by omega)
                        have w2 : (b1 == b1) = true := by simp
                        by_cases h : b2 < p2
                        · have w3 : decide (b2 ≥ p2) = false := decide_eq_false (by omega)
                          have HS := Bx.mk (HST.out (.inr ⟨rfl, h⟩))
                          clear HST HNO h
                          go_quiet (first | (go_at_call 70; with_reducible exact quiet_eq (r0 _)) | (go_at_call 69; with_reducible exact quiet_eq (r1 _)) | (go_at_call 70; with_reducible exact quiet_eq (r2 _)))
                          go_wp2_with (fail)
                          go_quiet (fail)
                          go_wp2_with (fail)
                          go_roundw
                          case rel => exact ⟨j + 1 + 1, by omega, by go_num, HS, Bx.mk (below_draws B1.out _)⟩
                          case measure => simp [intOf]; omega
                        · have w3 : decide (b2 ≥ p2) = true := decide_eq_true (by omega)
                          have HN := Bx.mk (HNO.out (fun hh => by rcases hh with hh | hh <;> simp at hh; omega))
                          clear HST HNO h
                          go_quiet (first | (go_at_call 70; with_reducible exact quiet_eq (r0 _)) | (go_at_call 69; with_reducible exact quiet_eq (r1 _)) | (go_at_call 70; with_reducible exact quiet_eq (r2 _)))
                          go_wp2_with (fail)
                          go_quiet (fail)
                          go_wp2_with (fail)
                          go_ret
                          exact ⟨ret_bool HN.out.symm, by first | exact below_draws B1.out _ | exact below_draws (below_draws B1.out _) _⟩
                      · have w1 : decide (b1 > p1) = true := decide_eq_true (by omega)
                        have HN := Bx.mk (HNO.out (fun hh => by rcases hh with hh | hh <;> simp at hh <;> omega))
                        clear HST HNO h
                        go_quiet (first | (go_at_call 70; with_reducible exact quiet_eq (r0 _)) | (go_at_call 69; with_reducible exact quiet_eq (r1 _)) | (go_at_call 70; with_reducible exact quiet_eq (r2 _)))
                        go_wp2_with (fail)
                        go_quiet (fail)
                        go_wp2_with (fail)
                        go_ret
                        exact ⟨ret_bool HN.out.symm, by first | exact below_draws B1.out _ | exact below_draws (below_draws B1.out _) _⟩
            · obtain rfl : k = G.a.length := by omega
              have HE : Bx (okGr G = true) := Bx.mk (HO2.out.trans (arcs_yes HK.out))
              have dlt : decide ((G.a.length : Int) < (G.a.length : Int)) = false := decide_eq_false (by omega)
              clear HK HO2
              go_wp2_with (fail)
              go_ret
              exact ⟨ret_bool HE.out.symm, HW.out⟩
        · have dal : decide ((G.a.length : Int) > 256) = true := decide_eq_true (by omega)
          have HE : Bx (okGr G = false) := Bx.mk (by rw [HO.out, decide_eq_false hal]; simp)
          clear HO HX HT HI HA e0 e1 e2
          go_enter Try.func54, Try.ntmps54
          go_wp2_with (fail)
          go_quiet (first | (go_at_call 70; with_reducible exact quiet_eq (q0 _)) | (go_at_call 70; with_reducible exact quiet_eq (q1 _)) | (go_at_call 110; with_reducible exact quiet_dr (q2 _)))
          go_wp2_with (fail)
          go_ret
          exact ⟨ret_bool HE.out.symm, below_draws (Below.refl _ _) _⟩
theorem spec_validgr (v : Value) (G : Gr) (w : World) (h : GrAt w v G) (hm : SmG G) :
    Calls Try.prog 16 #[v] w fun e w' => e = .returned (.bool (okGr G)) ∧ Below w.heap.size w w' := by
  obtain ⟨B, b, C, c, rfl, h1, h2⟩ := gr_form h
  have HI := Bx.mk (And.intro h1 h2)
  have hk := fun g W (hp : PtrGr W g G) => spec_grok g G W hp hm
  clear h h1 h2
  go_enter Try.func16, Try.ntmps16
  go_wp2_with (fail)
  have hb : Below w.heap.size w (w.alloc (.cells #[.int .i64 G.n, .int .i64 G.s, .slice B G.f.length b, .slice C G.a.length c] 30)) := (Below.refl _ _).alloc (Nat.le_refl _) _
  refine (hk _ _ ⟨_, BoxN.at w _ _ _ rfl, _, _, rfl, HI.out.1.below hb, HI.out.2.below hb⟩).mono ?_
  rintro r w1 ⟨rfl, hb1⟩
  have B1 := Bx.mk (hb.trans (hb1.mono hb.size))
  clear hb1
  go_wp2_with (fail)
  go_ret
  exact ⟨rfl, B1.out⟩
end Go.Proofs.Ytpbgjlmcafmejaa
