/- SameRaga of the model. -/
import Derived.Test.YtjjiibmbaggjoaaRe
namespace Go.Proofs.Ytjjiibmbaggjoaa
open Go.ChangeShapes Go.WideShapes Go.ChangeAt Go.RowKit
set_option linter.unusedVariables false
set_option linter.unusedSimpArgs false
set_option maxRecDepth 100000

set_option maxHeartbeats 4000000 in
theorem spec_sameraga (va vb : Value) (Ra Rb : Rg) (w : World) (ha : RgAt w va Ra) (hb : RgAt w vb Rb) (hm : Sm Ra) (hn : Sm Rb) :
    Calls Try.prog 20 #[va, vb] w fun e w' => e = .returned (.bool (sameG Ra Rb)) ∧ Below w.heap.size w w' := by
  obtain ⟨A, a, B, b, C, c, rfl, i1, i2, i3⟩ := rg_form ha
  obtain ⟨A', a', B', b', C', c', rfl, j1, j2, j3⟩ := rg_form hb
  obtain ⟨s1, u1, d1, x1, y1, f1⟩ := Ra
  obtain ⟨s2, u2, d2, x2, y2, f2⟩ := Rb
  obtain ⟨ms, mu, md, mf, mg, _, _⟩ := hm
  obtain ⟨ns, nu, nd, nf, ng, _, _⟩ := hn
  dsimp only at i1 i2 i3 j1 j2 j3 ms mu md mg ns nu nd nf ng
  have X0 := (BoxN.at w w.heap.size #[.string s1, .slice A u1.length a, .slice B d1.length b, .int .i64 x1, .int .i64 y1, .slice C f1.length c] 28 rfl).alloc (.cells #[.string s2, .slice A' u2.length a', .slice B' d2.length b', .int .i64 x2, .int .i64 y2, .slice C' f2.length c'] 28)
  have X1 := BoxN.at (w.alloc (.cells #[.string s1, .slice A u1.length a, .slice B d1.length b, .int .i64 x1, .int .i64 y1, .slice C f1.length c] 28)) (w.heap.size + 1) #[.string s2, .slice A' u2.length a', .slice B' d2.length b', .int .i64 x2, .int .i64 y2, .slice C' f2.length c'] 28 (by simp)
  have hb : Below w.heap.size w ((w.alloc (.cells #[.string s1, .slice A u1.length a, .slice B d1.length b, .int .i64 x1, .int .i64 y1, .slice C f1.length c] 28)).alloc (.cells #[.string s2, .slice A' u2.length a', .slice B' d2.length b', .int .i64 x2, .int .i64 y2, .slice C' f2.length c'] 28)) := ((Below.refl _ _).alloc (Nat.le_refl _) _).alloc (by simp) _
  generalize hW : (w.alloc (.cells #[.string s1, .slice A u1.length a, .slice B d1.length b, .int .i64 x1, .int .i64 y1, .slice C f1.length c] 28)).alloc (.cells #[.string s2, .slice A' u2.length a', .slice B' d2.length b', .int .i64 x2, .int .i64 y2, .slice C' f2.length c'] 28) = W at hb X0 X1
  have q1 := spec_same _ _ u1 u2 W (i1.below hb) (j1.below hb) (Nat.le_trans mu (by decide)) (Nat.le_trans nu (by decide))
  have q2 := fun m => spec_same _ _ d1 d2 (W.drewN m) (i2.below (below_draws hb m)) (j2.below (below_draws hb m)) (Nat.le_trans md (by decide)) (Nat.le_trans nd (by decide))
  have F1 := Bx.mk (i3.below hb)
  have F2 := Bx.mk (j3.below hb)
  have G1 := Bx.mk mg
  have G2 := Bx.mk ng
  have p0 := X0.c (k := 0) rfl
  have p1 := X0.c (k := 1) rfl
  have p2 := X0.c (k := 2) rfl
  have p3 := X0.c (k := 3) rfl
  have p4 := X0.c (k := 4) rfl
  have p5 := X0.c (k := 5) rfl
  have pl := X0.lt
  have r0 := X1.c (k := 0) rfl
  have r1 := X1.c (k := 1) rfl
  have r2 := X1.c (k := 2) rfl
  have r3 := X1.c (k := 3) rfl
  have r4 := X1.c (k := 4) rfl
  have r5 := X1.c (k := 5) rfl
  have rl := X1.lt
  have HB := Bx.mk hb
  have HX0 := Bx.mk X0
  have HX1 := Bx.mk X1
  clear ha hb X0 X1 i1 i2 i3 j1 j2 j3 ms mu md mg ns nu nd nf ng
  have HO : Bx (sameG ⟨s1, u1, d1, x1, y1, f1⟩ ⟨s2, u2, d2, x2, y2, f2⟩ = decide (s1 = s2 ∧ u1 = u2 ∧ d1 = d2 ∧ x1 = x2 ∧ y1 = y2 ∧ f1 = f2)) := Bx.mk rfl
  by_cases hs : s1 = s2
  · by_cases hu : u1 = u2
    · rw [decide_eq_true hu] at q1
      by_cases hd : d1 = d2
      · simp only [decide_eq_true hd] at q2
        by_cases hx : x1 = x2
        · by_cases hy : y1 = y2
          · by_cases hl : f1.length = f2.length
            · have HE0 : Bx (sameG ⟨s1, u1, d1, x1, y1, f1⟩ ⟨s2, u2, d2, x2, y2, f2⟩ = decide (f1 = f2)) := Bx.mk (by rw [HO.out]; simp [hs, hx, hy, hu, hd])
              clear HO hu hd
              subst hs hx hy
              generalize sameG _ _ = sg at HE0 ⊢
              have HE : Bx (sg = decide (f1 = f2)) := HE0
              clear HE0
              have HL := Bx.mk hl
              have hle : ((f1.length : Int) != (f2.length : Int)) = false := by simp; omega
              clear hl
              go_enter Try.func20, Try.ntmps20
              go_wp2_with (fail)
              refine q1.mono ?_
              rintro r w1 ⟨rfl, n, rfl⟩
              go_wp2_with (fail)
              refine (q2 _).mono ?_
              rintro r w1 ⟨rfl, n2, rfl⟩
              go_wp2_with (fail)
              go_loopw [5] (fun i wr => ∃ k : Nat, k ≤ f1.length ∧ i = .int .i64 k ∧ Bx (f1.take k = f2.take k) ∧ Bx (∃ n, wr = W.drewN n)) (fun i _ => f1.length - (intOf i).toNat)
              case atStart => exact ⟨0, Nat.zero_le _, rfl, Bx.mk rfl, Bx.mk ⟨_, rfl⟩⟩
              case round =>
                obtain ⟨k, hk, rfl, HK, HW⟩ := hrel
                have t5 : wr.cell? ⟨w.heap.size, 5, none⟩ = some (.slice C f1.length c) := by obtain ⟨n, rfl⟩ := HW.out; exact p5
                have t6 : wr.cell? ⟨w.heap.size + 1, 5, none⟩ = some (.slice C' f2.length c') := by obtain ⟨n, rfl⟩ := HW.out; exact r5
                by_cases hlt : k < f1.length
                · have hlt2 : k < f2.length := by have := HL.out; omega
                  obtain ⟨b1, o1, rfl, _, l1, H1⟩ := rows_at F1.out (by omega)
                  obtain ⟨b2, o2, rfl, _, l2, H2⟩ := rows_at F2.out (by omega)
                  obtain ⟨A1, e1, c1, i1⟩ := H1 k hlt
                  obtain ⟨A2, e2, c2, i2⟩ := H2 k hlt2
                  have c1 : wr.cell? ⟨b1, o1 + k, none⟩ = some (.slice A1 (f1.getD k []).length e1) := by obtain ⟨n, rfl⟩ := HW.out; exact c1
                  have c2 : wr.cell? ⟨b2, o2 + k, none⟩ = some (.slice A2 (f2.getD k []).length e2) := by obtain ⟨n, rfl⟩ := HW.out; exact c2
                  have hq := fun m => spec_same _ _ _ _ (wr.drewN m) (by obtain ⟨n, rfl⟩ := HW.out; exact i1) (by obtain ⟨n, rfl⟩ := HW.out; exact i2) (Nat.le_trans (G1.out k hlt) (by decide)) (Nat.le_trans (G2.out k hlt2) (by decide))
                  have HS := Bx.mk (rtake_succ f1 f2 k hlt hlt2 HK.out)
                  have HT := Bx.mk (rtake_ne f1 f2 k)
                  have x1 : (0 : Int) ≤ (k : Int) := by omega
                  have x2 : (k : Int) < (f1.length : Int) := by omega
                  have x3 : (k : Int) < (f2.length : Int) := by omega
                  clear i1 i2 H1 H2 F1 F2 G1 G2 HK p0 p1 p2 p3 p4 p5 r0 r1 r2 r3 r4 r5 q1 q2
                  generalize f1.getD k [] = p at *
                  generalize f2.getD k [] = q at *
                  by_cases hpq : p = q
                  · have HS2 := Bx.mk (HS.out hpq)
                    rw [show decide (p = q) = true from decide_eq_true hpq] at hq
                    clear HS HT hpq
                    go_wp2_with (fail)
                    go_quiet ((go_at_call 62; exact quiet_dr (hq _)))
                    go_wp2_with (fail)
                    go_roundw
                    case rel => exact ⟨k + 1, by omega, by go_num, HS2, Bx.mk (drmore HW.out _)⟩
                    case measure => simp [intOf]; omega
                  · have HT2 := Bx.mk (HT.out hpq)
                    rw [show decide (p = q) = false from decide_eq_false hpq] at hq
                    clear HS HT hpq
                    go_wp2_with (fail)
                    go_quiet ((go_at_call 62; exact quiet_dr (hq _)))
                    go_wp2_with (fail)
                    go_ret
                    refine ⟨ret_bool (by rw [HE.out]; exact (decide_eq_false HT2.out).symm), ?_⟩
                    obtain ⟨n, rfl⟩ := HW.out
                    exact below_draws (below_draws HB.out _) _
                · have HF : Bx (f1 = f2) := Bx.mk (by have := HK.out; rwa [List.take_of_length_le (by omega), List.take_of_length_le (by have := HL.out; omega)] at this)
                  have hk2 : ¬ (k : Int) < (f1.length : Int) := by omega
                  go_wp2_with (fail)
                  go_ret
                  refine ⟨ret_bool (by rw [HE.out]; exact (decide_eq_true HF.out).symm), ?_⟩
                  obtain ⟨n, rfl⟩ := HW.out
                  exact below_draws HB.out _
            · skip
              have HE : Bx (sameG ⟨s1, u1, d1, x1, y1, f1⟩ ⟨s2, u2, d2, x2, y2, f2⟩ = false) := Bx.mk (HO.out.trans (decide_eq_false (fun h => hl (by rw [h.2.2.2.2.2]))))
              clear HO
              have hle : ((f1.length : Int) != (f2.length : Int)) = true := by simp; omega
              clear hu hd hl
              subst hs hx hy
              generalize sameG _ _ = sg at HE ⊢
              go_enter Try.func20, Try.ntmps20
              go_wp2_with (fail)
              refine q1.mono ?_
              rintro r w1 ⟨rfl, n, rfl⟩
              go_wp2_with (fail)
              refine (q2 _).mono ?_
              rintro r w1 ⟨rfl, n, rfl⟩
              go_wp2_with (fail)
              go_ret
              exact ⟨ret_bool HE.out.symm, below_draws HB.out _⟩
          · skip
            have HE : Bx (sameG ⟨s1, u1, d1, x1, y1, f1⟩ ⟨s2, u2, d2, x2, y2, f2⟩ = false) := Bx.mk (HO.out.trans (decide_eq_false (by simp [hy])))
            clear HO
            have e1 : (y1 != y2) = true := by simpa using hy
            clear hy hu hd
            subst hs hx
            generalize sameG _ _ = sg at HE ⊢
            go_enter Try.func20, Try.ntmps20
            go_wp2_with (fail)
            refine q1.mono ?_
            rintro r w1 ⟨rfl, n, rfl⟩
            go_wp2_with (fail)
            refine (q2 _).mono ?_
            rintro r w1 ⟨rfl, n, rfl⟩
            go_wp2_with (fail)
            go_ret
            exact ⟨ret_bool HE.out.symm, below_draws HB.out _⟩
        · skip
          have HE : Bx (sameG ⟨s1, u1, d1, x1, y1, f1⟩ ⟨s2, u2, d2, x2, y2, f2⟩ = false) := Bx.mk (HO.out.trans (decide_eq_false (by simp [hx])))
          clear HO
          have e1 : (x1 != x2) = true := by simpa using hx
          clear hx hu hd
          subst hs
          generalize sameG _ _ = sg at HE ⊢
          go_enter Try.func20, Try.ntmps20
          go_wp2_with (fail)
          refine q1.mono ?_
          rintro r w1 ⟨rfl, n, rfl⟩
          go_wp2_with (fail)
          refine (q2 _).mono ?_
          rintro r w1 ⟨rfl, n, rfl⟩
          go_wp2_with (fail)
          go_ret
          exact ⟨ret_bool HE.out.symm, below_draws HB.out _⟩
      · skip
        have HE : Bx (sameG ⟨s1, u1, d1, x1, y1, f1⟩ ⟨s2, u2, d2, x2, y2, f2⟩ = false) := Bx.mk (HO.out.trans (decide_eq_false (by simp [hd])))
        clear HO
        simp only [decide_eq_false hd] at q2
        clear hd hu
        subst hs
        generalize sameG _ _ = sg at HE ⊢
        go_enter Try.func20, Try.ntmps20
        go_wp2_with (fail)
        refine q1.mono ?_
        rintro r w1 ⟨rfl, n, rfl⟩
        go_wp2_with (fail)
        refine (q2 _).mono ?_
        rintro r w1 ⟨rfl, n, rfl⟩
        go_wp2_with (fail)
        go_ret
        exact ⟨ret_bool HE.out.symm, below_draws HB.out _⟩
    · skip
      have HE : Bx (sameG ⟨s1, u1, d1, x1, y1, f1⟩ ⟨s2, u2, d2, x2, y2, f2⟩ = false) := Bx.mk (HO.out.trans (decide_eq_false (by simp [hu])))
      clear HO
      rw [decide_eq_false hu] at q1
      clear hu
      subst hs
      generalize sameG _ _ = sg at HE ⊢
      go_enter Try.func20, Try.ntmps20
      go_wp2_with (fail)
      refine q1.mono ?_
      rintro r w1 ⟨rfl, n, rfl⟩
      go_wp2_with (fail)
      go_ret
      exact ⟨ret_bool HE.out.symm, below_draws HB.out _⟩
  · skip
    have HE : Bx (sameG ⟨s1, u1, d1, x1, y1, f1⟩ ⟨s2, u2, d2, x2, y2, f2⟩ = false) := Bx.mk (HO.out.trans (decide_eq_false (by simp [hs])))
    clear HO
    have e1 : (!s1.toList == s2.toList) = true := by rw [str_ne hs]; rfl
    clear hs
    generalize sameG _ _ = sg at HE ⊢
    go_enter Try.func20, Try.ntmps20
    go_wp2_with (fail)
    go_ret
    exact ⟨ret_bool HE.out.symm, HB.out⟩
end Go.Proofs.Ytjjiibmbaggjoaa
