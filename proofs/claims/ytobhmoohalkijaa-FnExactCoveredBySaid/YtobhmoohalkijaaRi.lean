/- The program: cmp.Compare, slices.Compare at pairs, areForbidden. -/
import Derived.Test.YtobhmoohalkijaaRgM
import Derived.Test.YtobhmoohalkijaaRg4
import Derived.Test.YtobhmoohalkijaaRImT
import Derived.Test.YtobhmoohalkijaaRs
namespace Go.Proofs.Ytobhmoohalkijaa
open Go.ChangeShapes Go.WideShapes Go.ChangeAt Go.RowKit
set_option linter.unusedVariables false
set_option linter.unusedSimpArgs false
set_option maxRecDepth 100000

theorem std_nan (x : Int) (w : World) : Calls Try.prog 88 #[.int .i64 x] w fun e w' => e = .returned (.bool false) ∧ w = w' := by
  go_enter Try.func88, Try.ntmps88
  go_wp2
  go_ret
  exact ⟨ret_bool (by simp), rfl⟩
def cmpI (x y : Int) : Int := if x < y then -1 else if y < x then 1 else 0
theorem std_cmp (x y : Int) (w : World) : Calls Try.prog 68 #[.int .i64 x, .int .i64 y] w fun e w' => e = .returned (.int .i64 (cmpI x y)) ∧ w = w' := by
  have hn := fun z W => std_nan z W
  by_cases h1 : x < y
  · have HE : Bx (cmpI x y = -1) := Bx.mk (if_pos h1)
    have d1 : decide (x < y) = true := decide_eq_true h1
    clear h1
    go_enter Try.func68, Try.ntmps68
    go_wp2_with (fail)
    refine (hn _ _).mono ?_
    rintro r w1 ⟨rfl, rfl⟩
    go_wp2_with (fail)
    refine (hn _ _).mono ?_
    rintro r w1 ⟨rfl, rfl⟩
    go_wp2_with (fail)
    go_ret
    exact ⟨ret_int HE.out.symm, rfl⟩
  · by_cases h2 : y < x
    · have HE : Bx (cmpI x y = 1) := Bx.mk ((if_neg h1).trans (if_pos h2))
      have d1 : decide (x < y) = false := decide_eq_false h1
      have d2 : decide (x > y) = true := decide_eq_true h2
      clear h1 h2
      go_enter Try.func68, Try.ntmps68
      go_wp2_with (fail)
      refine (hn _ _).mono ?_
      rintro r w1 ⟨rfl, rfl⟩
      go_wp2_with (fail)
      refine (hn _ _).mono ?_
      rintro r w1 ⟨rfl, rfl⟩
      go_wp2_with (fail)
      go_ret
      exact ⟨ret_int HE.out.symm, rfl⟩
    · have HE : Bx (cmpI x y = 0) := Bx.mk ((if_neg h1).trans (if_neg h2))
      have d1 : decide (x < y) = false := decide_eq_false h1
      have d2 : decide (x > y) = false := decide_eq_false h2
      clear h1 h2
      go_enter Try.func68, Try.ntmps68
      go_wp2_with (fail)
      refine (hn _ _).mono ?_
      rintro r w1 ⟨rfl, rfl⟩
      go_wp2_with (fail)
      refine (hn _ _).mono ?_
      rintro r w1 ⟨rfl, rfl⟩
      go_wp2_with (fail)
      go_ret
      exact ⟨ret_int HE.out.symm, rfl⟩
def cmpL (a b c d : Int) : Int := if cmpI a c = 0 then cmpI b d else cmpI a c
theorem cmpL_less (a b c d : Int) : decide (0 ≤ cmpL a b c d) = !decide (a < c ∨ (a = c ∧ b < d)) := by
  unfold cmpL cmpI
  rw [Bool.eq_iff_iff]
  simp only [decide_eq_true_eq, Bool.not_eq_true', decide_eq_false_iff_not]
  repeat' split
  all_goals omega
theorem std_compare (v1 v2 : Value) (a b c d : Int) (w : World) (h1 : IntsAt w v1 [a, b]) (h2 : IntsAt w v2 [c, d]) :
    Calls Try.prog 47 #[v1, v2] w fun e w' => e = .returned (.int .i64 (cmpL a b c d)) ∧ ∃ n, w' = w.drewN n := by
  rcases h1 with ⟨h, _⟩ | ⟨b1, o1, c1, rfl, _, x1⟩
  · simp at h
  rcases h2 with ⟨h, _⟩ | ⟨b2, o2, c2, rfl, _, x2⟩
  · simp at h
  have p0 : w.cell? ⟨b1, o1, none⟩ = some (.int .i64 a) := x1 0 (by simp)
  have p1 : w.cell? ⟨b1, o1 + 1, none⟩ = some (.int .i64 b) := x1 1 (by simp)
  have q0 : w.cell? ⟨b2, o2, none⟩ = some (.int .i64 c) := x2 0 (by simp)
  have q1 : w.cell? ⟨b2, o2 + 1, none⟩ = some (.int .i64 d) := x2 1 (by simp)
  clear x1 x2
  simp only [List.length_cons, List.length_nil]
  have k1 := fun W => std_cmp a c W
  have k2 := fun W => std_cmp b d W
  by_cases h0 : cmpI a c = 0
  · have HE : Bx (cmpL a b c d = cmpI b d) := Bx.mk (if_pos h0)
    rw [h0] at k1
    by_cases h1 : cmpI b d = 0
    · rw [h1] at k2 HE
      clear h0 h1
      go_enter Try.func47, Try.ntmps47
      go_wp2_with (fail)
      refine wp_loop_rounds 3 ?_
      rw [rounds_succ]
      go_wp2_with (fail)
      refine (k1 _).mono ?_
      rintro r w1 ⟨rfl, rfl⟩
      go_wp2_with (fail)
      rw [rounds_succ]
      go_wp2_with (fail)
      refine (k2 _).mono ?_
      rintro r w1 ⟨rfl, rfl⟩
      go_wp2_with (fail)
      rw [rounds_succ]
      go_wp2_with (fail)
      go_ret
      exact ⟨ret_int HE.out.symm, 0, rfl⟩
    · have d1 : (cmpI b d != 0) = true := by simpa using h1
      generalize cmpI b d = z at *
      clear h0 h1
      go_enter Try.func47, Try.ntmps47
      go_wp2_with (fail)
      refine wp_loop_rounds 3 ?_
      rw [rounds_succ]
      go_wp2_with (fail)
      refine (k1 _).mono ?_
      rintro r w1 ⟨rfl, rfl⟩
      go_wp2_with (fail)
      rw [rounds_succ]
      go_wp2_with (fail)
      refine (k2 _).mono ?_
      rintro r w1 ⟨rfl, rfl⟩
      go_wp2_with (fail)
      go_ret
      exact ⟨ret_int HE.out.symm, 0, rfl⟩
  · have HE : Bx (cmpL a b c d = cmpI a c) := Bx.mk (if_neg h0)
    have d1 : (cmpI a c != 0) = true := by simpa using h0
    generalize cmpI a c = z at *
    clear h0
    go_enter Try.func47, Try.ntmps47
    go_wp2_with (fail)
    refine wp_loop_rounds 3 ?_
    rw [rounds_succ]
    go_wp2_with (fail)
    refine (k1 _).mono ?_
    rintro r w1 ⟨rfl, rfl⟩
    go_wp2_with (fail)
    go_ret
    exact ⟨ret_int HE.out.symm, 0, rfl⟩
set_option maxHeartbeats 4000000 in
theorem impl_forb (v : Value) (L : List (List Int)) (w : World) (h : RowsAt w v L) (hm : L.length ≤ 1048576) (hg : ∀ k, k < L.length → (L.getD k []).length ≤ 1048576) :
    Calls Try.prog 99 #[v] w fun e w' => e = .returned (.bool (pairsB L)) ∧ ∃ n, w' = w.drewN n := by
  obtain ⟨A, c, rfl⟩ := rows_form h
  have HI := Bx.mk h
  have HG := Bx.mk hg
  clear h hg
  by_cases h8 : 8 < L.length
  · have HE : Bx (pairsB L = false) := Bx.mk (pairs_long h8)
    have d8 : decide ((L.length : Int) > 8) = true := decide_eq_true (by omega)
    go_enter Try.func99, Try.ntmps99
    go_wp2_with (fail)
    go_ret
    exact ⟨ret_bool HE.out.symm, 0, rfl⟩
  · have d8 : decide ((L.length : Int) > 8) = false := decide_eq_false (by omega)
    have hit := impl_istone
    go_enter Try.func99, Try.ntmps99
    go_wp2_with (fail)
    go_loopw [10] (fun i wr => ∃ k : Nat, k ≤ L.length ∧ i = .int .i64 k ∧ Bx (∀ i, i < k → stepB L i = true) ∧ Bx (∃ n, wr = w.drewN n)) (fun i _ => L.length - (intOf i).toNat)
    case atStart => exact ⟨0, Nat.zero_le _, rfl, Bx.mk (fun i hi => by omega), Bx.mk ⟨0, rfl⟩⟩
    case round =>
      obtain ⟨k, hk, rfl, HK, HW⟩ := hrel
      by_cases hlt : k < L.length
      · obtain ⟨b, o, rfl, _, lb, hx⟩ := rows_at HI.out (by omega)
        have HX : Bx (∀ k, k < L.length → ∃ A' c', wr.cell? ⟨b, o + k, none⟩ = some (.slice A' (L.getD k []).length c') ∧ ∀ m, IntsAt (wr.drewN m) (.slice A' (L.getD k []).length c') (L.getD k [])) := Bx.mk (fun k hk => by
          obtain ⟨A', c', h1, h2⟩ := hx k hk
          obtain ⟨n, rfl⟩ := HW.out
          exact ⟨A', c', h1, fun m => h2⟩)
        clear hx
        obtain ⟨A1, c1, h1, i1⟩ := HX.out k hlt
        have I1 := Bx.mk i1
        have x1 : (0 : Int) ≤ (k : Int) := by omega
        have x2 : (k : Int) < (L.length : Int) := by omega
        have HP : Bx (pairB (L.getD k []) = (decide ((L.getD k []).length = 2) && (inB ((L.getD k []).getD 0 0) 0 11 && (inB ((L.getD k []).getD 1 0) 0 11 && decide ((L.getD k []).getD 0 0 ≠ (L.getD k []).getD 1 0))))) := Bx.mk rfl
        have HN0 : Bx (pairB (L.getD k []) = false → pairsB L = false) := Bx.mk (fun h => pairs_no k hlt (by unfold stepB; rw [h]; rfl))
        by_cases h2 : (L.getD k []).length = 2
        · obtain ⟨a1, b1, e1⟩ : ∃ a b, L.getD k [] = [a, b] := by
            generalize L.getD k [] = p at h2
            match p, h2 with
            | [a, b], _ => exact ⟨a, b, rfl⟩
          rw [e1] at h1 i1
          obtain ⟨b', o', cc1, hv1, lb', hc1⟩ := (i1 0).form (by simp)
          injection hv1 with hA1 _ hC1
          subst hA1 hC1
          have p0 : wr.cell? ⟨b', o', none⟩ = some (.int .i64 a1) := by have := hc1 0 (by simp); simpa using this
          have p1 : wr.cell? ⟨b', o' + 1, none⟩ = some (.int .i64 b1) := by have := hc1 1 (by simp); simpa using this
          have HP : Bx (pairB (L.getD k []) = (inB a1 0 11 && (inB b1 0 11 && decide (a1 ≠ b1)))) := Bx.mk (by rw [HP.out, e1]; simp)
          have g0 : ((2 : Int) != 2) = false := by decide
          have t0 := fun W => hit a1 W
          have t1 := fun W => hit b1 W
          clear hc1 hit i1
          cases ha : inB a1 0 11
          · have HN := Bx.mk (HN0.out (by rw [HP.out, ha]; rfl))
            rw [ha] at t0
            clear ha HP HN0 HK I1 HX HG HI e1 h2
            simp only [List.length_cons, List.length_nil] at h1
            go_wp2_with (fail)
            go_quiet (first | (go_at_call 109; with_reducible exact quiet_eq (t0 _)) | (go_at_call 109; with_reducible exact quiet_eq (t1 _)))
            go_wp2_with (fail)
            go_ret
            exact ⟨ret_bool HN.out.symm, drew_more HW.out _⟩
          · rw [ha] at t0
            cases hb : inB b1 0 11
            · have HN := Bx.mk (HN0.out (by rw [HP.out, ha, hb]; rfl))
              rw [hb] at t1
              clear ha hb HP HN0 HK I1 HX HG HI e1 h2
              simp only [List.length_cons, List.length_nil] at h1
              go_wp2_with (fail)
              go_quiet (first | (go_at_call 109; with_reducible exact quiet_eq (t0 _)) | (go_at_call 109; with_reducible exact quiet_eq (t1 _)))
              go_wp2_with (fail)
              go_ret
              exact ⟨ret_bool HN.out.symm, drew_more HW.out _⟩
            · rw [hb] at t1
              by_cases hne : a1 = b1
              · have HN := Bx.mk (HN0.out (by rw [HP.out, ha, hb]; simp [hne]))
                subst hne
                have g1 : (a1 == a1) = true := by simp
                clear ha hb HP HN0 HK I1 HX HG HI e1 h2
                simp only [List.length_cons, List.length_nil] at h1
                go_wp2_with (fail)
                go_quiet (first | (go_at_call 109; with_reducible exact quiet_eq (t0 _)) | (go_at_call 109; with_reducible exact quiet_eq (t1 _)))
                go_wp2_with (fail)
                go_ret
                exact ⟨ret_bool HN.out.symm, drew_more HW.out _⟩
              · have hr : pairB (L.getD k []) = true := by rw [HP.out, ha, hb]; simp [hne]
                have g1 : (a1 == b1) = false := by simpa using hne
                clear ha hb HP HN0 h2
                cases k with
                | zero =>
                  have HS : Bx (∀ i, i < 1 → stepB L i = true) := Bx.mk (fun i hi => by obtain rfl : i = 0 := (by omega); unfold stepB; rw [hr]; rfl)
                  clear hr HK I1 HX HG HI e1
                  simp only [List.length_cons, List.length_nil, Nat.add_zero] at h1
                  have x3 : decide ((0 : Int) > 0) = false := by decide
                  go_wp2_with (fail)
                  go_quiet (first | (go_at_call 109; with_reducible exact quiet_eq (t0 _)) | (go_at_call 109; with_reducible exact quiet_eq (t1 _)))
                  go_wp2_with (fail)
                  go_roundw
                  case rel => exact ⟨1, by omega, by go_num, HS, Bx.mk (drew_more HW.out _)⟩
                  case measure => simp [intOf]; omega
                | succ j =>
                  obtain ⟨A2, c2, h2, i2⟩ := HX.out j (by omega)
                  have hs0 := HK.out j (by omega)
                  obtain ⟨a2, b2, e2, _⟩ := pair_yes (show pairB (L.getD j []) = true by unfold stepB at hs0; rw [Bool.and_eq_true] at hs0; exact hs0.1)
                  have HSt : Bx (stepB L (j + 1) = decide (a2 < a1 ∨ (a2 = a1 ∧ b2 < b1))) := Bx.mk (by
                    unfold stepB
                    rw [hr, Nat.add_sub_cancel, e1, e2]
                    simp [lessP])
                  have HSb : Bx (stepB L (j + 1) = true → ∀ i, i < j + 1 + 1 → stepB L i = true) := Bx.mk (fun h i hi => by
                    by_cases hij : i < j + 1
                    · exact HK.out i hij
                    · obtain rfl : i = j + 1 := (by omega)
                      exact h)
                  rw [e2] at i2 h2
                  have hcp := fun m => std_compare _ _ a2 b2 a1 b1 (wr.drewN m) (i2 m) (by have := I1.out m; rwa [e1] at this)
                  have HC := Bx.mk (cmpL_less a2 b2 a1 b1)
                  clear i2 I1 HX HG HI HK hs0 hr e1 e2
                  simp only [List.length_cons, List.length_nil] at h1 h2 hcp
                  have y1 : (0 : Int) ≤ (j : Int) + 1 := by omega
                  have y2 : (j : Int) + 1 < (L.length : Int) := by omega
                  have y3 : ((j : Int) + 1).toNat = j + 1 := by omega
                  have x3 : decide ((j : Int) + 1 > 0) = true := decide_eq_true (by omega)
                  have x4 : IntKind.i64.wrap ((j : Int) + 1 - 1) = (j : Int) := by rw [show (j : Int) + 1 - 1 = j by omega]; exact IntWalk.i64_in _ (by omega)
                  have x5 : (0 : Int) ≤ (j : Int) := by omega
                  have x6 : (j : Int) < (L.length : Int) := by omega
                  generalize cmpL a2 b2 a1 b1 = z at hcp HC
                  by_cases hl : a2 < a1 ∨ (a2 = a1 ∧ b2 < b1)
                  · have HS := Bx.mk (HSb.out (HSt.out.trans (decide_eq_true hl)))
                    have z1 : decide (z ≥ 0) = false := by have := HC.out; rw [decide_eq_true hl] at this; exact this
                    clear HSt HSb hl HC
                    go_wp2_with (fail)
                    go_quiet (first | (go_at_call 109; with_reducible exact quiet_eq (t0 _)) | (go_at_call 109; with_reducible exact quiet_eq (t1 _)))
                    go_wp2_with (fail)
                    refine (hcp _).mono ?_
                    rintro r w1 ⟨rfl, n1, rfl⟩
                    go_wp2_with (fail)
                    go_roundw
                    case rel => exact ⟨j + 1 + 1, by omega, by go_num, HS, Bx.mk (by first | exact drew_more HW.out _ | exact drew_more (drew_more HW.out _) _)⟩
                    case measure => simp [intOf]; omega
                  · have HN : Bx (pairsB L = false) := Bx.mk (pairs_no (j + 1) hlt (HSt.out.trans (decide_eq_false hl)))
                    have z1 : decide (z ≥ 0) = true := by have := HC.out; rw [decide_eq_false hl] at this; exact this
                    clear HSt HSb hl HC
                    go_wp2_with (fail)
                    go_quiet (first | (go_at_call 109; with_reducible exact quiet_eq (t0 _)) | (go_at_call 109; with_reducible exact quiet_eq (t1 _)))
                    go_wp2_with (fail)
                    refine (hcp _).mono ?_
                    rintro r w1 ⟨rfl, n1, rfl⟩
                    go_wp2_with (fail)
                    go_ret
                    exact ⟨ret_bool HN.out.symm, by first | exact drew_more HW.out _ | exact drew_more (drew_more HW.out _) _⟩
        · have HN := Bx.mk (HN0.out (by rw [HP.out, decide_eq_false h2]; rfl))
          have g0 : (((L.getD k []).length : Int) != 2) = true := bne_iff_ne.2 (by omega)
          clear h2 HP HN0 HK i1 I1 HX HG HI hit
          generalize (L.getD k []).length = n at *
          go_wp2_with (fail)
          go_quiet (fail)
          go_wp2_with (fail)
          go_ret
          exact ⟨ret_bool HN.out.symm, drew_more HW.out _⟩
      · obtain rfl : k = L.length := by omega
        have HE : Bx (pairsB L = true) := Bx.mk ((pairs_all HK.out).trans (decide_eq_true (by omega)))
        go_wp2_with (fail)
        go_ret
        exact ⟨ret_bool HE.out.symm, HW.out⟩
end Go.Proofs.Ytobhmoohalkijaa
