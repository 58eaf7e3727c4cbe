/- Phrases, by the model: phrases, the order of lists, lists of phrases. -/
import Derived.Test.YtgkdonnkiljplaaDoorPh2
import Derived.Test.YtgkdonnkiljplaaDoorRg2
namespace Go.Proofs.YtgkdonnkiljplaaDoor
open Go.ChangeShapes Go.WideShapes Go.ChangeAt Go.RowKit
set_option linter.unusedVariables false
set_option linter.unusedSimpArgs false
set_option maxRecDepth 100000

theorem pairR {t : Int × Int} {a b : Int} (h : t = (a, b)) : Ending.returned (.tuple #[.int .i64 a, .int .i64 b]) = .returned (.tuple #[.int .i64 t.1, .int .i64 t.2]) := by
  subst h; rfl
theorem ph_split (zs : List Int) : phB zs = (pitB zs && (decide (2 ≤ zs.length) && decide (zs.length ≤ 8))) := by
  unfold phB
  rw [Bool.eq_iff_iff]
  simp only [Bool.and_eq_true, decide_eq_true_eq]
theorem spec_phrase (v : Value) (zs : List Int) (w : World) (h : IntsAt w v zs) (hm : zs.length ≤ 1048576) :
    Calls Tryd.prog 24 #[v] w fun e w' => e = .returned (.bool (phB zs)) ∧ w = w' := by
  have hp := spec_pits v zs w h hm
  have HO := Bx.mk (ph_split zs)
  obtain ⟨A, c, rfl⟩ := ints_form h
  clear h
  generalize pitB zs = b at hp HO
  generalize phB zs = r at HO ⊢
  cases b
  · have HE : Bx (r = false) := Bx.mk (by rw [HO.out]; rfl)
    clear HO
    go_enter Tryd.func24, Tryd.ntmps24
    go_wp2_with (fail)
    refine hp.mono ?_
    rintro r w1 ⟨rfl, rfl⟩
    go_wp2_with (fail)
    go_ret
    exact ⟨ret_bool HE.out.symm, rfl⟩
  · by_cases h1 : 2 ≤ zs.length
    · have d1 : decide ((zs.length : Int) ≥ 2) = true := decide_eq_true (by omega)
      by_cases h2 : zs.length ≤ 8
      · have d2 : decide ((zs.length : Int) ≤ 8) = true := decide_eq_true (by omega)
        have HE : Bx (r = true) := Bx.mk (by rw [HO.out, decide_eq_true h1, decide_eq_true h2]; rfl)
        clear HO h1 h2
        go_enter Tryd.func24, Tryd.ntmps24
        go_wp2_with (fail)
        refine hp.mono ?_
        rintro r w1 ⟨rfl, rfl⟩
        go_wp2_with (fail)
        go_ret
        exact ⟨ret_bool HE.out.symm, rfl⟩
      · have d2 : decide ((zs.length : Int) ≤ 8) = false := decide_eq_false (by omega)
        have HE : Bx (r = false) := Bx.mk (by rw [HO.out, decide_eq_false h2]; simp)
        clear HO h1 h2
        go_enter Tryd.func24, Tryd.ntmps24
        go_wp2_with (fail)
        refine hp.mono ?_
        rintro r w1 ⟨rfl, rfl⟩
        go_wp2_with (fail)
        go_ret
        exact ⟨ret_bool HE.out.symm, rfl⟩
    · have d1 : decide ((zs.length : Int) ≥ 2) = false := decide_eq_false (by omega)
      have HE : Bx (r = false) := Bx.mk (by rw [HO.out, decide_eq_false h1]; rfl)
      clear HO h1
      go_enter Tryd.func24, Tryd.ntmps24
      go_wp2_with (fail)
      refine hp.mono ?_
      rintro r w1 ⟨rfl, rfl⟩
      go_wp2_with (fail)
      go_ret
      exact ⟨ret_bool HE.out.symm, rfl⟩
set_option maxHeartbeats 2000000 in
theorem spec_before (va vb : Value) (a b : List Int) (w : World) (ha : IntsAt w va a) (hb : IntsAt w vb b) (h1 : a.length ≤ 1048576) (h2 : b.length ≤ 1048576) :
    Calls Tryd.prog 25 #[va, vb] w fun e w' => e = .returned (.bool (lexB a b)) ∧ ∃ n, w' = w.drewN n := by
  obtain ⟨A, c, rfl⟩ := ints_form ha
  obtain ⟨B, d, rfl⟩ := ints_form hb
  have HA := Bx.mk ha
  have HB := Bx.mk hb
  clear ha hb
  go_enter Tryd.func25, Tryd.ntmps25
  go_wp2_with (fail)
  go_loopw [5] (fun i wr => ∃ k : Nat, (k ≤ a.length ∧ k ≤ b.length) ∧ i = .int .i64 k ∧ Bx (lexB a b = lexB (a.drop k) (b.drop k)) ∧ Bx (∃ n, wr = w.drewN n)) (fun i _ => a.length - (intOf i).toNat)
  case atStart => exact ⟨0, ⟨Nat.zero_le _, Nat.zero_le _⟩, rfl, Bx.mk rfl, Bx.mk ⟨0, rfl⟩⟩
  case round =>
    obtain ⟨k, ⟨hk1, hk2⟩, rfl, HK, HW⟩ := hrel
    by_cases hla : k < a.length
    · by_cases hlb : k < b.length
      · obtain ⟨b1, o1, cc1, hv1, _, hc1⟩ := HA.out.form (by omega)
        obtain ⟨b2, o2, cc2, hv2, _, hc2⟩ := HB.out.form (by omega)
        injection hv1 with hA1 _ hC1
        injection hv2 with hA2 _ hC2
        subst hA1 hC1 hA2 hC2
        have x1 : wr.cell? ⟨b1, o1 + k, none⟩ = some (.int .i64 (a.getD k 0)) := by obtain ⟨n, rfl⟩ := HW.out; exact hc1 k hla
        have x2 : wr.cell? ⟨b2, o2 + k, none⟩ = some (.int .i64 (b.getD k 0)) := by obtain ⟨n, rfl⟩ := HW.out; exact hc2 k hlb
        have HN := Bx.mk (lexB_ne a b k hla hlb)
        have HQ := Bx.mk (lexB_eq a b k hla hlb)
        have k1 : (0 : Int) ≤ (k : Int) := by omega
        have k2 : (k : Int) < (a.length : Int) := by omega
        have k3 : (k : Int) < (b.length : Int) := by omega
        have d1 : decide ((k : Int) < (a.length : Int)) = true := decide_eq_true k2
        have d2 : decide ((k : Int) < (b.length : Int)) = true := decide_eq_true k3
        clear hc1 hc2 HA HB
        generalize a.getD k 0 = x at *
        generalize b.getD k 0 = y at *
        by_cases hxy : x = y
        · have HN2 : Bx (lexB a b = lexB (a.drop (k + 1)) (b.drop (k + 1))) := Bx.mk (HK.out.trans (HQ.out hxy))
          have d3 : (x != y) = false := by simpa using hxy
          clear HN HQ HK hxy
          go_wp2_with (fail)
          go_quiet (fail)
          go_wp2_with (fail)
          go_roundw
          case rel => exact ⟨k + 1, by omega, by go_num, HN2, Bx.mk (drmore HW.out _)⟩
          case measure => simp [intOf]; omega
        · have HN2 : Bx (lexB a b = decide (x < y)) := Bx.mk (HK.out.trans (HN.out hxy))
          have d3 : (x != y) = true := by simpa using hxy
          clear HN HQ HK hxy
          go_wp2_with (fail)
          go_quiet (fail)
          go_wp2_with (fail)
          go_quiet (fail)
          go_wp2_with (fail)
          go_ret
          exact ⟨ret_bool HN2.out.symm, drmore (drmore HW.out _) _⟩
      · have HE : Bx (lexB a b = decide (a.length < b.length)) := Bx.mk (HK.out.trans (lexB_end a b k (by omega) hk1 hk2))
        have d1 : decide ((k : Int) < (a.length : Int)) = true := decide_eq_true (by omega)
        have d2 : decide ((k : Int) < (b.length : Int)) = false := decide_eq_false (by omega)
        clear HK HA HB
        go_wp2_with (fail)
        go_ret
        exact ⟨ret_bool (by rw [HE.out, decide_eq_decide]; try omega), HW.out⟩
    · have HE : Bx (lexB a b = decide (a.length < b.length)) := Bx.mk (HK.out.trans (lexB_end a b k (by omega) hk1 hk2))
      have d1 : decide ((k : Int) < (a.length : Int)) = false := decide_eq_false (by omega)
      clear HK HA HB
      go_wp2_with (fail)
      go_ret
      exact ⟨ret_bool (by rw [HE.out, decide_eq_decide]; try omega), HW.out⟩
set_option maxHeartbeats 4000000 in
theorem spec_ok6W (v : Value) (L : List (List Int)) (w : World) (h : RowsAt w v L) (hn : L.length ≤ 4194304) (hg : ∀ k, k < L.length → (L.getD k []).length ≤ 1048576) :
    Calls Tryd.prog 17 #[v] w fun e w' => e = .returned (.bool (phsB L)) ∧ ∃ n, w' = w.drewN n := by
  obtain ⟨A, c, rfl⟩ := rows_form h
  have HI := Bx.mk h
  have HG := Bx.mk hg
  clear h hg
  go_enter Tryd.func17, Tryd.ntmps17
  go_wp2_with (fail)
  go_loopw [3] (fun i wr => ∃ k : Nat, k ≤ L.length ∧ i = .int .i64 k ∧ Bx (∀ i, i < k → phAt L i = true) ∧ Bx (∃ n, wr = w.drewN n)) (fun i _ => L.length - (intOf i).toNat)
  case atStart => exact ⟨0, Nat.zero_le _, rfl, Bx.mk (fun i hi => absurd hi (Nat.not_lt_zero _)), Bx.mk ⟨0, rfl⟩⟩
  case round =>
    obtain ⟨k, hk, rfl, HK, HW⟩ := hrel
    by_cases hlt : k < L.length
    · obtain ⟨b, o, rfl, _, lb, hx⟩ := rows_at HI.out (by omega)
      obtain ⟨A1, e1, c1, i1⟩ := hx k hlt
      have c1 : wr.cell? ⟨b, o + k, none⟩ = some (.slice A1 (L.getD k []).length e1) := by obtain ⟨n, rfl⟩ := HW.out; exact c1
      have q1 := fun n => spec_phrase _ _ (wr.drewN n) (by obtain ⟨m, rfl⟩ := HW.out; exact i1) (HG.out k hlt)
      have k1 : (0 : Int) ≤ (k : Int) := by omega
      have k2 : (k : Int) < (L.length : Int) := by omega
      have HP : Bx (phAt L k = (phB (L.getD k []) && (k == 0 || lexB (L.getD (k - 1) []) (L.getD k [])))) := Bx.mk rfl
      have HN := Bx.mk (phs_no (L := L) k hlt)
      have HS : Bx (phAt L k = true → ∀ i, i < k + 1 → phAt L i = true) := Bx.mk (fun h i hi => by
        by_cases hik : i = k
        · subst hik; exact h
        · exact HK.out i (by omega))
      cases k with
      | zero =>
        have d0 : decide ((0 : Int) > 0) = false := by decide
        simp only [Nat.add_zero] at c1
        clear hx i1 HG HI HK
        generalize (L.getD 0 []).length = n at *
        generalize phB (L.getD 0 []) = b1 at *
        cases b1
        · have HN2 := Bx.mk (HN.out (by rw [HP.out]; rfl))
          clear HN HS HP
          go_wp2_with (fail)
          go_quiet ((go_at_call 24; exact quiet_eq (q1 _)))
          go_wp2_with (fail)
          go_ret
          exact ⟨ret_bool HN2.out.symm, drmore HW.out _⟩
        · have HN2 := Bx.mk (HS.out (by rw [HP.out]; rfl))
          clear HN HS HP
          go_wp2_with (fail)
          go_quiet ((go_at_call 24; exact quiet_eq (q1 _)))
          go_wp2_with (fail)
          go_roundw
          case rel => exact ⟨1, by omega, by go_num, HN2, Bx.mk (drmore HW.out _)⟩
          case measure => simp [intOf]; omega
      | succ j =>
        obtain ⟨A2, e2, c2, i2⟩ := hx j (by omega)
        have c2 : wr.cell? ⟨b, o + j, none⟩ = some (.slice A2 (L.getD j []).length e2) := by obtain ⟨n, rfl⟩ := HW.out; exact c2
        have q2 := fun n => spec_before _ _ _ _ (wr.drewN n) (show IntsAt (wr.drewN n) _ _ by obtain ⟨m, rfl⟩ := HW.out; exact i2) (show IntsAt (wr.drewN n) _ _ by obtain ⟨m, rfl⟩ := HW.out; exact i1) (HG.out j (by omega)) (HG.out (j + 1) hlt)
        have d0 : decide (((j + 1 : Nat) : Int) > 0) = true := decide_eq_true (by omega)
        have d0' : decide ((j : Int) + 1 > 0) = true := decide_eq_true (by omega)
        have x4 : IntKind.i64.wrap ((j : Int) + 1 - 1) = (j : Int) := by rw [show (j : Int) + 1 - 1 = j by omega]; exact IntWalk.i64_in _ (by omega)
        have y1 : (0 : Int) ≤ (j : Int) + 1 := by omega
        have y2 : (j : Int) + 1 < (L.length : Int) := by omega
        have y3 : ((j : Int) + 1).toNat = j + 1 := by omega
        have x5 : (0 : Int) ≤ (j : Int) := by omega
        have x6 : (j : Int) < (L.length : Int) := by omega
        rw [Nat.add_sub_cancel] at HP
        clear hx i1 i2 HG HI HK
        generalize (L.getD (j + 1) []).length = n at *
        generalize (L.getD j []).length = n2 at *
        generalize phB (L.getD (j + 1) []) = b1 at *
        generalize lexB (L.getD j []) (L.getD (j + 1) []) = b2 at *
        cases b1
        · have HN2 := Bx.mk (HN.out (by rw [HP.out]; rfl))
          clear HN HS HP q2
          go_wp2_with (fail)
          go_quiet ((go_at_call 24; exact quiet_eq (q1 _)))
          go_wp2_with (fail)
          go_ret
          exact ⟨ret_bool HN2.out.symm, drmore HW.out _⟩
        · cases b2
          · have HN2 := Bx.mk (HN.out (by rw [HP.out]; simp))
            clear HN HS HP
            go_wp2_with (fail)
            go_quiet ((first | (go_at_call 24; with_reducible exact quiet_eq (q1 _)) | (go_at_call 25; with_reducible exact quiet_dr (q2 _))))
            go_wp2_with (fail)
            go_ret
            exact ⟨ret_bool HN2.out.symm, drmore HW.out _⟩
          · have HN2 := Bx.mk (HS.out (by rw [HP.out]; simp))
            clear HN HS HP
            go_wp2_with (fail)
            go_quiet ((first | (go_at_call 24; with_reducible exact quiet_eq (q1 _)) | (go_at_call 25; with_reducible exact quiet_dr (q2 _))))
            go_wp2_with (fail)
            go_roundw
            case rel => exact ⟨j + 1 + 1, by omega, by go_num, HN2, Bx.mk (drmore HW.out _)⟩
            case measure => simp [intOf]; omega
    · obtain rfl : k = L.length := by omega
      have HE := Bx.mk (phs_all HK.out)
      go_wp2_with (fail)
      go_ret
      exact ⟨ret_bool (by rw [HE.out, decide_eq_decide]; omega), HW.out⟩
theorem spec_ok6 (v : Value) (L : List (List Int)) (w : World) (h : RowsAt w v L) (hn : L.length ≤ 1048576) (hg : ∀ k, k < L.length → (L.getD k []).length ≤ 1048576) :
    Calls Tryd.prog 17 #[v] w fun e w' => e = .returned (.bool (phsB L)) ∧ ∃ n, w' = w.drewN n := spec_ok6W v L w h (by omega) hg
end Go.Proofs.YtgkdonnkiljplaaDoor
