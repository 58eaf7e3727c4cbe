/- Phrases, by the program: phrases, slices.Compare, lists of phrases. -/
import Derived.Test.YtgkdonnkiljplaaDoorPh2
import Derived.Test.YtgkdonnkiljplaaDoorRg2
namespace Go.Proofs.YtgkdonnkiljplaaDoor
open Go.ChangeShapes Go.WideShapes Go.ChangeAt Go.RowKit
set_option linter.unusedVariables false
set_option linter.unusedSimpArgs false
set_option maxRecDepth 100000

def turnB (n : Int) : Bool := decide (2 ≤ n) && decide (n ≤ 8)
theorem impl_isturn (n : Int) (w : World) : Calls Tryd.prog 31 #[.int .i64 n] w fun e w' => e = .returned (.bool (turnB n)) ∧ w = w' := by
  by_cases h1 : 2 ≤ n
  · have d1 : decide (2 ≤ n) = true := decide_eq_true h1
    by_cases h2 : n ≤ 8
    · have d2 : decide (n ≤ 8) = true := decide_eq_true h2
      have HE : Bx (turnB n = true) := Bx.mk (by unfold turnB; rw [d1, d2]; rfl)
      clear h1 h2
      go_enter Tryd.func31, Tryd.ntmps31
      go_wp2_with (fail)
      go_ret
      exact ⟨ret_bool HE.out.symm, rfl⟩
    · have d2 : decide (n ≤ 8) = false := decide_eq_false h2
      have HE : Bx (turnB n = false) := Bx.mk (by unfold turnB; rw [d1, d2]; rfl)
      clear h1 h2
      go_enter Tryd.func31, Tryd.ntmps31
      go_wp2_with (fail)
      go_ret
      exact ⟨ret_bool HE.out.symm, rfl⟩
  · have d1 : decide (2 ≤ n) = false := decide_eq_false h1
    have HE : Bx (turnB n = false) := Bx.mk (by unfold turnB; rw [d1]; rfl)
    clear h1
    go_enter Tryd.func31, Tryd.ntmps31
    go_wp2_with (fail)
    go_ret
    exact ⟨ret_bool HE.out.symm, rfl⟩
theorem ph_turn (zs : List Int) : phB zs = (turnB (zs.length : Int) && pitB zs) := by
  unfold phB turnB
  rw [Bool.eq_iff_iff]
  simp only [Bool.and_eq_true, decide_eq_true_eq]
  constructor
  · rintro ⟨a, b, c⟩
    exact ⟨⟨by omega, by omega⟩, a⟩
  · rintro ⟨⟨a, b⟩, c⟩
    exact ⟨c, by omega, by omega⟩
theorem impl_isphrase (v : Value) (zs : List Int) (w : World) (h : IntsAt w v zs) (hm : zs.length ≤ 1048576) :
    Calls Tryd.prog 20 #[v] w fun e w' => e = .returned (.bool (phB zs)) ∧ w = w' := by
  have hp := impl_pits v zs w h hm
  have ht := fun W => impl_isturn (zs.length : Int) W
  have HO := Bx.mk (ph_turn zs)
  obtain ⟨A, c, rfl⟩ := ints_form h
  clear h
  generalize pitB zs = b at hp HO
  generalize phB zs = r at HO ⊢
  generalize turnB (zs.length : Int) = b0 at ht HO
  cases b0
  · have HE : Bx (r = false) := Bx.mk (by rw [HO.out]; rfl)
    clear HO
    go_enter Tryd.func20, Tryd.ntmps20
    go_wp2_with (fail)
    refine (ht _).mono ?_
    rintro r w1 ⟨rfl, rfl⟩
    go_wp2_with (fail)
    go_ret
    exact ⟨ret_bool HE.out.symm, rfl⟩
  · have HE : Bx (r = b) := Bx.mk (by rw [HO.out]; rfl)
    clear HO
    go_enter Tryd.func20, Tryd.ntmps20
    go_wp2_with (fail)
    refine (ht _).mono ?_
    rintro r w1 ⟨rfl, rfl⟩
    go_wp2_with (fail)
    refine hp.mono ?_
    rintro r w1 ⟨rfl, rfl⟩
    go_wp2_with (fail)
    go_ret
    exact ⟨ret_bool HE.out.symm, rfl⟩
set_option maxHeartbeats 2000000 in
theorem std_cmpl (v1 v2 : Value) (a b : List Int) (w : World) (ha : IntsAt w v1 a) (hb : IntsAt w v2 b) (h1 : a.length ≤ 1048576) (h2 : b.length ≤ 1048576) :
    Calls Tryd.prog 21 #[v1, v2] w fun e w' => e = .returned (.int .i64 (lexC a b)) ∧ w = w' := by
  obtain ⟨A, c, rfl⟩ := ints_form ha
  obtain ⟨B, d, rfl⟩ := ints_form hb
  have HA := Bx.mk ha
  have HB := Bx.mk hb
  clear ha hb
  go_enter Tryd.func21, Tryd.ntmps21
  go_wp2_with (fail)
  go_loopw [11] (fun i wr => ∃ k : Nat, (k ≤ a.length ∧ k ≤ b.length) ∧ i = .int .i64 k ∧ Bx (lexC a b = lexC (a.drop k) (b.drop k)) ∧ wr = w) (fun i _ => a.length - (intOf i).toNat)
  case atStart => exact ⟨0, ⟨Nat.zero_le _, Nat.zero_le _⟩, rfl, Bx.mk rfl, rfl⟩
  case round =>
    obtain ⟨k, ⟨hk1, hk2⟩, rfl, HK, rfl⟩ := hrel
    by_cases hla : k < a.length
    · obtain ⟨b1, o1, cc1, hv1, _, hc1⟩ := HA.out.form (by omega)
      injection hv1 with hA1 _ hC1
      subst hA1 hC1
      have x1 := hc1 k hla
      have k1 : (0 : Int) ≤ (k : Int) := by omega
      have k2 : (k : Int) < (a.length : Int) := by omega
      have d1 : decide ((k : Int) < (a.length : Int)) = true := decide_eq_true k2
      by_cases hlb : k < b.length
      · obtain ⟨b2, o2, cc2, hv2, _, hc2⟩ := HB.out.form (by omega)
        injection hv2 with hA2 _ hC2
        subst hA2 hC2
        have x2 := hc2 k hlb
        have hq := fun W => std_cmp (a.getD k 0) (b.getD k 0) W
        have HN := Bx.mk (lexC_ne a b k hla hlb)
        have HQ := Bx.mk (lexC_eq a b k hla hlb)
        have k3 : (k : Int) < (b.length : Int) := by omega
        have d2 : decide ((k : Int) ≥ (b.length : Int)) = false := decide_eq_false (by omega)
        clear hc1 hc2 HA HB
        generalize a.getD k 0 = x at *
        generalize b.getD k 0 = y at *
        generalize cmpI x y = z at *
        by_cases hz : z = 0
        · have HN2 : Bx (lexC a b = lexC (a.drop (k + 1)) (b.drop (k + 1))) := Bx.mk (HK.out.trans (HQ.out hz))
          subst hz
          clear HN HQ HK
          go_wp2_with (fail)
          refine (hq _).mono ?_
          rintro r w1 ⟨rfl, rfl⟩
          go_wp2_with (fail)
          go_roundw
          case rel => exact ⟨k + 1, by omega, by go_num, HN2, by first | rfl | trivial⟩
          case measure => simp [intOf]; omega
        · have HN2 : Bx (lexC a b = z) := Bx.mk (HK.out.trans (HN.out hz))
          have d3 : (z != 0) = true := by simpa using hz
          clear HN HQ HK hz
          go_wp2_with (fail)
          refine (hq _).mono ?_
          rintro r w1 ⟨rfl, rfl⟩
          go_wp2_with (fail)
          go_ret
          exact ⟨ret_int HN2.out.symm, rfl⟩
      · have HE : Bx (lexC a b = 1) := Bx.mk (HK.out.trans (lexC_more a b k hla (by omega)))
        have d2 : decide ((k : Int) ≥ (b.length : Int)) = true := decide_eq_true (by omega)
        clear HK HA HB hc1
        generalize a.getD k 0 = x at *
        go_wp2_with (fail)
        go_ret
        exact ⟨ret_int HE.out.symm, rfl⟩
    · have HE : Bx (lexC a b = if a.length < b.length then -1 else 0) := Bx.mk (HK.out.trans (by rw [lexC_end a b k (by omega), show k = a.length by omega]))
      have d1 : decide ((k : Int) < (a.length : Int)) = false := decide_eq_false (by omega)
      clear HK HA HB
      by_cases hl : a.length < b.length
      · have d2 : decide ((a.length : Int) < (b.length : Int)) = true := decide_eq_true (by omega)
        have HE2 : Bx (lexC a b = -1) := Bx.mk (HE.out.trans (if_pos hl))
        go_wp2_with (fail)
        go_ret
        exact ⟨ret_int HE2.out.symm, rfl⟩
      · have d2 : decide ((a.length : Int) < (b.length : Int)) = false := decide_eq_false (by omega)
        have HE2 : Bx (lexC a b = 0) := Bx.mk (HE.out.trans (if_neg hl))
        go_wp2_with (fail)
        go_ret
        exact ⟨ret_int HE2.out.symm, rfl⟩
set_option maxHeartbeats 4000000 in
theorem impl_validphrasesW (v : Value) (L : List (List Int)) (w : World) (h : RowsAt w v L) (hn : L.length ≤ 4194304) (hg : ∀ k, k < L.length → (L.getD k []).length ≤ 1048576) :
    Calls Tryd.prog 11 #[v] w fun e w' => e = .returned (.bool (phsB L)) ∧ ∃ n, w' = w.drewN n := by
  obtain ⟨A, c, rfl⟩ := rows_form h
  have HI := Bx.mk h
  have HG := Bx.mk hg
  clear h hg
  by_cases h12 : 12 < L.length
  · have HE : Bx (phsB L = false) := Bx.mk (by unfold phsB; rw [decide_eq_false (by omega)]; rfl)
    have d8 : decide ((L.length : Int) > 12) = true := decide_eq_true (by omega)
    go_enter Tryd.func11, Tryd.ntmps11
    go_wp2_with (fail)
    go_ret
    exact ⟨ret_bool HE.out.symm, 0, rfl⟩
  · have d8 : decide ((L.length : Int) > 12) = false := decide_eq_false (by omega)
    go_enter Tryd.func11, Tryd.ntmps11
    go_wp2_with (fail)
    go_loopw [10] (fun i wr => ∃ k : Nat, k ≤ L.length ∧ i = .int .i64 k ∧ Bx (∀ i, i < k → phAt L i = true) ∧ Bx (∃ n, wr = w.drewN n)) (fun i _ => L.length - (intOf i).toNat)
    case atStart => exact ⟨0, Nat.zero_le _, rfl, Bx.mk (fun i hi => absurd hi (Nat.not_lt_zero _)), Bx.mk ⟨0, rfl⟩⟩
    case round =>
      obtain ⟨k, hk, rfl, HK, HW⟩ := hrel
      by_cases hlt : k < L.length
      · obtain ⟨b, o, rfl, _, lb, hx⟩ := rows_at HI.out (by omega)
        obtain ⟨A1, e1, c1, i1⟩ := hx k hlt
        have c1 : wr.cell? ⟨b, o + k, none⟩ = some (.slice A1 (L.getD k []).length e1) := by obtain ⟨n, rfl⟩ := HW.out; exact c1
        have q1 := fun n => impl_isphrase _ _ (wr.drewN n) (by obtain ⟨m, rfl⟩ := HW.out; exact i1) (HG.out k hlt)
        have q1' := q1 0
        have k1 : (0 : Int) ≤ (k : Int) := by omega
        have k2 : (k : Int) < (L.length : Int) := by omega
        have HP : Bx (phAt L k = (phB (L.getD k []) && (k == 0 || lexB (L.getD (k - 1) []) (L.getD k [])))) := Bx.mk rfl
        have HN := Bx.mk (phs_no (L := L) k hlt)
        have HS : Bx (phAt L k = true → ∀ i, i < k + 1 → phAt L i = true) := Bx.mk (fun h i hi => by
          by_cases hik : i = k
          · subst hik; exact h
          · exact HK.out i (by omega))
        cases k with
        | zero =>
          have d0 : decide ((0 : Int) > 0) = false := by decide
          simp only [Nat.add_zero] at c1
          clear hx i1 HG HI HK q1
          generalize (L.getD 0 []).length = n at *
          generalize phB (L.getD 0 []) = b1 at *
          cases b1
          · have HN2 := Bx.mk (HN.out (by rw [HP.out]; rfl))
            clear HN HS HP
            go_wp2_with (fail)
            refine q1'.mono ?_
            rintro r w1 ⟨rfl, rfl⟩
            go_wp2_with (fail)
            go_ret
            exact ⟨ret_bool HN2.out.symm, HW.out⟩
          · have HN2 := Bx.mk (HS.out (by rw [HP.out]; rfl))
            clear HN HS HP
            go_wp2_with (fail)
            refine q1'.mono ?_
            rintro r w1 ⟨rfl, rfl⟩
            go_wp2_with (fail)
            go_roundw
            case rel => exact ⟨1, by omega, by go_num, HN2, HW⟩
            case measure => simp [intOf]; omega
        | succ j =>
          obtain ⟨A2, e2, c2, i2⟩ := hx j (by omega)
          have c2 : wr.cell? ⟨b, o + j, none⟩ = some (.slice A2 (L.getD j []).length e2) := by obtain ⟨n, rfl⟩ := HW.out; exact c2
          have q2 := fun n => std_cmpl _ _ _ _ (wr.drewN n) (show IntsAt (wr.drewN n) _ _ by obtain ⟨m, rfl⟩ := HW.out; exact i2) (show IntsAt (wr.drewN n) _ _ by obtain ⟨m, rfl⟩ := HW.out; exact i1) (HG.out j (by omega)) (HG.out (j + 1) hlt)
          have d0 : decide (((j + 1 : Nat) : Int) > 0) = true := decide_eq_true (by omega)
          have d0' : decide ((j : Int) + 1 > 0) = true := decide_eq_true (by omega)
          have x4 : IntKind.i64.wrap ((j : Int) + 1 - 1) = (j : Int) := by rw [show (j : Int) + 1 - 1 = j by omega]; exact IntWalk.i64_in _ (by omega)
          have y1 : (0 : Int) ≤ (j : Int) + 1 := by omega
          have y2 : (j : Int) + 1 < (L.length : Int) := by omega
          have y3 : ((j : Int) + 1).toNat = j + 1 := by omega
          have x5 : (0 : Int) ≤ (j : Int) := by omega
          have x6 : (j : Int) < (L.length : Int) := by omega
          have HC := Bx.mk (lex_cmp (L.getD j []) (L.getD (j + 1) []))
          rw [Nat.add_sub_cancel] at HP
          clear hx i1 i2 HG HI HK q1
          generalize (L.getD (j + 1) []).length = n at *
          generalize (L.getD j []).length = n2 at *
          generalize phB (L.getD (j + 1) []) = b1 at *
          generalize lexB (L.getD j []) (L.getD (j + 1) []) = b2 at *
          generalize lexC (L.getD j []) (L.getD (j + 1) []) = z at *
          cases b1
          · have HN2 := Bx.mk (HN.out (by rw [HP.out]; rfl))
            clear HN HS HP q2 HC
            go_wp2_with (fail)
            refine q1'.mono ?_
            rintro r w1 ⟨rfl, rfl⟩
            go_wp2_with (fail)
            go_ret
            exact ⟨ret_bool HN2.out.symm, HW.out⟩
          · cases b2
            · have HN2 := Bx.mk (HN.out (by rw [HP.out]; simp))
              have d3 : decide (z ≥ 0) = true := HC.out
              clear HN HS HP HC
              go_wp2_with (fail)
              refine q1'.mono ?_
              rintro r w1 ⟨rfl, rfl⟩
              go_wp2_with (fail)
              refine (q2 0).mono ?_
              rintro r w1 ⟨rfl, rfl⟩
              go_wp2_with (fail)
              go_ret
              exact ⟨ret_bool HN2.out.symm, by first | exact drmore HW.out 0 | exact HW.out⟩
            · have HN2 := Bx.mk (HS.out (by rw [HP.out]; simp))
              have d3 : decide (z ≥ 0) = false := HC.out
              clear HN HS HP HC
              go_wp2_with (fail)
              refine q1'.mono ?_
              rintro r w1 ⟨rfl, rfl⟩
              go_wp2_with (fail)
              refine (q2 0).mono ?_
              rintro r w1 ⟨rfl, rfl⟩
              go_wp2_with (fail)
              go_roundw
              case rel => exact ⟨j + 1 + 1, by omega, by go_num, HN2, Bx.mk (by first | exact drmore HW.out 0 | exact HW.out)⟩
              case measure => simp [intOf]; omega
      · obtain rfl : k = L.length := by omega
        have HE := Bx.mk (phs_all HK.out)
        go_wp2_with (fail)
        go_ret
        exact ⟨ret_bool (by rw [HE.out]; exact (decide_eq_true (by omega)).symm), HW.out⟩
theorem impl_validphrases (v : Value) (L : List (List Int)) (w : World) (h : RowsAt w v L) (hn : L.length ≤ 1048576) (hg : ∀ k, k < L.length → (L.getD k []).length ≤ 1048576) :
    Calls Tryd.prog 11 #[v] w fun e w' => e = .returned (.bool (phsB L)) ∧ ∃ n, w' = w.drewN n := impl_validphrasesW v L w h (by omega) hg
end Go.Proofs.YtgkdonnkiljplaaDoor
