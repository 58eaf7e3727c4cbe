/- Why a move is wrong: the model's l05Reason. -/
import Derived.Test.YtobhmoohalkijaaRq
namespace Go.Proofs.Ytobhmoohalkijaa
open Go.ChangeShapes Go.WideShapes Go.ChangeAt Go.RowKit
set_option linter.unusedVariables false
set_option linter.unusedSimpArgs false
set_option maxRecDepth 100000

theorem memP_not {L : List (List Int)} {a b : Int} (h : ∀ i, i < L.length → L.getD i [] ≠ [a, b]) : memP L a b = false := by
  unfold memP
  refine decide_eq_false (fun hm => ?_)
  obtain ⟨i, hi, he⟩ := List.mem_iff_getElem.1 hm
  exact h i hi (by rw [List.getD, List.getElem?_eq_getElem hi]; exact he)
theorem memP_yes {L : List (List Int)} {a b : Int} (i : Nat) (hi : i < L.length) (h : L.getD i [] = [a, b]) : memP L a b = true := by
  unfold memP
  refine decide_eq_true ?_
  rw [← h, List.getD, List.getElem?_eq_getElem hi]
  exact List.getElem_mem _
set_option maxHeartbeats 4000000 in
theorem spec_reason (g : Nat) (R : Rg) (p q : Int) (w : World) (h : PtrAt w g R) (hs : Sm R) (hok : OkG R) (hp : -12 ≤ p ∧ p ≤ 23) (hq : -12 ≤ q ∧ q ≤ 23) :
    Calls Try.prog 95 #[.pointer (some ⟨g, 0, none⟩), .int .i64 p, .int .i64 q] w fun e w' => e = .returned (.int .i64 (reasonZ R p q)) ∧ ∃ n, w' = w.drewN n := by
  obtain ⟨A, a0, B, b0, C, c0, hx, i1, i2, i3⟩ := ptr_form h
  have h1 := hx.c (k := 1) rfl
  have h2 := hx.c (k := 2) rfl
  have h5 := hx.c (k := 5) rfl
  have hl := hx.lt
  have F1 := Bx.mk i3
  have HOK := Bx.mk hok
  have hta := fun W => spec_tone p W
  have htb := fun W => spec_tone q W
  have hA := spec_tone5 g R (p % 12) w h hs
  have hB := spec_tone5 g R (q % 12) w h hs
  have hU := spec_has _ R.u (q % 12) w i1 (Nat.le_trans hs.u (by decide))
  have hD := spec_has _ R.d (q % 12) w i2 (Nat.le_trans hs.d (by decide))
  have hm := fun W => spec_max (p - q) (q - p) W
  have hl8 : R.f.length ≤ 8 := (pairs_yes hok.f).1
  have hmx : decide (max (p - q) (q - p) > 12) = decide (12 < q - p ∨ 12 < p - q) := by rw [decide_eq_decide]; omega
  have hsub : IntKind.i64.wrap (q - p) = q - p := IntWalk.i64_in _ (by omega)
  have hsub2 : IntKind.i64.wrap (p - q) = p - q := IntWalk.i64_in _ (by omega)
  have HO : Bx (reasonZ R p q = if hasT R (p % 12) = true ∧ hasT R (q % 12) = true then (if 12 < q - p ∨ 12 < p - q then 2 else if p < q ∧ hasB R.u (q % 12) = false then 3 else if q < p ∧ hasB R.d (q % 12) = false then 4 else if memP R.f (p % 12) (q % 12) = true then 5 else 0) else 1) := Bx.mk rfl
  have HN := Bx.mk (fun h => memP_not (L := R.f) (a := p % 12) (b := q % 12) h)
  have HY := Bx.mk (fun i hi h => memP_yes (L := R.f) (a := p % 12) (b := q % 12) i hi h)
  generalize hasT R (p % 12) = ta at hA HO
  generalize hasT R (q % 12) = tb at hB HO
  generalize hasB R.u (q % 12) = ub at hU HO
  generalize hasB R.d (q % 12) = db at hD HO
  generalize memP R.f (p % 12) (q % 12) = fb at HN HY HO
  generalize p % 12 = a at *
  generalize q % 12 = b at *
  generalize reasonZ R p q = rz at HO ⊢
  generalize max (p - q) (q - p) = mz at hm hmx
  clear h hs hok hx i1 i2 i3 hp hq
  cases ta
  · have HE : Bx (rz = 1) := Bx.mk (by rw [HO.out]; simp)
    clear HO HN HY F1 HOK 
    go_enter Try.func95, Try.ntmps95
    go_wp2_with (fail)
    refine (hta _).mono ?_
    rintro r wz ⟨rfl, rfl⟩
    go_wp2_with (fail)
    refine (htb _).mono ?_
    rintro r wz ⟨rfl, rfl⟩
    go_wp2_with (fail)
    refine (hA).mono ?_
    rintro r wz ⟨rfl, rfl⟩
    go_wp2_with (fail)
    go_ret
    exact ⟨ret_int HE.out.symm, 0, rfl⟩
  · cases tb
    · have HE : Bx (rz = 1) := Bx.mk (by rw [HO.out]; simp)
      clear HO HN HY F1 HOK 
      go_enter Try.func95, Try.ntmps95
      go_wp2_with (fail)
      refine (hta _).mono ?_
      rintro r wz ⟨rfl, rfl⟩
      go_wp2_with (fail)
      refine (htb _).mono ?_
      rintro r wz ⟨rfl, rfl⟩
      go_wp2_with (fail)
      refine (hA).mono ?_
      rintro r wz ⟨rfl, rfl⟩
      go_wp2_with (fail)
      refine (hB).mono ?_
      rintro r wz ⟨rfl, rfl⟩
      go_wp2_with (fail)
      go_ret
      exact ⟨ret_int HE.out.symm, 0, rfl⟩
    · by_cases hd : 12 < q - p ∨ 12 < p - q
      · have HE : Bx (rz = 2) := Bx.mk (by rw [HO.out]; simp [hd])
        rw [decide_eq_true hd] at hmx
        clear HO HN HY F1 HOK hd
        go_enter Try.func95, Try.ntmps95
        go_wp2_with (fail)
        refine (hta _).mono ?_
        rintro r wz ⟨rfl, rfl⟩
        go_wp2_with (fail)
        refine (htb _).mono ?_
        rintro r wz ⟨rfl, rfl⟩
        go_wp2_with (fail)
        refine (hA).mono ?_
        rintro r wz ⟨rfl, rfl⟩
        go_wp2_with (fail)
        refine (hB).mono ?_
        rintro r wz ⟨rfl, rfl⟩
        go_wp2_with (fail)
        refine (hm _).mono ?_
        rintro r wz ⟨rfl, rfl⟩
        go_wp2_with (fail)
        go_ret
        exact ⟨ret_int HE.out.symm, 0, rfl⟩
      · rw [decide_eq_false hd] at hmx
        rcases Int.lt_trichotomy p q with h | h | h
        · cases ub
          · have HE : Bx (rz = 3) := Bx.mk (by rw [HO.out]; simp [hd, h])
            have g1 : decide (q > p) = true := decide_eq_true h
            have g2 : decide (q < p) = false := decide_eq_false (by omega)
            clear HO HN HY F1 HOK hd h
            go_enter Try.func95, Try.ntmps95
            go_wp2_with (fail)
            refine (hta _).mono ?_
            rintro r wz ⟨rfl, rfl⟩
            go_wp2_with (fail)
            refine (htb _).mono ?_
            rintro r wz ⟨rfl, rfl⟩
            go_wp2_with (fail)
            refine (hA).mono ?_
            rintro r wz ⟨rfl, rfl⟩
            go_wp2_with (fail)
            refine (hB).mono ?_
            rintro r wz ⟨rfl, rfl⟩
            go_wp2_with (fail)
            refine (hm _).mono ?_
            rintro r wz ⟨rfl, rfl⟩
            go_wp2_with (fail)
            refine (hU).mono ?_
            rintro r wz ⟨rfl, rfl⟩
            go_wp2_with (fail)
            go_ret
            exact ⟨ret_int HE.out.symm, 0, rfl⟩
          · skip
            have HF : Bx (rz = if fb = true then 5 else 0) := Bx.mk (by rw [HO.out]; simp [hd]; omega)
            have g1 : decide (q > p) = true := decide_eq_true h
            have g2 : decide (q < p) = false := decide_eq_false (by omega)
            clear HO hd h
            go_enter Try.func95, Try.ntmps95
            go_wp2_with (fail)
            refine (hta _).mono ?_
            rintro r wz ⟨rfl, rfl⟩
            go_wp2_with (fail)
            refine (htb _).mono ?_
            rintro r wz ⟨rfl, rfl⟩
            go_wp2_with (fail)
            refine (hA).mono ?_
            rintro r wz ⟨rfl, rfl⟩
            go_wp2_with (fail)
            refine (hB).mono ?_
            rintro r wz ⟨rfl, rfl⟩
            go_wp2_with (fail)
            refine (hm _).mono ?_
            rintro r wz ⟨rfl, rfl⟩
            go_wp2_with (fail)
            refine (hU).mono ?_
            rintro r wz ⟨rfl, rfl⟩
            go_wp2_with (fail)
            go_loopw [9] (fun i wr => ∃ k : Nat, k ≤ R.f.length ∧ i = .int .i64 k ∧ Bx (∀ i, i < k → R.f.getD i [] ≠ [a, b]) ∧ Bx (∃ n, wr = w.drewN n)) (fun i _ => R.f.length - (intOf i).toNat)
            case atStart => exact ⟨0, Nat.zero_le _, rfl, Bx.mk (fun i hi => absurd hi (Nat.not_lt_zero _)), Bx.mk ⟨0, rfl⟩⟩
            case round =>
              obtain ⟨k, hk, rfl, HK, HW⟩ := hrel
              have h5 : wr.cell? ⟨g, 5, none⟩ = some (.slice C R.f.length c0) := by obtain ⟨n, rfl⟩ := HW.out; exact h5
              by_cases hlt : k < R.f.length
              · obtain ⟨bo, oo, rfl, _, lb, hx⟩ := rows_at F1.out (by omega)
                obtain ⟨A1, c1, x1, i1⟩ := hx k hlt
                obtain ⟨x, y, e1, _⟩ := pairs_at HOK.out.f k hlt
                rw [e1] at x1 i1
                rcases i1 with ⟨h, _⟩ | ⟨bi, oi, ci, hv, li, hc⟩
                · simp at h
                injection hv with hA1 _ hC1
                subst hA1 hC1
                have x1 : wr.cell? ⟨bo, oo + k, none⟩ = some (.slice (some ⟨bi, oi, none⟩) 2 c1) := by obtain ⟨n, rfl⟩ := HW.out; exact x1
                have y0 : wr.cell? ⟨bi, oi, none⟩ = some (.int .i64 x) := by obtain ⟨n, rfl⟩ := HW.out; exact hc 0 (by simp)
                have y1 : wr.cell? ⟨bi, oi + 1, none⟩ = some (.int .i64 y) := by obtain ⟨n, rfl⟩ := HW.out; exact hc 1 (by simp)
                have k1 : (0 : Int) ≤ (k : Int) := by omega
                have k2 : (k : Int) < (R.f.length : Int) := by omega
                clear hx hc
                by_cases hxa : x = a
                · by_cases hyb : y = b
                  · have HE : Bx (rz = 5) := Bx.mk (by have := HF.out; rw [HY.out k hlt (by rw [e1, hxa, hyb])] at this; simpa using this)
                    have d1 : (x == a) = true := by simpa using hxa
                    have d2 : (y == b) = true := by simpa using hyb
                    clear HN HY HF F1 HOK HK e1 hxa hyb
                    go_wp2_with (fail)
                    go_ret
                    exact ⟨ret_int HE.out.symm, HW.out⟩
                  · have HS : Bx (∀ i, i < k + 1 → R.f.getD i [] ≠ [a, b]) := Bx.mk (fun i hi => by
                      by_cases hik : i = k
                      · subst hik; rw [e1]; intro h; injection h with h1 h2; injection h2 with h3 _; exact hyb h3
                      · exact HK.out i (by omega))
                    have d1 : (x == a) = true := by simpa using hxa
                    have d2 : (y == b) = false := by simpa using hyb
                    clear HN HY HF F1 HOK HK e1 hxa hyb
                    go_wp2_with (fail)
                    go_roundw
                    case rel => exact ⟨k + 1, by omega, by go_num, HS, HW⟩
                    case measure => simp [intOf]; omega
                · have HS : Bx (∀ i, i < k + 1 → R.f.getD i [] ≠ [a, b]) := Bx.mk (fun i hi => by
                    by_cases hik : i = k
                    · subst hik; rw [e1]; intro h; injection h with h1 h2; exact hxa h1
                    · exact HK.out i (by omega))
                  have d1 : (x == a) = false := by simpa using hxa
                  clear HN HY HF F1 HOK HK e1 hxa
                  go_wp2_with (fail)
                  go_roundw
                  case rel => exact ⟨k + 1, by omega, by go_num, HS, HW⟩
                  case measure => simp [intOf]; omega
              · obtain rfl : k = R.f.length := by omega
                have HE : Bx (rz = 0) := Bx.mk (by have := HF.out; rw [HN.out HK.out] at this; simpa using this)
                have hk2 : ¬ (R.f.length : Int) < (R.f.length : Int) := by omega
                clear HN HY HF F1 HOK HK
                go_wp2_with (fail)
                go_ret
                exact ⟨ret_int HE.out.symm, HW.out⟩
        · skip
          have HF : Bx (rz = if fb = true then 5 else 0) := Bx.mk (by rw [HO.out]; simp [hd]; omega)
          have g1 : decide (q > p) = false := decide_eq_false (by omega)
          have g2 : decide (q < p) = false := decide_eq_false (by omega)
          clear HO hd h
          go_enter Try.func95, Try.ntmps95
          go_wp2_with (fail)
          refine (hta _).mono ?_
          rintro r wz ⟨rfl, rfl⟩
          go_wp2_with (fail)
          refine (htb _).mono ?_
          rintro r wz ⟨rfl, rfl⟩
          go_wp2_with (fail)
          refine (hA).mono ?_
          rintro r wz ⟨rfl, rfl⟩
          go_wp2_with (fail)
          refine (hB).mono ?_
          rintro r wz ⟨rfl, rfl⟩
          go_wp2_with (fail)
          refine (hm _).mono ?_
          rintro r wz ⟨rfl, rfl⟩
          go_wp2_with (fail)
          go_loopw [9] (fun i wr => ∃ k : Nat, k ≤ R.f.length ∧ i = .int .i64 k ∧ Bx (∀ i, i < k → R.f.getD i [] ≠ [a, b]) ∧ Bx (∃ n, wr = w.drewN n)) (fun i _ => R.f.length - (intOf i).toNat)
          case atStart => exact ⟨0, Nat.zero_le _, rfl, Bx.mk (fun i hi => absurd hi (Nat.not_lt_zero _)), Bx.mk ⟨0, rfl⟩⟩
          case round =>
            obtain ⟨k, hk, rfl, HK, HW⟩ := hrel
            have h5 : wr.cell? ⟨g, 5, none⟩ = some (.slice C R.f.length c0) := by obtain ⟨n, rfl⟩ := HW.out; exact h5
            by_cases hlt : k < R.f.length
            · obtain ⟨bo, oo, rfl, _, lb, hx⟩ := rows_at F1.out (by omega)
              obtain ⟨A1, c1, x1, i1⟩ := hx k hlt
              obtain ⟨x, y, e1, _⟩ := pairs_at HOK.out.f k hlt
              rw [e1] at x1 i1
              rcases i1 with ⟨h, _⟩ | ⟨bi, oi, ci, hv, li, hc⟩
              · simp at h
              injection hv with hA1 _ hC1
              subst hA1 hC1
              have x1 : wr.cell? ⟨bo, oo + k, none⟩ = some (.slice (some ⟨bi, oi, none⟩) 2 c1) := by obtain ⟨n, rfl⟩ := HW.out; exact x1
              have y0 : wr.cell? ⟨bi, oi, none⟩ = some (.int .i64 x) := by obtain ⟨n, rfl⟩ := HW.out; exact hc 0 (by simp)
              have y1 : wr.cell? ⟨bi, oi + 1, none⟩ = some (.int .i64 y) := by obtain ⟨n, rfl⟩ := HW.out; exact hc 1 (by simp)
              have k1 : (0 : Int) ≤ (k : Int) := by omega
              have k2 : (k : Int) < (R.f.length : Int) := by omega
              clear hx hc
              by_cases hxa : x = a
              · by_cases hyb : y = b
                · have HE : Bx (rz = 5) := Bx.mk (by have := HF.out; rw [HY.out k hlt (by rw [e1, hxa, hyb])] at this; simpa using this)
                  have d1 : (x == a) = true := by simpa using hxa
                  have d2 : (y == b) = true := by simpa using hyb
                  clear HN HY HF F1 HOK HK e1 hxa hyb
                  go_wp2_with (fail)
                  go_ret
                  exact ⟨ret_int HE.out.symm, HW.out⟩
                · have HS : Bx (∀ i, i < k + 1 → R.f.getD i [] ≠ [a, b]) := Bx.mk (fun i hi => by
                    by_cases hik : i = k
                    · subst hik; rw [e1]; intro h; injection h with h1 h2; injection h2 with h3 _; exact hyb h3
                    · exact HK.out i (by omega))
                  have d1 : (x == a) = true := by simpa using hxa
                  have d2 : (y == b) = false := by simpa using hyb
                  clear HN HY HF F1 HOK HK e1 hxa hyb
                  go_wp2_with (fail)
                  go_roundw
                  case rel => exact ⟨k + 1, by omega, by go_num, HS, HW⟩
                  case measure => simp [intOf]; omega
              · have HS : Bx (∀ i, i < k + 1 → R.f.getD i [] ≠ [a, b]) := Bx.mk (fun i hi => by
                  by_cases hik : i = k
                  · subst hik; rw [e1]; intro h; injection h with h1 h2; exact hxa h1
                  · exact HK.out i (by omega))
                have d1 : (x == a) = false := by simpa using hxa
                clear HN HY HF F1 HOK HK e1 hxa
                go_wp2_with (fail)
                go_roundw
                case rel => exact ⟨k + 1, by omega, by go_num, HS, HW⟩
                case measure => simp [intOf]; omega
            · obtain rfl : k = R.f.length := by omega
              have HE : Bx (rz = 0) := Bx.mk (by have := HF.out; rw [HN.out HK.out] at this; simpa using this)
              have hk2 : ¬ (R.f.length : Int) < (R.f.length : Int) := by omega
              clear HN HY HF F1 HOK HK
              go_wp2_with (fail)
              go_ret
              exact ⟨ret_int HE.out.symm, HW.out⟩
        · cases db
          · have HE : Bx (rz = 4) := Bx.mk (by rw [HO.out]; simp [hd, h]; omega)
            have g1 : decide (q > p) = false := decide_eq_false (by omega)
            have g2 : decide (q < p) = true := decide_eq_true h
            clear HO HN HY F1 HOK hd h
            go_enter Try.func95, Try.ntmps95
            go_wp2_with (fail)
            refine (hta _).mono ?_
            rintro r wz ⟨rfl, rfl⟩
            go_wp2_with (fail)
            refine (htb _).mono ?_
            rintro r wz ⟨rfl, rfl⟩
            go_wp2_with (fail)
            refine (hA).mono ?_
            rintro r wz ⟨rfl, rfl⟩
            go_wp2_with (fail)
            refine (hB).mono ?_
            rintro r wz ⟨rfl, rfl⟩
            go_wp2_with (fail)
            refine (hm _).mono ?_
            rintro r wz ⟨rfl, rfl⟩
            go_wp2_with (fail)
            refine (hD).mono ?_
            rintro r wz ⟨rfl, rfl⟩
            go_wp2_with (fail)
            go_ret
            exact ⟨ret_int HE.out.symm, 0, rfl⟩
          · skip
            have HF : Bx (rz = if fb = true then 5 else 0) := Bx.mk (by rw [HO.out]; simp [hd]; omega)
            have g1 : decide (q > p) = false := decide_eq_false (by omega)
            have g2 : decide (q < p) = true := decide_eq_true h
            clear HO hd h
            go_enter Try.func95, Try.ntmps95
            go_wp2_with (fail)
            refine (hta _).mono ?_
            rintro r wz ⟨rfl, rfl⟩
            go_wp2_with (fail)
            refine (htb _).mono ?_
            rintro r wz ⟨rfl, rfl⟩
            go_wp2_with (fail)
            refine (hA).mono ?_
            rintro r wz ⟨rfl, rfl⟩
            go_wp2_with (fail)
            refine (hB).mono ?_
            rintro r wz ⟨rfl, rfl⟩
            go_wp2_with (fail)
            refine (hm _).mono ?_
            rintro r wz ⟨rfl, rfl⟩
            go_wp2_with (fail)
            refine (hD).mono ?_
            rintro r wz ⟨rfl, rfl⟩
            go_wp2_with (fail)
            go_loopw [9] (fun i wr => ∃ k : Nat, k ≤ R.f.length ∧ i = .int .i64 k ∧ Bx (∀ i, i < k → R.f.getD i [] ≠ [a, b]) ∧ Bx (∃ n, wr = w.drewN n)) (fun i _ => R.f.length - (intOf i).toNat)
            case atStart => exact ⟨0, Nat.zero_le _, rfl, Bx.mk (fun i hi => absurd hi (Nat.not_lt_zero _)), Bx.mk ⟨0, rfl⟩⟩
            case round =>
              obtain ⟨k, hk, rfl, HK, HW⟩ := hrel
              have h5 : wr.cell? ⟨g, 5, none⟩ = some (.slice C R.f.length c0) := by obtain ⟨n, rfl⟩ := HW.out; exact h5
              by_cases hlt : k < R.f.length
              · obtain ⟨bo, oo, rfl, _, lb, hx⟩ := rows_at F1.out (by omega)
                obtain ⟨A1, c1, x1, i1⟩ := hx k hlt
                obtain ⟨x, y, e1, _⟩ := pairs_at HOK.out.f k hlt
                rw [e1] at x1 i1
                rcases i1 with ⟨h, _⟩ | ⟨bi, oi, ci, hv, li, hc⟩
                · simp at h
                injection hv with hA1 _ hC1
                subst hA1 hC1
                have x1 : wr.cell? ⟨bo, oo + k, none⟩ = some (.slice (some ⟨bi, oi, none⟩) 2 c1) := by obtain ⟨n, rfl⟩ := HW.out; exact x1
                have y0 : wr.cell? ⟨bi, oi, none⟩ = some (.int .i64 x) := by obtain ⟨n, rfl⟩ := HW.out; exact hc 0 (by simp)
                have y1 : wr.cell? ⟨bi, oi + 1, none⟩ = some (.int .i64 y) := by obtain ⟨n, rfl⟩ := HW.out; exact hc 1 (by simp)
                have k1 : (0 : Int) ≤ (k : Int) := by omega
                have k2 : (k : Int) < (R.f.length : Int) := by omega
                clear hx hc
                by_cases hxa : x = a
                · by_cases hyb : y = b
                  · have HE : Bx (rz = 5) := Bx.mk (by have := HF.out; rw [HY.out k hlt (by rw [e1, hxa, hyb])] at this; simpa using this)
                    have d1 : (x == a) = true := by simpa using hxa
                    have d2 : (y == b) = true := by simpa using hyb
                    clear HN HY HF F1 HOK HK e1 hxa hyb
                    go_wp2_with (fail)
                    go_ret
                    exact ⟨ret_int HE.out.symm, HW.out⟩
                  · have HS : Bx (∀ i, i < k + 1 → R.f.getD i [] ≠ [a, b]) := Bx.mk (fun i hi => by
                      by_cases hik : i = k
                      · subst hik; rw [e1]; intro h; injection h with h1 h2; injection h2 with h3 _; exact hyb h3
                      · exact HK.out i (by omega))
                    have d1 : (x == a) = true := by simpa using hxa
                    have d2 : (y == b) = false := by simpa using hyb
                    clear HN HY HF F1 HOK HK e1 hxa hyb
                    go_wp2_with (fail)
                    go_roundw
                    case rel => exact ⟨k + 1, by omega, by go_num, HS, HW⟩
                    case measure => simp [intOf]; omega
                · have HS : Bx (∀ i, i < k + 1 → R.f.getD i [] ≠ [a, b]) := Bx.mk (fun i hi => by
                    by_cases hik : i = k
                    · subst hik; rw [e1]; intro h; injection h with h1 h2; exact hxa h1
                    · exact HK.out i (by omega))
                  have d1 : (x == a) = false := by simpa using hxa
                  clear HN HY HF F1 HOK HK e1 hxa
                  go_wp2_with (fail)
                  go_roundw
                  case rel => exact ⟨k + 1, by omega, by go_num, HS, HW⟩
                  case measure => simp [intOf]; omega
              · obtain rfl : k = R.f.length := by omega
                have HE : Bx (rz = 0) := Bx.mk (by have := HF.out; rw [HN.out HK.out] at this; simpa using this)
                have hk2 : ¬ (R.f.length : Int) < (R.f.length : Int) := by omega
                clear HN HY HF F1 HOK HK
                go_wp2_with (fail)
                go_ret
                exact ⟨ret_int HE.out.symm, HW.out⟩
end Go.Proofs.Ytobhmoohalkijaa
