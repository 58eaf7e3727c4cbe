/- Scales: the number of a scale, by the model. -/
import Derived.Test.YtfoikipacnmgkaaSc10
namespace Go.Proofs.Ytfoikipacnmgkaa
open Go.ChangeShapes Go.WideShapes Go.ChangeAt Go.RowKit
set_option linter.unusedVariables false
set_option linter.unusedSimpArgs false
set_option maxRecDepth 100000

def numI (n i a : Int) : Nat → Int
  | 0 => 0
  | m + 1 => numI n i a m + chooseZ (11 - (a + 1 + m)) (n - 1 - i)
theorem numI_bd (n i a : Int) (m : Nat) (ha : 0 ≤ a) : 0 ≤ numI n i a m ∧ numI n i a m ≤ 1000 * m := by
  induction m with
  | zero => exact ⟨Int.le_refl _, Int.le_refl _⟩
  | succ m ih =>
    have := choose_bd (11 - (a + 1 + m)) (n - 1 - i) (by omega)
    unfold numI
    push_cast
    omega
def numO (zs : List Int) : Nat → Int
  | 0 => 0
  | j + 1 => numO zs j + numI zs.length ((j : Int) + 1) (zs.getD j 0) (zs.getD (j + 1) 0 - zs.getD j 0 - 1).toNat
theorem numO_bd {zs : List Int} (hs : scaleB zs = true) (j : Nat) (hj : j + 1 ≤ zs.length) : 0 ≤ numO zs j ∧ numO zs j ≤ 12000 * j := by
  induction j with
  | zero => exact ⟨Int.le_refl _, Int.le_refl _⟩
  | succ j ih =>
    obtain ⟨r1, r2⟩ := scale_in hs j (by omega)
    obtain ⟨r3, r4⟩ := scale_in hs (j + 1) (by omega)
    have h1 := ih (by omega)
    have h2 := numI_bd zs.length ((j : Int) + 1) (zs.getD j 0) (zs.getD (j + 1) 0 - zs.getD j 0 - 1).toNat r1
    unfold numO
    push_cast
    omega
def numbC (zs : List Int) : Int × Int := if scaleB zs = true then (numO zs (zs.length - 1), 0) else (0, 1)
set_option maxHeartbeats 2000000 in
theorem spec_number (v : Value) (zs : List Int) (w : World) (h : IntsAt w v zs) (hm : zs.length ≤ 281474976710656) :
    Calls Try.prog 58 #[v] w (IntsRes (numbC zs) w) := by
  have hsc := fun W h => spec_scale v zs W h hm
  have HI := Bx.mk h
  cases h1 : scaleB zs
  · obtain ⟨A, c, rfl⟩ := h.len
    clear h
    have HE : Bx (numbC zs = (0, 1)) := Bx.mk (by simp [numbC, h1])
    rw [h1] at hsc
    clear h1
    rw [HE.out]
    go_enter Try.func58, Try.ntmps58
    go_wp2_with (fail)
    refine (hsc _ HI.out).mono ?_
    rintro e w' ⟨rfl, k, rfl⟩
    go_wp2_with (fail)
    go_ret2
    exact ⟨rfl, k, rfl⟩
  · have HE : Bx (numbC zs = (numO zs (zs.length - 1), 0)) := Bx.mk (by simp [numbC, h1])
    obtain ⟨⟨l1, l2⟩, hr, _⟩ := scale_yes h1
    obtain ⟨b, o, c, rfl, hb, hc⟩ := h.form (by omega)
    have HC := Bx.mk hc
    have HR := Bx.mk (scale_in h1)
    have HA := Bx.mk (rise_all hr)
    have HO := Bx.mk (fun j hj => numO_bd h1 j hj)
    rw [h1] at hsc
    clear h1 h hc hr
    rw [HE.out]
    go_enter Try.func58, Try.ntmps58
    go_wp2_with (fail)
    refine (hsc _ HI.out).mono ?_
    rintro e w' ⟨rfl, n0, rfl⟩
    go_wp2_with (fail)
    go_loopw [5, 6] (fun num i wr => ∃ j n : Nat, j + 1 ≤ zs.length ∧ i = .int .i64 ((j : Int) + 1) ∧ num = .int .i64 (numO zs j) ∧ Bx (wr = w.drewN n)) (fun _ i _ => zs.length - (intOf i).toNat)
    case atStart => exact ⟨0, n0, by omega, rfl, rfl, Bx.mk rfl⟩
    case round =>
      obtain ⟨j, n, hj, rfl, rfl, HW⟩ := hrel
      obtain ⟨o1, o2⟩ := HO.out j hj
      by_cases hlt : j + 1 < zs.length
      · have h1 : wr.cell? ⟨b, o + (j + 1), none⟩ = some (.int .i64 (zs.getD (j + 1) 0)) := by rw [HW.out]; exact HC.out _ hlt
        have h2 : wr.cell? ⟨b, o + j, none⟩ = some (.int .i64 (zs.getD j 0)) := by rw [HW.out]; exact HC.out _ (by omega)
        obtain ⟨r1, r2⟩ := HR.out (j + 1) hlt
        obtain ⟨r3, r4⟩ := HR.out j (by omega)
        have r5 : zs.getD j 0 < zs.getD (j + 1) 0 := by
          have := (HA.out (j + 1) hlt).2 (by omega)
          simpa using this
        have HS : Bx (numO zs (j + 1) = numO zs j + numI zs.length ((j : Int) + 1) (zs.getD j 0) (zs.getD (j + 1) 0 - zs.getD j 0 - 1).toNat) := Bx.mk rfl
        have m0 : (0 : Int) ≤ (j : Int) + 1 := by omega
        have m1 : (j : Int) + 1 < (zs.length : Int) := by omega
        have j0 : (0 : Int) ≤ (j : Int) := Int.natCast_nonneg _
        have j1 : (j : Int) < (zs.length : Int) := by omega
        have E1 : IntKind.i64.wrap ((j : Int) + 1 - 1) = (j : Int) := by rw [IntWalk.i64_in _ (by omega)]; omega
        have E4 : IntKind.i64.wrap (j : Int) = (j : Int) := IntWalk.i64_in _ (by omega)
        have E2 : ((j : Int) + 1).toNat = j + 1 := by omega
        generalize zs.getD (j + 1) 0 = y at *
        generalize zs.getD j 0 = x at *
        generalize hN : numO zs j = N at *
        have E3 : IntKind.i64.wrap (x + 1) = x + 1 := IntWalk.i64_in _ (by omega)
        clear hN
        go_wp2_with (fail)
        go_loopw [5, 7] (fun num t w2 => ∃ m n2 : Nat, x + 1 + (m : Int) ≤ y ∧ t = .int .i64 (x + 1 + (m : Int)) ∧ num = .int .i64 (N + numI (zs.length : Int) ((j : Int) + 1) x m) ∧ Bx (w2 = w.drewN n2)) (fun _ t _ => (20 - intOf t).toNat)
        case atStart => exact ⟨0, n, by omega, by go_num, by simp [numI], HW⟩
        case round =>
          obtain ⟨m, n2, hm2, rfl, rfl, HW2⟩ := hrel
          obtain ⟨q1, q2⟩ := numI_bd (zs.length : Int) ((j : Int) + 1) x m r3
          by_cases hlt2 : x + 1 + (m : Int) < y
          · have h3 : wr.cell? ⟨b, o + (j + 1), none⟩ = some (.int .i64 y) := by rw [HW2.out]; rw [HW.out] at h1; exact h1
            have HI2 : Bx (numI (zs.length : Int) ((j : Int) + 1) x (m + 1) = numI (zs.length : Int) ((j : Int) + 1) x m + chooseZ (11 - (x + 1 + m)) (zs.length - 1 - ((j : Int) + 1))) := Bx.mk rfl
            have hch := fun W => spec_choose (11 - (x + 1 + m)) (zs.length - 1 - ((j : Int) + 1)) W (by omega) (by omega)
            obtain ⟨d1, d2⟩ := choose_bd (11 - (x + 1 + m)) (zs.length - 1 - ((j : Int) + 1)) (by omega)
            generalize numI (zs.length : Int) ((j : Int) + 1) x m = M at *
            generalize chooseZ (11 - (x + 1 + m)) (zs.length - 1 - ((j : Int) + 1)) = C at *
            have t1 : x + 1 + (m : Int) ≤ 10 ∧ 1 ≤ x + 1 + (m : Int) ∧ (m : Int) ≤ 10 := by omega
            obtain ⟨t1, t2, t3⟩ := t1
            have HT : Bx (x + 1 + (m : Int) + 1 = x + 1 + ((m + 1 : Nat) : Int)) := Bx.mk (by omega)
            have ht3 : x + 1 + ((m + 1 : Nat) : Int) ≤ y := by omega
            have E5 : IntKind.i64.wrap (11 - (x + 1 + (m : Int))) = 11 - (x + 1 + (m : Int)) := IntWalk.i64_in _ (by omega)
            have E6 : IntKind.i64.wrap ((zs.length : Int) - 1) = (zs.length : Int) - 1 := IntWalk.i64_in _ (by omega)
            have E7 : IntKind.i64.wrap ((zs.length : Int) - 1 - ((j : Int) + 1)) = (zs.length : Int) - 1 - ((j : Int) + 1) := IntWalk.i64_in _ (by omega)
            have E8 : IntKind.i64.wrap (N + M + C) = N + M + C := IntWalk.i64_in _ (by omega)
            have E9 : IntKind.i64.wrap (x + 1 + (m : Int) + 1) = x + 1 + (m : Int) + 1 := IntWalk.i64_in _ (by omega)
            generalize x + 1 + (m : Int) = T at *
            go_wp2_with (fail)
            refine (hch _).mono ?_
            rintro e w' ⟨rfl, rfl⟩
            go_wp2_with (fail)
            go_roundw
            case rel => exact ⟨m + 1, n2, ht3, by rw [← HT.out], by rw [HI2.out]; exact congrArg _ (by omega), HW2⟩
            case measure => simp [intOf]; omega
          · have HM : Bx ((y - x - 1).toNat = m) := Bx.mk (by omega)
            have h3 : wr.cell? ⟨b, o + (j + 1), none⟩ = some (.int .i64 y) := by rw [HW2.out]; rw [HW.out] at h1; exact h1
            have HS2 : Bx (numO zs (j + 1) = N + numI (zs.length : Int) ((j : Int) + 1) x m) := Bx.mk (by rw [HS.out, HM.out])
            clear HS HM hm2
            generalize numI (zs.length : Int) ((j : Int) + 1) x m = M at *
            generalize x + 1 + (m : Int) = T at *
            go_wp2_with (fail)
            go_roundw
            case rel => exact ⟨j + 1, n2, by omega, by go_num, by rw [HS2.out], HW2⟩
            case measure => simp [intOf]; omega
      · obtain rfl : j = zs.length - 1 := by omega
        go_wp2_with (fail)
        go_ret2
        exact ⟨rfl, n, HW.out⟩
end Go.Proofs.Ytfoikipacnmgkaa
