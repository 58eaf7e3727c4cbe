/- MelodyText: the model. -/
import Derived.Test.YtendfnimhmnioaaDoorNm
namespace Go.Proofs.YtendfnimhmnioaaDoor
open Go.ChangeShapes Go.WideShapes Go.ChangeAt Go.RowKit
set_option linter.unusedVariables false
set_option linter.unusedSimpArgs false
set_option maxRecDepth 100000

theorem ntS_one (p : Int × Int) (h : p.2 = 1) : ntS p = nmS p.1 := by unfold ntS; rw [if_pos h]
theorem ntS_more (p : Int × Int) (h : p.2 ≠ 1) : ntS p = nmS p.1 ++ ⟨(Lib.itoa p.2).toArray⟩ := by unfold ntS; rw [if_neg h]
theorem txS_first (l : List (Int × Int)) : txS l 1 = ⟨#[]⟩ ++ ntS (pat l 0) := rfl
theorem txS_next (l : List (Int × Int)) (k : Nat) (h : 0 < k) : txS l (k + 1) = (txS l k ++ ⟨#[32]⟩) ++ ntS (pat l k) := by
  show (if k = 0 then txS l k else txS l k ++ ⟨#[32]⟩) ++ ntS (pat l k) = _
  rw [if_neg (by omega)]
set_option maxHeartbeats 4000000 in
theorem spec_text9 (v : Value) (l : List (Int × Int)) (w : World) (h : PrsAt w v l) (hok : okM l = true) :
    Calls Tryd.prog 57 #[v] w fun e w' => e = .returned (.string (if l.length = 0 then ⟨#[45]⟩ else txS l l.length)) ∧ Below w.heap.size w w' := by
  obtain ⟨A, c, rfl⟩ := prs_len h
  have hm := (okM_yes hok).1
  have HI := Bx.mk h
  have HOK := Bx.mk (fun k hk => okM_at hok k hk)
  have HSZ := Bx.mk (fun k hk => txS_size hok k hk)
  clear h hok
  by_cases h0 : l.length = 0
  · have HE : Bx ((if l.length = 0 then (⟨#[45]⟩ : ByteArray) else txS l l.length) = ⟨#[45]⟩) := Bx.mk (if_pos h0)
    have d0 : ((l.length : Int) == 0) = true := by rw [h0]; rfl
    clear h0
    rw [HE.out]
    clear HE
    go_enter Tryd.func57, Tryd.ntmps57
    go_wp2_with (fail)
    go_ret
    exact ⟨rfl, Below.refl _ _⟩
  · have HE : Bx ((if l.length = 0 then (⟨#[45]⟩ : ByteArray) else txS l l.length) = txS l l.length) := Bx.mk (if_neg h0)
    have d0 : ((l.length : Int) == 0) = false := beq_false_of_ne (by omega)
    clear h0
    rw [HE.out]
    clear HE
    go_enter Tryd.func57, Tryd.ntmps57
    go_wp2_with (fail)
    go_loopw [3, 4] (fun s i wr => ∃ k : Nat, k ≤ l.length ∧ i = .int .i64 k ∧ s = .string (txS l k) ∧ Bx (Below w.heap.size w wr)) (fun _ i _ => l.length - (intOf i).toNat)
    case atStart => exact ⟨0, Nat.zero_le _, rfl, rfl, Bx.mk (Below.refl _ _)⟩
    case round =>
      obtain ⟨k, hk, rfl, rfl, HW⟩ := hrel
      by_cases hlt : k < l.length
      · have dlt : decide ((k : Int) < (l.length : Int)) = true := decide_eq_true (by omega)
        obtain ⟨b, o, rfl, hb, hc⟩ := prs_form (HI.out.below HW.out) (by omega)
        obtain ⟨c0, c1⟩ := hc k hlt
        have k1 : (0 : Int) ≤ (k : Int) := by omega
        have k2 : (k : Int) < (l.length : Int) := by omega
        obtain ⟨r1, r2⟩ := HOK.out k hlt
        have hsz := HSZ.out k hk
        have HF := Bx.mk (txS_first l)
        have HN := Bx.mk (txS_next l k)
        have H1 := Bx.mk (ntS_one (pat l k))
        have H2 := Bx.mk (ntS_more (pat l k))
        have hnm := fun W => spec_name9 (pat l k).1 W r1
        have hdc := fun W => spec_dec_any (pat l k).2 W (by omega) (by omega)
        have hn2 := nmS_size (pat l k).1
        have hi2 := Lib.itoa_length_le (pat l k).2 (by omega) (by omega)
        clear hc HSZ HOK
        by_cases hk0 : k = 0
        · subst hk0
          rw [show o + 0 * 2 = o by omega] at c0
          rw [show o + 0 * 2 + 1 = o + 1 by omega] at c1
          have e0 : txS l 0 = ⟨#[]⟩ := rfl
          by_cases hp : (pat l 0).2 = 1
          · have HT : Bx (txS l 1 = ⟨#[]⟩ ++ nmS (pat l 0).1) := Bx.mk (by rw [HF.out, H1.out hp])
            clear HF HN H1 H2 hdc
            rw [hp] at c1
            generalize (pat l 0).1 = p1 at *
            generalize nmS p1 = NM at *
            rw [e0]
            have E1 : (9223372036854775807 < NM.size) = False := eq_false (by omega)
            go_wp2_with (fail)
            refine (hnm _).mono ?_
            rintro e w' ⟨rfl, rfl⟩
            go_wp2_with (fail)
            go_roundw
            case rel => exact ⟨1, by omega, by go_num, by rw [HT.out], HW⟩
            case measure => simp [intOf]; omega
          · have HT : Bx (txS l 1 = (⟨#[]⟩ ++ nmS (pat l 0).1) ++ ⟨(Lib.itoa (pat l 0).2).toArray⟩) := Bx.mk (by rw [HF.out, H2.out hp, ByteArray.append_assoc])
            have d1 : ((pat l 0).2 != 1) = true := by simpa using hp
            clear HF HN H1 H2
            generalize (pat l 0).1 = p1 at *
            generalize (pat l 0).2 = p2 at *
            generalize nmS p1 = NM at *
            generalize Lib.itoa p2 = D at *
            rw [e0]
            have E1 : (9223372036854775807 < NM.size) = False := eq_false (by omega)
            have E2 : (9223372036854775807 < NM.size + D.length) = False := eq_false (by omega)
            go_wp2_with (fail)
            refine (hnm _).mono ?_
            rintro e w' ⟨rfl, rfl⟩
            go_wp2_with (fail)
            refine (hdc _).mono ?_
            rintro e w5 ⟨rfl, hb5⟩
            have HW5 := Bx.mk (HW.out.trans (hb5.mono HW.out.size))
            go_wp2_with (fail)
            go_roundw
            case rel => exact ⟨1, by omega, by go_num, by rw [HT.out], HW5⟩
            case measure => simp [intOf]; omega
        · have dk : decide (0 < (k : Int)) = true := decide_eq_true (by omega)
          have hN := HN.out (by omega)
          by_cases hp : (pat l k).2 = 1
          · have HT : Bx (txS l (k + 1) = (txS l k ++ ⟨#[32]⟩) ++ nmS (pat l k).1) := Bx.mk (by rw [hN, H1.out hp])
            clear HF HN H1 H2 hdc hN
            rw [hp] at c1
            generalize (pat l k).1 = p1 at *
            generalize nmS p1 = NM at *
            generalize txS l k = T at *
            have E1 : (9223372036854775807 < T.size + 1) = False := eq_false (by omega)
            have E2 : (9223372036854775807 < T.size + 1 + NM.size) = False := eq_false (by omega)
            go_wp2_with (fail)
            refine (hnm _).mono ?_
            rintro e w' ⟨rfl, rfl⟩
            go_wp2_with (fail)
            go_roundw
            case rel => exact ⟨k + 1, by omega, by go_num, by rw [HT.out], HW⟩
            case measure => simp [intOf]; omega
          · have HT : Bx (txS l (k + 1) = ((txS l k ++ ⟨#[32]⟩) ++ nmS (pat l k).1) ++ ⟨(Lib.itoa (pat l k).2).toArray⟩) := Bx.mk (by rw [hN, H2.out hp, ← ByteArray.append_assoc])
            have d1 : ((pat l k).2 != 1) = true := by simpa using hp
            clear HF HN H1 H2 hN
            generalize (pat l k).1 = p1 at *
            generalize (pat l k).2 = p2 at *
            generalize nmS p1 = NM at *
            generalize Lib.itoa p2 = D at *
            generalize txS l k = T at *
            have E1 : (9223372036854775807 < T.size + 1) = False := eq_false (by omega)
            have E2 : (9223372036854775807 < T.size + 1 + NM.size) = False := eq_false (by omega)
            have E3 : (9223372036854775807 < T.size + 1 + NM.size + D.length) = False := eq_false (by omega)
            go_wp2_with (fail)
            refine (hnm _).mono ?_
            rintro e w' ⟨rfl, rfl⟩
            go_wp2_with (fail)
            refine (hdc _).mono ?_
            rintro e w5 ⟨rfl, hb5⟩
            have HW5 := Bx.mk (HW.out.trans (hb5.mono HW.out.size))
            go_wp2_with (fail)
            go_roundw
            case rel => exact ⟨k + 1, by omega, by go_num, by rw [HT.out], HW5⟩
            case measure => simp [intOf]; omega
      · obtain rfl : k = l.length := by omega
        have dlt : decide ((l.length : Int) < (l.length : Int)) = false := decide_eq_false (by omega)
        go_wp2_with (fail)
        go_ret
        exact ⟨rfl, HW.out⟩
set_option maxHeartbeats 1000000 in
theorem spec_melodytext (v : Value) (l : List (Int × Int)) (w : World) (h : PrsAt w v l) (hm : l.length ≤ 1048576) :
    Calls Tryd.prog 28 #[v] w fun e w' => e = .returned (.string (textM l)) ∧ Below w.heap.size w w' := by
  have hq := fun W h => spec_okm v l W h hm
  have h' := h
  obtain ⟨A, c, rfl⟩ := prs_len h'
  have HI := Bx.mk h
  clear h hm h'
  cases hok : okM l
  · have HE : Bx (textM l = ⟨#[]⟩) := Bx.mk (by simp [textM, hok])
    rw [hok] at hq
    clear hok
    go_enter Tryd.func28, Tryd.ntmps28
    go_wp2_with (fail)
    refine (hq _ HI.out).mono ?_
    rintro r w1 ⟨rfl, rfl⟩
    go_wp2_with (fail)
    go_ret
    exact ⟨by rw [HE.out]; rfl, Below.refl _ _⟩
  · have HE : Bx (textM l = if l.length = 0 then ⟨#[45]⟩ else txS l l.length) := Bx.mk (by simp [textM, hok])
    have ht := fun W h => spec_text9 (.slice A l.length c) l W h hok
    rw [hok] at hq
    clear hok
    generalize (if l.length = 0 then (⟨#[45]⟩ : ByteArray) else txS l l.length) = R at *
    go_enter Tryd.func28, Tryd.ntmps28
    go_wp2_with (fail)
    refine (hq _ HI.out).mono ?_
    rintro r w1 ⟨rfl, rfl⟩
    go_wp2_with (fail)
    refine (ht _ HI.out).mono ?_
    rintro r w1 ⟨rfl, hb1⟩
    go_wp2_with (fail)
    go_ret
    exact ⟨by rw [HE.out]; rfl, hb1⟩
end Go.Proofs.YtendfnimhmnioaaDoor
