/- PitchAt: the model. -/
import Derived.Test.YtendfnimhmnioaaNe3
namespace Go.Proofs.Ytendfnimhmnioaa
open Go.ChangeShapes Go.WideShapes Go.ChangeAt Go.RowKit
set_option linter.unusedVariables false
set_option linter.unusedSimpArgs false
set_option maxRecDepth 100000

set_option maxHeartbeats 2000000 in
theorem spec_pitchat (v : Value) (l : List (Int × Int)) (t : Int) (w : World) (h : PrsAt w v l) (hm : l.length ≤ 1048576) :
    Calls Try.prog 40 #[v, .int .i64 t] w fun e w' => e = .returned (.tuple #[.int .i64 (pitAtE l t).1, .int .i64 (pitAtE l t).2]) ∧ Below w.heap.size w w' := by
  have hq := fun W h => spec_okm v l W h hm
  have h' := h
  obtain ⟨A, c, rfl⟩ := prs_len h'
  have HI := Bx.mk h
  clear h hm h'
  cases hok : okM l
  · have HE : Bx (pitAtE l t = (0, 1)) := Bx.mk (by simp [pitAtE, hok])
    rw [hok] at hq
    rw [HE.out]
    clear hok
    go_enter Try.func40, Try.ntmps40
    go_wp2_with (fail)
    refine (hq _ HI.out).mono ?_
    rintro r w1 ⟨rfl, rfl⟩
    go_wp2_with (fail)
    go_ret2
    exact ⟨rfl, Below.refl _ _⟩
  · have hm := (okM_yes hok).1
    have hs := fun W h => spec_sum9 (.slice A l.length c) l W h hok
    have hr := durL_rng hok
    have z0 : IntKind.i64.wrap (durL l - 1) = durL l - 1 := IntWalk.i64_in _ (by omega)
    have hin := fun W => in_any t 0 (durL l - 1) W
    rw [hok] at hq
    by_cases ht : 0 ≤ t ∧ t < durL l
    · have HE : Bx (pitAtE l t = ((pat l (ixM l t)).1, 0)) := Bx.mk (by unfold pitAtE; rw [if_pos hok, if_pos ht])
      rw [HE.out]
      rw [show inB t 0 (durL l - 1) = true by simp only [inB, Bool.and_eq_true, decide_eq_true_eq]; omega] at hin
      have HT := Bx.mk ht
      have HOK := Bx.mk hok
      have HD : Bx (durL l = durN l l.length) := Bx.mk rfl
      clear hok ht
      generalize hdl : durL l = d at *
      go_enter Try.func40, Try.ntmps40
      go_wp2_with (fail)
      refine (hq _ HI.out).mono ?_
      rintro r w1 ⟨rfl, rfl⟩
      go_wp2_with (fail)
      refine (hs _ HI.out).mono ?_
      rintro r w1 ⟨rfl, rfl⟩
      go_wp2_with (fail)
      refine (hin _).mono ?_
      rintro r w1 ⟨rfl, rfl⟩
      go_wp2_with (fail)
      clear hdl hr z0 hin hs hq
      go_loopw [1, 6] (fun u i wr => ∃ k : Nat, k < l.length ∧ i = .int .i64 k ∧ u = .int .i64 (t - durN l k) ∧ Bx (durN l k ≤ t) ∧ wr = w) (fun _ i _ => l.length - (intOf i).toNat)
      case atStart =>
        have h1 := HT.out
        have h2 := HD.out
        have hne : 0 < l.length := by
          rcases Nat.eq_zero_or_pos l.length with h | h
          · rw [h] at h2; simp [durN] at h2; omega
          · exact h
        exact ⟨0, hne, rfl, by simp [durN], Bx.mk (by simpa [durN] using h1.1), rfl⟩
      case round =>
        obtain ⟨k, hk, rfl, rfl, HL, rfl⟩ := hrel
        obtain ⟨b, o, rfl, hb, hc⟩ := prs_form HI.out (by omega)
        obtain ⟨c0, c1⟩ := hc k hk
        have k1 : (0 : Int) ≤ (k : Int) := by omega
        have k2 : (k : Int) < (l.length : Int) := by omega
        have HS : Bx (durN l (k + 1) = durN l k + (pat l k).2) := Bx.mk rfl
        have r0 := durN_rng HOK.out k (by omega)
        have ht := HT.out
        have hl := HL.out
        have r1 := okM_at HOK.out k hk
        have hdr := durL_rng HOK.out
        have hdd : d ≤ 3072 := by have := HD.out; unfold durL at hdr; omega
        by_cases hge : t - durN l k ≥ (pat l k).2
        · have hk2 : k + 1 < l.length := by
            rcases Nat.lt_or_ge (k + 1) l.length with h | h
            · exact h
            · have : k + 1 = l.length := by omega
              have h2 := HD.out
              rw [← this, HS.out] at h2
              omega
          have HL2 : Bx (durN l (k + 1) ≤ t) := Bx.mk (by rw [HS.out]; omega)
          have d1 : decide (t - durN l k ≥ (pat l k).2) = true := decide_eq_true hge
          have d1' : decide ((pat l k).2 ≤ t - durN l k) = true := decide_eq_true hge
          have y0 : IntKind.i64.wrap (t - durN l k - (pat l k).2) = t - durN l k - (pat l k).2 := IntWalk.i64_in _ (by omega)
          have HT2 : Bx (t - durN l k - (pat l k).2 = t - durN l (k + 1)) := Bx.mk (by rw [HS.out]; omega)
          clear hc HI HS HOK HT HD HL hdr ht hl r0 r1
          generalize durN l k = s at *
          generalize pat l k = p at *
          obtain ⟨p1, p2⟩ := p
          dsimp only at c0 c1 d1 d1' y0 hge HT2
          go_wp2_with (fail)
          go_roundw
          case rel => exact ⟨k + 1, hk2, by go_num, by rw [HT2.out], HL2, by first | rfl | trivial⟩
          case measure => simp [intOf]; omega
        · have HX : Bx (ixM l t = k) := Bx.mk (ixM_eq HOK.out hk hl (by rw [HS.out]; omega))
          have HPV : Bx ((pat l (ixM l t)).1 = (pat l k).1) := Bx.mk (by rw [HX.out])
          clear HX
          have d1 : decide (t - durN l k ≥ (pat l k).2) = false := decide_eq_false hge
          have d1' : decide ((pat l k).2 ≤ t - durN l k) = false := decide_eq_false hge
          clear hc HI HS HOK HT HD HL hdr ht hl r0 r1
          generalize durN l k = s at *
          generalize pat l k = p at *
          obtain ⟨p1, p2⟩ := p
          dsimp only at c0 c1 d1 d1' hge
          go_wp2_with (fail)
          go_ret2
          exact ⟨by rw [HPV.out]; rfl, Below.refl _ _⟩
    · have HE : Bx (pitAtE l t = (0, 2)) := Bx.mk (by unfold pitAtE; rw [if_pos hok, if_neg ht])
      rw [HE.out]
      rw [show inB t 0 (durL l - 1) = false by rw [Bool.eq_false_iff]; intro h; have := inB_yes h; omega] at hin
      clear hok ht
      generalize durL l = d at *
      go_enter Try.func40, Try.ntmps40
      go_wp2_with (fail)
      refine (hq _ HI.out).mono ?_
      rintro r w1 ⟨rfl, rfl⟩
      go_wp2_with (fail)
      refine (hs _ HI.out).mono ?_
      rintro r w1 ⟨rfl, rfl⟩
      go_wp2_with (fail)
      refine (hin _).mono ?_
      rintro r w1 ⟨rfl, rfl⟩
      go_wp2_with (fail)
      go_ret2
      exact ⟨rfl, Below.refl _ _⟩
end Go.Proofs.Ytendfnimhmnioaa
