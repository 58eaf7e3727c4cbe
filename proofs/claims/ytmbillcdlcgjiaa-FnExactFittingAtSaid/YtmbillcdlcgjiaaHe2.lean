/- Valid items: the model. -/
import Derived.Test.YtmbillcdlcgjiaaHe
import Derived.Laws.Cover1
namespace Go.Proofs.Ytmbillcdlcgjiaa
open Go.ChangeShapes Go.WideShapes Go.ChangeAt Go.RowKit
set_option linter.unusedVariables false
set_option linter.unusedSimpArgs false
set_option maxRecDepth 100000

set_option maxHeartbeats 4000000 in
theorem spec_okits (v : Value) (l : List It) (w : World) (h : ItsAt w v l) (hm : SmI l) :
    Calls Try.prog 79 #[v] w fun e w' => e = .returned (.bool (okIts l)) ∧ ∃ n, w' = w.drewN n := by
  obtain ⟨A, c, rfl⟩ := its_len h
  have HI := Bx.mk h
  have hn := hm.n
  have HM := Bx.mk hm.x
  clear h hm
  go_enter Try.func79, Try.ntmps79
  go_wp2_with (fail)
  go_loopw [3] (fun i wr => ∃ k : Nat, k ≤ l.length ∧ i = .int .i64 k ∧ Bx (∀ i, i < k → stepI l i) ∧ ∃ n, wr = w.drewN n) (fun i _ => l.length - (intOf i).toNat)
  case atStart => exact ⟨0, Nat.zero_le _, rfl, Bx.mk (fun i hi => by omega), 0, rfl⟩
  case round =>
    obtain ⟨k, hk, rfl, HK, hw⟩ := hrel
    by_cases hlt : k < l.length
    · have HIw : Bx (ItsAt wr (.slice A l.length c) l) := Bx.mk (by obtain ⟨n, rfl⟩ := hw; exact HI.out.draws n)
      obtain ⟨b, o, c', e, hb, hx⟩ := HIw.out.form (by omega)
      injection e with e1 e2 e3
      subst e1 e3
      have HXS := Bx.mk hx
      have hq := fun m => spec_one b (o + k * 6) (iat l k) (wr.drewN m) ⟨(hx k hlt).c0, (hx k hlt).c1, (hx k hlt).c2, (hx k hlt).c3, (hx k hlt).c4, (hx k hlt).c5⟩ hb (HM.out k hlt).n
      have hc := (hx k hlt).c0
      have x1 : (0 : Int) ≤ (k : Int) := by omega
      have x2 : (k : Int) < (l.length : Int) := by omega
      have dlt : decide ((k : Int) < (l.length : Int)) = true := decide_eq_true x2
      clear hx HI HIw HM
      cases f0 : itB (iat l k)
      · have HE : Bx (okIts l = false) := Bx.mk (okIts_no k hlt (fun hh => by have h1 := hh.1; rw [f0] at h1; cases h1))
        simp only [f0] at hq
        clear HK HXS f0 hc
        go_wp2_with (fail)
        go_quiet ((go_at_call 75; with_reducible exact quiet_dr (hq _)))
        go_wp2_with (fail)
        go_ret
        exact ⟨ret_bool HE.out.symm, drmore hw _⟩
      · simp only [f0] at hq
        cases k with
        | zero =>
          have HS : Bx (∀ i, i < 1 → stepI l i) := Bx.mk (fun i hi => by obtain rfl : i = 0 := (by omega); exact ⟨f0, fun h => by omega⟩)
          have x3 : decide ((0 : Int) > 0) = false := by decide
          clear HK HXS f0 hc
          go_wp2_with (fail)
          go_quiet ((go_at_call 75; with_reducible exact quiet_dr (hq _)))
          go_wp2_with (fail)
          go_roundw
          case rel => exact ⟨1, by omega, by go_num, HS, drmore hw _⟩
          case measure => simp [intOf]; omega
        | succ j =>
          have hp := (HXS.out j (by omega)).c0
          have z1 : (0 : Int) ≤ (j : Int) + 1 := by omega
          have z2 : (j : Int) + 1 < (l.length : Int) := by omega
          have z3 : ((j : Int) + 1).toNat = j + 1 := by omega
          have x3 : decide ((j : Int) + 1 > 0) = true := decide_eq_true (by omega)
          have x4 : IntKind.i64.wrap ((j : Int) + 1 - 1) = (j : Int) := by rw [show (j : Int) + 1 - 1 = j by omega]; exact IntWalk.i64_in _ (by omega)
          have x4' : IntKind.i64.wrap (j : Int) = (j : Int) := IntWalk.i64_in _ (by omega)
          have x5 : (0 : Int) ≤ (j : Int) := by omega
          have x6 : (j : Int) < (l.length : Int) := by omega
          cases f1 : nlt (iat l j).nm (iat l (j + 1)).nm
          · have HE : Bx (okIts l = false) := Bx.mk (okIts_no (j + 1) hlt (fun hh => by have := hh.2 (by omega); rw [Nat.add_sub_cancel, f1] at this; cases this))
            have hb1 : Op.bytesLess (iat l j).nm.toList (iat l (j + 1)).nm.toList = false := f1
            clear HK HXS f0 f1
            generalize (iat l j).nm = s1 at *
            generalize (iat l (j + 1)).nm = s2 at *
            go_wp2_with (fail)
            go_quiet ((go_at_call 75; with_reducible exact quiet_dr (hq _)))
            go_wp2_with (fail)
            go_ret
            exact ⟨ret_bool HE.out.symm, drmore hw _⟩
          · have HS : Bx (∀ i, i < j + 1 + 1 → stepI l i) := Bx.mk (fun i hi => by
              by_cases hij : i < j + 1
              · exact HK.out i hij
              · obtain rfl : i = j + 1 := (by omega)
                exact ⟨f0, fun _ => by rw [Nat.add_sub_cancel]; exact f1⟩)
            have hb1 : Op.bytesLess (iat l j).nm.toList (iat l (j + 1)).nm.toList = true := f1
            clear HK HXS f0 f1
            generalize (iat l j).nm = s1 at *
            generalize (iat l (j + 1)).nm = s2 at *
            go_wp2_with (fail)
            go_quiet ((go_at_call 75; with_reducible exact quiet_dr (hq _)))
            go_wp2_with (fail)
            go_roundw
            case rel => exact ⟨j + 1 + 1, by omega, by go_num, HS, drmore hw _⟩
            case measure => simp [intOf]; omega
    · obtain rfl : k = l.length := by omega
      have dlt : decide ((l.length : Int) < (l.length : Int)) = false := decide_eq_false (by omega)
      by_cases h12 : l.length ≤ 12
      · have HE : Bx (okIts l = true) := Bx.mk (okIts_yes h12 HK.out)
        have d2 : decide ((l.length : Int) ≤ 12) = true := decide_eq_true (by omega)
        clear HK HI HM
        go_wp2_with (fail)
        go_ret
        exact ⟨ret_bool HE.out.symm, hw⟩
      · have HE : Bx (okIts l = false) := Bx.mk (okIts_long (by omega))
        have d2 : decide ((l.length : Int) ≤ 12) = false := decide_eq_false (by omega)
        clear HK HI HM
        go_wp2_with (fail)
        go_ret
        exact ⟨ret_bool HE.out.symm, hw⟩
theorem spec_validitems (v : Value) (l : List It) (w : World) (h : ItsAt w v l) (hm : SmI l) :
    Calls Try.prog 35 #[v] w fun e w' => e = .returned (.bool (okIts l)) ∧ ∃ n, w' = w.drewN n := by
  have hq := fun W h => spec_okits v l W h hm
  have HI := Bx.mk h
  clear h hm
  go_enter Try.func35, Try.ntmps35
  go_wp2_with (fail)
  refine (hq _ HI.out).mono ?_
  rintro r w1 ⟨rfl, n, rfl⟩
  go_wp2_with (fail)
  go_ret
  exact ⟨rfl, n, rfl⟩

end Go.Proofs.Ytmbillcdlcgjiaa
