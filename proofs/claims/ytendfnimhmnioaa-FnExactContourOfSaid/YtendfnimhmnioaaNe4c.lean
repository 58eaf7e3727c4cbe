/- ContourOf: the model. -/
import Derived.Test.YtendfnimhmnioaaNe3
namespace Go.Proofs.Ytendfnimhmnioaa
open Go.ChangeShapes Go.WideShapes Go.ChangeAt Go.RowKit
set_option linter.unusedVariables false
set_option linter.unusedSimpArgs false
set_option maxRecDepth 100000

set_option maxHeartbeats 4000000 in
theorem spec_contourof (v : Value) (l : List (Int × Int)) (w : World) (h : PrsAt w v l) (hm : l.length ≤ 1048576) :
    Calls Try.prog 38 #[v] w (RowOut (ctrE l).1 (.int .i64 (ctrE l).2) w) := by
  obtain ⟨i0, hi, hz0, hz1, hz2⟩ := info_parts infoI64
  have hq := fun W h => spec_okm v l W h hm
  have h' := h
  obtain ⟨A, c, rfl⟩ := prs_len h'
  have HI := Bx.mk h
  clear h hm h'
  cases hok : okM l
  · have HE : Bx (ctrE l = ([], 1)) := Bx.mk (by simp [ctrE, hok])
    rw [hok] at hq
    rw [HE.out]
    clear hok
    go_enter Try.func38, Try.ntmps38
    go_wp2_with (fail)
    refine (hq _ HI.out).mono ?_
    rintro r w1 ⟨rfl, rfl⟩
    go_wp2_with (fail)
    go_ret2
    exact ⟨_, rfl, World.ownsRow_nil _ _ _ _, Below.refl _ _⟩
  · have HE : Bx (ctrE l = (ctr l (l.length - 1), 0)) := Bx.mk (by simp [ctrE, hok])
    have hm := (okM_yes hok).1
    have HP := Bx.mk (fun k hk => (okM_at hok k hk).1)
    rw [hok] at hq
    rw [HE.out]
    clear hok
    go_enter Try.func38, Try.ntmps38
    go_wp2_with (fail)
    refine (hq _ HI.out).mono ?_
    rintro r w1 ⟨rfl, rfl⟩
    go_wp2_with (fail)
    go_loopw [4, 5] (fun v i wr => ∃ k : Nat, k ≤ l.length - 1 ∧ i = .int .i64 ((k : Int) + 1) ∧ wr.ownsRow w.heap.size 2 1 v (ctr l k).length (ints (ctr l k)) ∧ Below w.heap.size w wr) (fun _ i _ => l.length - (intOf i).toNat)
    case atStart => exact ⟨0, Nat.zero_le _, rfl, World.ownsRow_lit _ _ _ (Nat.le_refl _) (by decide) (by decide), (Below.refl _ _).alloc (Nat.le_refl _) _⟩
    case round =>
      obtain ⟨k, hk, rfl, hown, hbw⟩ := hrel
      have hll := ctr_len l k
      by_cases hlt : k + 1 < l.length
      · obtain ⟨b, o, rfl, hb, hc⟩ := prs_form (HI.out.below hbw) (by omega)
        have h1 := (hc (k + 1) hlt).1
        have h0 := (hc k (by omega)).1
        have r1 := HP.out (k + 1) hlt
        have r0 := HP.out k (by omega)
        have HS := Bx.mk (ctr_succ l k)
        have k1 : (0 : Int) ≤ (k : Int) + 1 := by omega
        have k2 : (k : Int) + 1 < (l.length : Int) := by omega
        have k3 : ((k : Int) + 1).toNat = k + 1 := by omega
        have k4 : IntKind.i64.wrap ((k : Int) + 1 - 1) = (k : Int) := by rw [show (k : Int) + 1 - 1 = k by omega]; exact IntWalk.i64_in _ (by omega)
        have k4' : IntKind.i64.wrap (k : Int) = (k : Int) := IntWalk.i64_in _ (by omega)
        have k5 : (0 : Int) ≤ (k : Int) := by omega
        have k6 : (k : Int) < (l.length : Int) := by omega
        have y1 : IntKind.i64.wrap ((k : Int) + 1 + 1) = (k : Int) + 1 + 1 := IntWalk.i64_in _ (by omega)
        have hsz := hbw.size
        clear hc HI HP
        generalize (pat l (k + 1)).1 = p at *
        generalize (pat l k).1 = q at *
        have y0 : IntKind.i64.wrap (p - q) = p - q := IntWalk.i64_in _ (by omega)
        have fin : ∀ (z : Int) (W w3 : World) (v' v0 : Value) (o : Obj), cmpI p q = z → Below w.heap.size w W → W.ownsRow w.heap.size 2 1 v0 (ctr l k).length (ints (ctr l k)) → w3.ownsRow w.heap.size 2 1 v' ((ctr l k).length + 1) (ints (ctr l k) ++ [.int .i64 z]) → (W.alloc o).grownBy w3 v0.ownBlock → w3.ownsRow w.heap.size 2 1 v' (ctr l (k + 1)).length (ints (ctr l (k + 1))) ∧ Below w.heap.size w w3 := fun z W w3 v' v0 o e hb ho h hg => by
          refine ⟨?_, below_appN hb ho (Nat.le_refl _) hg⟩
          rw [HS.out, ints_snocN, List.length_append, e]; exact h
        have FIN := Bx.mk fin
        clear fin
        have hownd := hown
        by_cases g1 : q < p
        · have d1 : decide (p - q > 0) = true := decide_eq_true (by omega)
          have d1' : decide (0 < p - q) = true := decide_eq_true (by omega)
          have d1n : 0 < p - q := by omega
          have HZ : Bx (cmpI p q = 1) := Bx.mk (by unfold cmpI; rw [if_neg (by omega), if_pos g1])
          clear g1
          go_wp2_with (fail)
          go_quiet (fail)
          have hbw2 : Bx (Below w.heap.size w (wr.drewN nq)) := Bx.mk (below_draws hbw nq)
          have hown2 : (wr.drewN nq).ownsRow w.heap.size 2 1 _ (ctr l k).length (ints (ctr l k)) := hown
          clear hbw hown hownd h0 h1
          have hsz2 := hbw2.out.size
          generalize wr.drewN nq = W at *
          go_wp2_with ((at_builtin; refine wpList_append_own _ rfl _ _ 24 rfl w.heap.size 2 i0 (.int .i64 0) 1 8 Try.underlying24 hi hz0 hz1 hz2 rfl (by decide) _ _ _ rfl (hown2.alloc _) ⟨W.heap.size, 0, none⟩ 1 1 [.int .i64 1] rfl rfl (cell_one_new _ _ _) (fun x hx => by simp at hx; subst hx; rfl) (by unfold maxLen; omega) (by omega) (by simp; omega) ?_; intro v' w3 hown' hgrow3 hnil3))
          obtain ⟨f1, f2⟩ := FIN.out 1 W w3 v' _ _ HZ.out hbw2.out hown2 hown' hgrow3
          clear hown' hgrow3 hnil3 hown2
          go_roundw
          case rel => exact ⟨k + 1, by omega, by go_num, f1, f2⟩
          case measure => simp [intOf]; omega
        · have d1 : decide (p - q > 0) = false := decide_eq_false (by omega)
          have d1' : decide (0 < p - q) = false := decide_eq_false (by omega)
          have d1n : ¬ (0 < p - q) := by omega
          have d1m : ¬ (p - q > 0) := by omega
          by_cases g2 : p < q
          · have d2 : decide (p - q < 0) = true := decide_eq_true (by omega)
            have d2n : p - q < 0 := by omega
            have HZ : Bx (cmpI p q = -1) := Bx.mk (by unfold cmpI; rw [if_pos g2])
            clear g1 g2
            go_wp2_with (fail)
            go_quiet (fail)
            have hbw2 : Bx (Below w.heap.size w (wr.drewN nq)) := Bx.mk (below_draws hbw nq)
            have hown2 : (wr.drewN nq).ownsRow w.heap.size 2 1 _ (ctr l k).length (ints (ctr l k)) := hown
            clear hbw hown hownd h0 h1
            have hsz2 := hbw2.out.size
            generalize wr.drewN nq = W at *
            go_wp2_with ((at_builtin; refine wpList_append_own _ rfl _ _ 24 rfl w.heap.size 2 i0 (.int .i64 0) 1 8 Try.underlying24 hi hz0 hz1 hz2 rfl (by decide) _ _ _ rfl (hown2.alloc _) ⟨W.heap.size, 0, none⟩ 1 1 [.int .i64 (-1)] rfl rfl (cell_one_new _ _ _) (fun x hx => by simp at hx; subst hx; rfl) (by unfold maxLen; omega) (by omega) (by simp; omega) ?_; intro v' w3 hown' hgrow3 hnil3))
            obtain ⟨f1, f2⟩ := FIN.out (-1) W w3 v' _ _ HZ.out hbw2.out hown2 hown' hgrow3
            clear hown' hgrow3 hnil3 hown2
            go_roundw
            case rel => exact ⟨k + 1, by omega, by go_num, f1, f2⟩
            case measure => simp [intOf]; omega
          · have d2 : decide (p - q < 0) = false := decide_eq_false (by omega)
            have d2n : ¬ (p - q < 0) := by omega
            have HZ : Bx (cmpI p q = 0) := Bx.mk (by unfold cmpI; rw [if_neg g2, if_neg g1])
            clear g1 g2
            go_wp2_with (fail)
            go_quiet (fail)
            have hbw2 : Bx (Below w.heap.size w (wr.drewN nq)) := Bx.mk (below_draws hbw nq)
            have hown2 : (wr.drewN nq).ownsRow w.heap.size 2 1 _ (ctr l k).length (ints (ctr l k)) := hown
            clear hbw hown hownd h0 h1
            have hsz2 := hbw2.out.size
            generalize wr.drewN nq = W at *
            go_wp2_with ((at_builtin; refine wpList_append_own _ rfl _ _ 24 rfl w.heap.size 2 i0 (.int .i64 0) 1 8 Try.underlying24 hi hz0 hz1 hz2 rfl (by decide) _ _ _ rfl (hown2.alloc _) ⟨W.heap.size, 0, none⟩ 1 1 [.int .i64 0] rfl rfl (cell_one_new _ _ _) (fun x hx => by simp at hx; subst hx; rfl) (by unfold maxLen; omega) (by omega) (by simp; omega) ?_; intro v' w3 hown' hgrow3 hnil3))
            obtain ⟨f1, f2⟩ := FIN.out 0 W w3 v' _ _ HZ.out hbw2.out hown2 hown' hgrow3
            clear hown' hgrow3 hnil3 hown2
            go_roundw
            case rel => exact ⟨k + 1, by omega, by go_num, f1, f2⟩
            case measure => simp [intOf]; omega
      · obtain rfl : k = l.length - 1 := by omega
        have k2 : ¬ (((l.length - 1 : Nat) : Int) + 1 < (l.length : Int)) := by omega
        have HO := Bx.mk hown
        clear hown
        go_wp2_with (fail)
        go_ret2
        exact ⟨_, rfl, HO.out, hbw⟩
end Go.Proofs.Ytendfnimhmnioaa
