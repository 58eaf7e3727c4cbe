/- ReverseMelody: the program's own. -/
import Derived.Test.YtendfnimhmnioaaNi6
import Derived.Test.YtendfnimhmnioaaRm
namespace Go.Proofs.Ytendfnimhmnioaa
open Go.ChangeShapes Go.WideShapes Go.ChangeAt Go.RowKit
set_option linter.unusedVariables false
set_option linter.unusedSimpArgs false
set_option maxRecDepth 100000

set_option maxHeartbeats 4000000 in
theorem std_reverse9 (A : Option Addr) (c : Nat) (l : List (Int × Int)) (base : Nat) (w : World) (h : w.ownsRow base 76 2 (.slice A l.length c) l.length (pcl l)) (hm : l.length ≤ 48) :
    Calls Try.prog 69 #[.slice A l.length c] w fun e w' => (∃ v, e = .returned v) ∧ w'.ownsRow base 76 2 (.slice A l.length c) l.length (pcl l.reverse) ∧ w.grownBy w' (Value.slice A l.length c).ownBlock := by
  rcases Nat.eq_zero_or_pos l.length with h0 | h0
  · obtain rfl := List.eq_nil_of_length_eq_zero h0
    have HO := Bx.mk h
    clear h hm h0
    go_enter Try.func69, Try.ntmps69
    go_wp2
    refine wp_loop_rounds 1 ?_
    rw [rounds_succ]
    go_wp2
    go_end0
    exact ⟨⟨_, rfl⟩, HO.out, World.grownBy.refl w _⟩
  · obtain ⟨g, cap, e, hbg, hlt⟩ := h.form h0
    injection e with e1 _ e3
    subst e1 e3
    have HO := Bx.mk h
    have z0 : IntKind.i64.wrap ((l.length : Int) - 1) = (l.length : Int) - 1 := IntWalk.i64_in _ (by omega)
    clear h
    go_enter Try.func69, Try.ntmps69
    go_wp2_with (fail)
    clear z0
    go_loopw [2, 3] (fun i j wr => ∃ k : Nat, 2 * k ≤ l.length + 1 ∧ i = .int .i64 (k : Int) ∧ j = .int .i64 ((l.length : Int) - 1 - k) ∧ Bx (wr.ownsRow base 76 2 (.slice (some ⟨g, 0, none⟩) l.length c) l.length (pcl (revK l k)) ∧ w.grownBy wr (some g))) (fun i _ _ => l.length - (intOf i).toNat)
    case atStart => exact ⟨0, by omega, rfl, by go_num, Bx.mk ⟨by rw [revK_zero]; exact HO.out, World.grownBy.refl w _⟩⟩
    case round =>
      obtain ⟨k, hk, rfl, rfl, HB⟩ := hrel
      by_cases hlk : 2 * k + 1 < l.length
      · have d1 : decide ((k : Int) < (l.length : Int) - 1 - k) = true := decide_eq_true (by omega)
        have k1 : (0 : Int) ≤ (k : Int) := by omega
        have k2 : (k : Int) < (l.length : Int) := by omega
        have k3 : (0 : Int) ≤ (l.length : Int) - 1 - k := by omega
        have k4 : (l.length : Int) - 1 - k < (l.length : Int) := by omega
        have k5 : ((l.length : Int) - 1 - k).toNat = l.length - 1 - k := by omega
        have y1 : IntKind.i64.wrap ((l.length : Int) - 1 - k - 1) = (l.length : Int) - 1 - k - 1 := IntWalk.i64_in _ (by omega)
        have hml := revK_len l k
        have p0 := (HB.out.1.cellAt (k * 2) (by omega)).trans (pcl_at0 (revK l k) k (by omega))
        have p1 := (HB.out.1.cellAt (k * 2 + 1) (by omega)).trans (pcl_at1 (revK l k) k (by omega))
        have q0 := (HB.out.1.cellAt ((l.length - 1 - k) * 2) (by omega)).trans (pcl_at0 (revK l k) (l.length - 1 - k) (by omega))
        have q1 := (HB.out.1.cellAt ((l.length - 1 - k) * 2 + 1) (by omega)).trans (pcl_at1 (revK l k) (l.length - 1 - k) (by omega))
        have f0 := HB.out.1.frozenAt (k * 2)
        have f1 := HB.out.1.frozenAt (k * 2 + 1)
        have g0 := HB.out.1.frozenAt ((l.length - 1 - k) * 2)
        have g1 := HB.out.1.frozenAt ((l.length - 1 - k) * 2 + 1)
        have hsw := own_swap hml.symm HB.out.1 k (l.length - 1 - k) (by omega) (by omega) (pat (revK l k) (l.length - 1 - k)) (pat (revK l k) k)
        rw [revK_step l k hlk] at hsw
        have HSW := Bx.mk hsw
        have HG := Bx.mk HB.out.2
        clear hsw HB hml HO
        generalize pat (revK l k) k = p at *
        generalize pat (revK l k) (l.length - 1 - k) = q at *
        obtain ⟨pa, pb⟩ := p
        obtain ⟨qa, qb⟩ := q
        dsimp only at p0 p1 q0 q1 HSW
        have hne : l.length - 1 - k ≠ k := by omega
        go_wp2_with (fail)
        go_region
        go_wp2_with (fail)
        go_roundw
        case rel => exact ⟨k + 1, by omega, by go_num, by go_num, Bx.mk ⟨HSW.out.1, HG.out.trans ⟨HSW.out.2.os, HSW.out.2.tape, HSW.out.2.output, HSW.out.2.size, HSW.out.2.block⟩⟩⟩
        case measure => simp [intOf]; omega
      · have d1 : decide ((k : Int) < (l.length : Int) - 1 - k) = false := decide_eq_false (by omega)
        have d1n : ¬ ((k : Int) < (l.length : Int) - 1 - k) := by omega
        have HE := HB.out
        rw [revK_all l k (by omega)] at HE
        have HE := Bx.mk HE
        clear HB
        go_wp2_with (fail)
        go_end0
        exact ⟨⟨_, rfl⟩, HE.out.1, HE.out.2⟩
theorem impl_reverse (v : Value) (l : List (Int × Int)) (w : World) (h : PrsAt w v l) (hm : l.length ≤ 1048576) :
    Calls Try.prog 43 #[v] w (NtOut (revE l).1 (.int .i64 (revE l).2) w) := by
  have hq := fun W h => impl_validmelody v l W h hm
  have h' := h
  obtain ⟨A, c, rfl⟩ := prs_len h'
  have HI := Bx.mk h
  clear h hm h'
  cases hok : okM l
  · have HE : Bx (revE l = ([], 1)) := Bx.mk (by simp [revE, hok])
    rw [hok] at hq
    rw [HE.out]
    clear hok
    go_enter Try.func43, Try.ntmps43
    go_wp2_with (fail)
    refine (hq _ HI.out).mono ?_
    rintro r w1 ⟨rfl, hb1⟩
    have B1 := Bx.mk hb1
    clear hb1
    go_wp2_with (fail)
    go_ret2
    exact ⟨_, rfl, World.ownsRow_nil _ _ _ _, B1.out⟩
  · have HE : Bx (revE l = (l.reverse, 0)) := Bx.mk (by simp [revE, hok])
    have hm := (okM_yes hok).1
    rw [hok] at hq
    rw [HE.out]
    have hc9 := fun W h => std_clone9 (.slice A l.length c) l W h hm
    have hr9 := fun A2 c2 b W h => std_reverse9 A2 c2 l b W h hm
    have HL : Bx (l.reverse.length = l.length) := Bx.mk (by simp)
    clear hok
    go_enter Try.func43, Try.ntmps43
    go_wp2_with (fail)
    refine (hq _ HI.out).mono ?_
    rintro r w1 ⟨rfl, hb1⟩
    have B1 := Bx.mk hb1
    clear hb1
    go_wp2_with (fail)
    refine (hc9 _ (HI.out.below B1.out)).mono ?_
    rintro r w2 ⟨v2, rfl, ho, hb2⟩
    have B2 := Bx.mk (B1.out.trans (hb2.mono B1.out.size))
    have HO := Bx.mk (own_downP B1.out.size ho)
    obtain ⟨A2, c2, rfl⟩ := own_len ho
    clear ho hb2
    go_wp2_with (fail)
    refine (hr9 A2 c2 _ _ HO.out).mono ?_
    rintro r w3 ⟨⟨v3, rfl⟩, ho3, hg3⟩
    have HO3 := Bx.mk ho3
    have B3 := Bx.mk (below_mark B2.out HO.out (Nat.le_refl _) hg3)
    clear ho3 hg3
    go_wp2_with (fail)
    go_ret2
    exact ⟨_, rfl, by rw [HL.out]; exact HO3.out, B3.out⟩
end Go.Proofs.Ytendfnimhmnioaa
