/- StretchMelody: the model. -/
import Derived.Test.YtendfnimhmnioaaDoorNt
namespace Go.Proofs.YtendfnimhmnioaaDoor
open Go.ChangeShapes Go.WideShapes Go.ChangeAt Go.RowKit
set_option linter.unusedVariables false
set_option linter.unusedSimpArgs false
set_option maxRecDepth 100000

set_option maxHeartbeats 4000000 in
theorem spec_stretch (v : Value) (l : List (Int × Int)) (nu de : Int) (w : World) (h : PrsAt w v l) (hm : l.length ≤ 1048576) :
    Calls Tryd.prog 20 #[v, .int .i64 nu, .int .i64 de] w (NtOut (stE l nu de).1 (.int .i64 (stE l nu de).2) w) := by
  have hq := fun W h => spec_okm v l W h hm
  have h' := h
  obtain ⟨A, c, rfl⟩ := prs_len h'
  have HI := Bx.mk h
  clear h hm h'
  cases hok : okM l
  · have HE : Bx (stE l nu de = ([], 1)) := Bx.mk (by simp [stE, hok])
    rw [hok] at hq
    rw [HE.out]
    clear hok
    go_enter Tryd.func20, Tryd.ntmps20
    go_wp2_with (fail)
    refine (hq _ HI.out).mono ?_
    rintro r w1 ⟨rfl, rfl⟩
    go_wp2_with (fail)
    go_ret2
    exact ⟨_, rfl, World.ownsRow_nil _ _ _ _, Below.refl _ _⟩
  · have hm := (okM_yes hok).1
    rw [hok] at hq
    have HOK := Bx.mk (fun k hk => okM_at hok k hk)
    have hown := fun W h => spec_own9 (.slice A l.length c) l W h hm
    have hc1 := fun W => spec_nlen nu W
    have hc2 := fun W => spec_nlen de W
    cases hin1 : inB nu 1 64
    · have HE : Bx (stE l nu de = ([], 2)) := Bx.mk (by simp [stE, hok, hin1])
      rw [hin1] at hc1
      rw [HE.out]
      clear hok hown
      go_enter Tryd.func20, Tryd.ntmps20
      go_wp2_with (fail)
      refine (hq _ HI.out).mono ?_
      rintro r w1 ⟨rfl, rfl⟩
      go_wp2_with (fail)
      refine (hc1 _).mono ?_
      rintro r w1 ⟨rfl, rfl⟩
      go_wp2_with (fail)
      go_ret2
      exact ⟨_, rfl, World.ownsRow_nil _ _ _ _, Below.refl _ _⟩
    · rw [hin1] at hc1
      cases hin2 : inB de 1 64
      · have HE : Bx (stE l nu de = ([], 2)) := Bx.mk (by simp [stE, hok, hin1, hin2])
        rw [hin2] at hc2
        rw [HE.out]
        clear hok hown
        go_enter Tryd.func20, Tryd.ntmps20
        go_wp2_with (fail)
        refine (hq _ HI.out).mono ?_
        rintro r w1 ⟨rfl, rfl⟩
        go_wp2_with (fail)
        refine (hc1 _).mono ?_
        rintro r w1 ⟨rfl, rfl⟩
        go_wp2_with (fail)
        refine (hc2 _).mono ?_
        rintro r w1 ⟨rfl, rfl⟩
        go_wp2_with (fail)
        go_ret2
        exact ⟨_, rfl, World.ownsRow_nil _ _ _ _, Below.refl _ _⟩
      · rw [hin2] at hc2
        obtain ⟨n1, n2⟩ := inB_yes hin1
        obtain ⟨m1, m2⟩ := inB_yes hin2
        have HY : Bx (stOk l nu de = true → stE l nu de = donE (l.map (stF nu de))) := Bx.mk (fun h => by simp [stE, hok, hin1, hin2, h])
        have HN : Bx (stOk l nu de = false → stE l nu de = ([], 6)) := Bx.mk (fun h => by simp [stE, hok, hin1, hin2, h])
        have HD := Bx.mk (fun (A' : Option Addr) c' W (hh : PrsAt W (.slice A' l.length c') (l.map (stF nu de))) => (by have := spec_done9 A' c' (l.map (stF nu de)) W (by rw [List.length_map]; exact hh) (by rw [List.length_map]; omega); rw [List.length_map] at this; exact this : Calls Tryd.prog 35 #[.slice A' l.length c'] W fun e w' => e = .returned (.tuple #[dnV (l.map (stF nu de)) (.slice A' l.length c'), .int .i64 (donE (l.map (stF nu de))).2]) ∧ W = w'))
        have hne : (de == 0) = false := beq_false_of_ne (by omega)
        have hne2 : ¬ de = 0 := by omega
        clear hok hin1 hin2
        go_enter Tryd.func20, Tryd.ntmps20
        go_wp2_with (fail)
        refine (hq _ HI.out).mono ?_
        rintro r w1 ⟨rfl, rfl⟩
        go_wp2_with (fail)
        refine (hc1 _).mono ?_
        rintro r w1 ⟨rfl, rfl⟩
        go_wp2_with (fail)
        refine (hc2 _).mono ?_
        rintro r w1 ⟨rfl, rfl⟩
        go_wp2_with (fail)
        refine (hown _ HI.out).mono ?_
        rintro r w1 ⟨v1, rfl, ho, hb⟩
        obtain ⟨A1, c1, rfl⟩ := own_len ho
        have HO := Bx.mk ho
        have HB := Bx.mk hb
        clear ho hb hq hc1 hc2 hown
        go_wp2_with (fail)
        go_loopw [9] (fun i wr => ∃ k : Nat, k ≤ l.length ∧ i = .int .i64 (k : Int) ∧ Bx ((∀ i, i < k → ((pat l i).2 * nu).tmod de = 0) ∧ wr.ownsRow w.heap.size 45 2 (.slice A1 l.length c1) l.length (pcl (mixM (stF nu de) l k)) ∧ Below w.heap.size w wr)) (fun i _ => l.length - (intOf i).toNat)
        case atStart => exact ⟨0, Nat.zero_le _, rfl, Bx.mk ⟨fun i hi => absurd hi (Nat.not_lt_zero _), by rw [mixM_zero]; exact HO.out, HB.out⟩⟩
        case round =>
          obtain ⟨k, hk, rfl, HR⟩ := hrel
          by_cases hlt : k < l.length
          · have k1 : (0 : Int) ≤ (k : Int) := by omega
            have k2 : (k : Int) < (l.length : Int) := by omega
            obtain ⟨g, cap, ee, hbg, hgl⟩ := HR.out.2.1.form (by omega)
            injection ee with e1 _ e3
            subst e1 e3
            have hml := mixM_len (stF nu de) l k hk
            have p1 := (HR.out.2.1.cellAt (k * 2 + 1) (by omega)).trans (pcl_at1 (mixM (stF nu de) l k) k (by omega))
            rw [mixM_at _ l k hlt] at p1
            have f0 := HR.out.2.1.frozenAt (k * 2 + 1)
            have s0 := HR.out.2.1.stored (k * 2 + 1) (.int .i64 (stF nu de (pat l k)).2)
            rw [pcl_set2 _ _ _ (by omega), mixM_at _ l k hlt, show ((pat l k).1, (stF nu de (pat l k)).2) = stF nu de (pat l k) from rfl, mixM_step _ l k hlt] at s0
            have HS := Bx.mk (And.intro s0.1 (HR.out.2.2.setCell (p := ⟨g, k * 2 + 1, none⟩) hbg (.int .i64 (stF nu de (pat l k)).2)))
            obtain ⟨_, b1, b2⟩ := HOK.out k hlt
            have HNo := Bx.mk (fun h => HN.out (stOk_no (nu := nu) (de := de) k hlt h))
            have HBB := Bx.mk HR.out.2.2
            have HYs := Bx.mk (fun h : ((pat l k).2 * nu).tmod de = 0 => (fun i (hi : i < k + 1) => by
              by_cases e : i = k
              · subst e; exact h
              · exact HR.out.1 i (by omega) : ∀ i, i < k + 1 → ((pat l i).2 * nu).tmod de = 0))
            clear HR HO HB s0 hml HD HI HY HN
            generalize pat l k = p at *
            obtain ⟨pa, pb⟩ := p
            dsimp only at p1 b1 b2
            have q1 : 1 ≤ pb * nu := by have := Int.mul_le_mul b1 n1 (by omega) (by omega); omega
            have q2 : pb * nu ≤ 4096 := by have := Int.mul_le_mul b2 n2 (by omega) (by omega); omega
            have y0 : IntKind.i64.wrap (pb * nu) = pb * nu := IntWalk.i64_in _ (by omega)
            have HS : Bx ((wr.setCell ⟨g, k * 2 + 1, none⟩ (.int .i64 ((pb * nu).tdiv de))).ownsRow w.heap.size 45 2 (.slice (some ⟨g, 0, none⟩) l.length c1) l.length (pcl (mixM (stF nu de) l (k + 1))) ∧ Below w.heap.size w (wr.setCell ⟨g, k * 2 + 1, none⟩ (.int .i64 ((pb * nu).tdiv de)))) := Bx.mk HS.out
            have t0 : 0 ≤ (pb * nu).tdiv de := Int.tdiv_nonneg (by omega) (by omega)
            have t1 : (pb * nu).tdiv de ≤ pb * nu := Int.tdiv_le_self _ (by omega)
            have t2 : 0 ≤ (pb * nu).tmod de := Int.tmod_nonneg _ (by omega)
            have t3 : (pb * nu).tmod de < de := Int.tmod_lt_of_pos _ (by omega)
            have w0 : wrap64 (pb * nu) = pb * nu := IntWalk.wrap64_in _ (by omega)
            have w1 : wrap64 ((pb * nu).tdiv de) = (pb * nu).tdiv de := IntWalk.wrap64_in _ (by omega)
            have w2 : wrap64 ((pb * nu).tmod de) = (pb * nu).tmod de := IntWalk.wrap64_in _ (by omega)
            by_cases hz : (pb * nu).tmod de = 0
            · have d1 : (pb * nu % de != 0) = false := by rw [← Int.tmod_eq_emod_of_nonneg (by omega)]; simpa using hz
              have d3 : pb * nu % de = 0 := by rw [← Int.tmod_eq_emod_of_nonneg (by omega)]; exact hz
              have HY2 := Bx.mk (HYs.out hz)
              clear HNo HYs
              go_wp2_with (fail)
              all_goals
                go_roundw
                case rel => exact ⟨k + 1, by omega, by go_num, Bx.mk ⟨HY2.out, HS.out⟩⟩
                case measure => simp [intOf]; omega
            · have d1 : (pb * nu % de != 0) = true := by rw [← Int.tmod_eq_emod_of_nonneg (by omega)]; simpa using hz
              have d3 : ¬ pb * nu % de = 0 := by rw [← Int.tmod_eq_emod_of_nonneg (by omega)]; exact hz
              have HE := Bx.mk (HNo.out hz)
              clear HNo HYs HS
              go_wp2_with (fail)
              all_goals
                go_ret2
                rw [HE.out]
                exact ⟨_, rfl, World.ownsRow_nil _ _ _ _, HBB.out⟩
          · obtain rfl : k = l.length := by omega
            have HR2 := HR.out
            rw [mixM_all] at HR2
            have HE := Bx.mk (HY.out (stOk_yes HR2.1))
            have HR2 := Bx.mk HR2.2
            have hd := HD.out A1 c1 wr (prs_own (by rw [List.length_map]; exact HR2.out.1))
            have ho := dn_own (T := l.map (stF nu de)) (by rw [List.length_map]; exact HR2.out.1)
            have HO2 := Bx.mk ho
            clear HR HO HB HD HOK ho HY HN
            go_wp2_with (fail)
            refine hd.mono ?_
            rintro r w2 ⟨rfl, rfl⟩
            obtain ⟨A2, c2, ed⟩ := own_len HO2.out
            rw [ed]
            rw [ed] at HO2
            go_wp2_with (fail)
            go_ret2
            rw [HE.out]
            exact ⟨_, rfl, HO2.out, HR2.out.2⟩
end Go.Proofs.YtendfnimhmnioaaDoor
