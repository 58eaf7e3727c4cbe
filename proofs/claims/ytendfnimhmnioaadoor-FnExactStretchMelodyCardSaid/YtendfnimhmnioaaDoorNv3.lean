/- StretchMelody: the program. -/
import Derived.Test.YtendfnimhmnioaaDoorNv
namespace Go.Proofs.YtendfnimhmnioaaDoor
open Go.ChangeShapes Go.WideShapes Go.ChangeAt Go.RowKit
set_option linter.unusedVariables false
set_option linter.unusedSimpArgs false
set_option maxRecDepth 100000

set_option maxHeartbeats 8000000 in
theorem impl_stretch (v : Value) (l : List (Int × Int)) (nu de : Int) (ea eb : Addr) (w : World) (h : PrsAt w v l) (he : Er w ea eb) (hm : l.length ≤ 1048576) :
    Calls Tryd.prog 21 #[v, .int .i64 nu, .int .i64 de] w (NtOut (stE l nu de).1 (.int .i64 (stE l nu de).2) w) := by
  have hq := fun W h => impl_validmelody v l W h hm
  have h' := h
  obtain ⟨A, c, rfl⟩ := prs_len h'
  have HI := Bx.mk h
  have HE := Bx.mk he
  clear h h' he hm
  cases hok : okM l
  · have HR : Bx (stE l nu de = ([], 1)) := Bx.mk (by simp [stE, hok])
    rw [hok] at hq
    rw [HR.out]
    clear hok
    go_enter Tryd.func21, Tryd.ntmps21
    go_wp2_with (fail)
    refine (hq _ HI.out).mono ?_
    rintro r w1 ⟨rfl, hb1⟩
    have B1 := Bx.mk hb1
    clear hb1
    go_wp2_with (fail)
    go_ret2
    exact ⟨_, rfl, World.ownsRow_nil _ _ _ _, B1.out⟩
  · rw [hok] at hq
    have hm := (okM_yes hok).1
    have hc1 := fun W => impl_islen nu W
    have hc2 := fun W => impl_islen de W
    cases hin1 : inB nu 1 64
    · have HR : Bx (stE l nu de = ([], 2)) := Bx.mk (by simp [stE, hok, hin1])
      rw [hin1] at hc1
      rw [HR.out]
      clear hok
      go_enter Tryd.func21, Tryd.ntmps21
      go_wp2_with (fail)
      refine (hq _ HI.out).mono ?_
      rintro r w1 ⟨rfl, hb1⟩
      have B1 := Bx.mk hb1
      clear hb1
      go_wp2_with (fail)
      refine (hc1 _).mono ?_
      rintro r w2 ⟨rfl, rfl⟩
      go_wp2_with (fail)
      go_ret2
      exact ⟨_, rfl, World.ownsRow_nil _ _ _ _, B1.out⟩
    · rw [hin1] at hc1
      cases hin2 : inB de 1 64
      · have HR : Bx (stE l nu de = ([], 2)) := Bx.mk (by simp [stE, hok, hin1, hin2])
        rw [hin2] at hc2
        rw [HR.out]
        clear hok
        go_enter Tryd.func21, Tryd.ntmps21
        go_wp2_with (fail)
        refine (hq _ HI.out).mono ?_
        rintro r w1 ⟨rfl, hb1⟩
        have B1 := Bx.mk hb1
        clear hb1
        go_wp2_with (fail)
        refine (hc1 _).mono ?_
        rintro r w2 ⟨rfl, rfl⟩
        go_wp2_with (fail)
        refine (hc2 _).mono ?_
        rintro r w2 ⟨rfl, rfl⟩
        go_wp2_with (fail)
        go_ret2
        exact ⟨_, rfl, World.ownsRow_nil _ _ _ _, B1.out⟩
      · rw [hin2] at hc2
        obtain ⟨n1, n2⟩ := inB_yes hin1
        obtain ⟨m1, m2⟩ := inB_yes hin2
        have hTl : (l.map (stF nu de)).length = l.length := by simp
        have HTl := Bx.mk hTl
        have HOK := Bx.mk (fun k hk => okM_at hok k hk)
        have HFY : Bx ((∀ i, i < (l.map (stF nu de)).length → (okN (pat (l.map (stF nu de)) i) && decide (((pat l i).2 * nu).tmod de = 0)) = true) → stE l nu de = (l.map (stF nu de), 0)) := Bx.mk (fun h => by
          have h1 : stOk l nu de = true := stOk_yes (fun i hi => by have := h i (by rw [hTl]; exact hi); rw [Bool.and_eq_true, decide_eq_true_eq] at this; exact this.2)
          have h2 := donE_good (T := l.map (stF nu de)) (by rw [hTl]; exact hm) (fun i hi => by have := h i hi; rw [Bool.and_eq_true] at this; exact this.1)
          simp [stE, hok, hin1, hin2, h1, h2])
        have HFN : Bx ((∃ i, i < (l.map (stF nu de)).length ∧ (okN (pat (l.map (stF nu de)) i) && decide (((pat l i).2 * nu).tmod de = 0)) = false) → stE l nu de = ([], 6)) := Bx.mk (fun h => by
          obtain ⟨i, hi, h⟩ := h
          by_cases hs : stOk l nu de = true
          · have hr : ((pat l i).2 * nu).tmod de = 0 := by
              unfold stOk at hs
              rw [List.all_eq_true] at hs
              simpa using hs i (by rw [hTl] at hi; simpa using hi)
            have h2 := donE_bad (T := l.map (stF nu de)) ⟨i, hi, by rw [hr] at h; simpa using h⟩
            simp [stE, hok, hin1, hin2, hs, h2]
          · have h1 : stOk l nu de = false := by simpa using hs
            simp [stE, hok, hin1, hin2, h1])
        clear hok hin1 hin2 hTl
        go_enter Tryd.func21, Tryd.ntmps21
        go_wp2_with (fail)
        refine (hq _ HI.out).mono ?_
        rintro r w1 ⟨rfl, hb1⟩
        have B1 := Bx.mk hb1
        have I1 := Bx.mk (HI.out.below hb1)
        have E1 := Bx.mk (HE.out.below hb1)
        clear hb1
        go_wp2_with (fail)
        refine (hc1 _).mono ?_
        rintro r w2 ⟨rfl, rfl⟩
        go_wp2_with (fail)
        refine (hc2 _).mono ?_
        rintro r w2 ⟨rfl, rfl⟩
        have HW0 := Bx.mk (WrAt.start w1)
        have HB0 : Bx (Below w.heap.size w (w1.alloc (.cells #[.slice none 0 0, .nilIface] 55))) := Bx.mk (B1.out.alloc B1.out.size _)
        obtain ⟨g, hg0⟩ : ∃ x, x = w1.heap.size := ⟨_, rfl⟩
        have hwg : w.heap.size ≤ g := by rw [hg0]; exact B1.out.size
        rw [← hg0] at HW0
        go_wp2_with (fail)
        rw [← hg0]
        clear hq hc1 hc2 I1 E1 B1
        go_loopw [26] (fun i wr => ∃ (k : Nat) (l' : List (Int × Int)) (q : Option Addr), k ≤ l.length ∧ i = .int .i64 (k : Int) ∧ Bx (WSt (fun i => okN (pat (l.map (stF nu de)) i) && decide (((pat l i).2 * nu).tmod de = 0)) (l.map (stF nu de)) ea k l' q) ∧ Bx (WrAt wr g (g + 1) l' q ∧ Below w.heap.size w wr)) (fun i _ => l.length - (intOf i).toNat)
        case atStart => exact ⟨0, [], none, Nat.zero_le _, rfl, Bx.mk (WSt.start _ _ _), Bx.mk ⟨HW0.out, HB0.out⟩⟩
        case round =>
          obtain ⟨k, l', q, hk, rfl, HS, HR⟩ := hrel
          clear HW0 HB0 hg0
          by_cases hlt : k < l.length
          · have d1 : decide ((k : Int) < (l.length : Int)) = true := decide_eq_true (by omega)
            obtain ⟨bb, o, rfl, hb, hc⟩ := prs_form (HI.out.below HR.out.2) (by omega)
            obtain ⟨c0, c1⟩ := hc k hlt
            have k1 : (0 : Int) ≤ (k : Int) := by omega
            have k2 : (k : Int) < (l.length : Int) := by omega
            have HP := Bx.mk (pat_map (stF nu de) l k hlt)
            obtain ⟨_, b3, b4⟩ := HOK.out k hlt
            have HGO := Bx.mk (HS.out.good (by rw [HTl.out]; exact hlt))
            have HBA := Bx.mk HS.out.bad
            have HLA := Bx.mk HS.out.late
            have HQ := Bx.mk HS.out.qa
            have HLN := Bx.mk HS.out.len
            rw [HP.out] at HGO HBA HLA
            clear hc HS HOK HP HFY HFN
            generalize pat l k = p at *
            obtain ⟨p1, p2⟩ := p
            dsimp only at c0 c1 b3 b4
            have hAl : Below wr.heap.size wr (wr.alloc (.cells #[.int .i64 p1, .int .i64 p2] 45)) := (Below.refl _ _).alloc (Nat.le_refl _) _
            have W1 := Bx.mk (HR.out.1.below hAl)
            have B1 := Bx.mk (HR.out.2.trans (hAl.mono HR.out.2.size))
            have hN1 := BoxN.at wr wr.heap.size #[.int .i64 p1, .int .i64 p2] 45 rfl
            have E1 := Bx.mk (HE.out.below B1.out)
            have N1 := Bx.mk hN1
            have hgw := HR.out.1.lt
            obtain ⟨gn, hgn⟩ : ∃ x, x = wr.heap.size := ⟨_, rfl⟩
            have HNX := Bx.mk (HR.out.1.new (.cells #[.int .i64 p1, .int .i64 p2] 45))
            rw [← hgn] at N1 HNX
            have q1 : 1 ≤ p2 * nu := by have := Int.mul_le_mul b3 n1 (by omega) (by omega); omega
            have q2 : p2 * nu ≤ 4096 := by have := Int.mul_le_mul b4 n2 (by omega) (by omega); omega
            have t0 : 0 ≤ (p2 * nu).tdiv de := Int.tdiv_nonneg (by omega) (by omega)
            have t1 : (p2 * nu).tdiv de ≤ p2 * nu := Int.tdiv_le_self _ (by omega)
            have t2 : 0 ≤ (p2 * nu).tmod de := Int.tmod_nonneg _ (by omega)
            have t3 : (p2 * nu).tmod de < de := Int.tmod_lt_of_pos _ (by omega)
            have w0 : wrap64 (p2 * nu) = p2 * nu := IntWalk.wrap64_in _ (by omega)
            have w1 : wrap64 ((p2 * nu).tdiv de) = (p2 * nu).tdiv de := IntWalk.wrap64_in _ (by omega)
            have w2 : wrap64 ((p2 * nu).tmod de) = (p2 * nu).tmod de := IntWalk.wrap64_in _ (by omega)
            have hne : (de == 0) = false := beq_false_of_ne (by omega)
            have hne2 : ¬ de = 0 := by omega
            have hem : (p2 * nu).tmod de = p2 * nu % de := Int.tmod_eq_emod_of_nonneg (by omega)
            clear hAl hN1
            by_cases hz : (p2 * nu).tmod de = 0
            · have d2 : (p2 * nu % de != 0) = false := by rw [← hem]; simpa using hz
              have d3 : p2 * nu % de = 0 := by rw [← hem]; exact hz
              have HGO2 := Bx.mk (fun h : okN (stF nu de (p1, p2)) = true => HGO.out (by rw [h]; simpa using hz))
              have HBA2 := Bx.mk (fun h : okN (stF nu de (p1, p2)) = false => HBA.out (by rw [h]; rfl))
              clear hem hz HGO HBA HLA
              go_wp2_with (fail)
              rw [← hgn]
              clear c0 c1 hgn HR
              generalize wr.alloc (.cells #[.int .i64 p1, .int .i64 p2] 45) = W at *
              have n0 : W.cell? ⟨gn, 0, none⟩ = some (.int .i64 p1) := N1.out.c (k := 0) rfl
              have n1' : W.cell? ⟨gn, 1, none⟩ = some (.int .i64 p2) := N1.out.c (k := 1) rfl
              have nl : gn < W.heap.size := N1.out.lt
              go_wp2_with (fail)
              clear d2 d3
              cases hg : okN (stF nu de (p1, p2))
              · have hS := Bx.mk (HBA2.out hg)
                clear HGO2 HBA2 n1'
                clear n0 nl
                have n0 : W.drew.cell? ⟨gn, 0, none⟩ = some (.int .i64 p1) := N1.out.c (k := 0) rfl
                have n1 : W.drew.cell? ⟨gn, 1, none⟩ = some (.int .i64 p2) := N1.out.c (k := 1) rfl
                have nl : gn < W.drew.heap.size := N1.out.lt
                have W2 := Bx.mk (W1.out.below (Below.refl _ _).drew)
                have B2 := Bx.mk B1.out.drew
                have E2 := Bx.mk (E1.out.below (Below.refl _ _).drew)
                clear N1 W1 B1 E1
                go_still_tail 9, (by kernel_rfl)
                change wpList _ _ _ _ _ W.drew
                generalize W.drew = V at *
                have hw := write_bad g (g + 1) l' q ea eb p1 ((p2 * nu).tdiv de) V W2.out E2.out HQ.out hg
                unfold nt at hw
                go_wp2_with (fail)
                refine hw.mono ?_
                rintro e V2 ⟨⟨v2, rfl⟩, hw2, hs2⟩
                have HR2 := Bx.mk (And.intro hw2 (B2.out.trans (hs2.kp w.heap.size hwg (by omega)).below))
                clear hw2 hs2 hw n0 n1 nl
                go_wp2_with (fail)
                go_roundw
                case rel => exact ⟨k + 1, _, _, by omega, by go_num, hS, HR2⟩
                case measure => simp [intOf]; omega
              · have hS := Bx.mk (HGO2.out hg)
                clear HGO2 HBA2 n1'
                clear n0 nl
                have n0 : W.drew.cell? ⟨gn, 0, none⟩ = some (.int .i64 p1) := N1.out.c (k := 0) rfl
                have n1 : W.drew.cell? ⟨gn, 1, none⟩ = some (.int .i64 p2) := N1.out.c (k := 1) rfl
                have nl : gn < W.drew.heap.size := N1.out.lt
                have W2 := Bx.mk (W1.out.below (Below.refl _ _).drew)
                have B2 := Bx.mk B1.out.drew
                have E2 := Bx.mk (E1.out.below (Below.refl _ _).drew)
                clear N1 W1 B1 E1
                go_still_tail 9, (by kernel_rfl)
                change wpList _ _ _ _ _ W.drew
                generalize W.drew = V at *
                have hw := write_ok g (g + 1) l' q (p1) ((p2 * nu).tdiv de) V W2.out (by have := W2.out.lt; omega) hg (by have := HLN.out; omega)
                unfold nt at hw
                go_wp2_with (fail)
                refine hw.mono ?_
                rintro e V2 ⟨⟨v2, rfl⟩, hw2, hs2⟩
                have HR2 := Bx.mk (And.intro hw2 (B2.out.trans (hs2.kp w.heap.size hwg (by omega)).below))
                clear hw2 hs2 hw n0 n1 nl
                go_wp2_with (fail)
                go_roundw
                case rel => exact ⟨k + 1, _, _, by omega, by go_num, hS, HR2⟩
                case measure => simp [intOf]; omega
            · have d2 : (p2 * nu % de != 0) = true := by rw [← hem]; simpa using hz
              have d3 : ¬ p2 * nu % de = 0 := by rw [← hem]; exact hz
              have hgf : (okN (stF nu de (p1, p2)) && decide ((p2 * nu).tmod de = 0)) = false := by rw [decide_eq_false hz]; simp
              have HS1 := Bx.mk (HBA.out hgf)
              have HS2 := Bx.mk (HLA.out hgf (stF nu de (p1, p2)))
              clear hem hz HGO HBA HLA hgf
              have g0 := E1.out.g0
              unfold erV at g0
              go_wp2_with (fail)
              rw [← hgn]
              clear c0 c1 hgn HR
              generalize wr.alloc (.cells #[.int .i64 p1, .int .i64 p2] 45) = W at *
              have n0 : W.cell? ⟨gn, 0, none⟩ = some (.int .i64 p1) := N1.out.c (k := 0) rfl
              have n1' : W.cell? ⟨gn, 1, none⟩ = some (.int .i64 p2) := N1.out.c (k := 1) rfl
              have nl : gn < W.heap.size := N1.out.lt
              have hf := impl_fail g (g + 1) l' q ea W W1.out HQ.out
              unfold erV at hf
              refine hf.mono ?_
              rintro e W' ⟨⟨v', rfl⟩, hw', hs'⟩
              have hkp := (hs'.kp w.heap.size hwg (by omega))
              have hN' : BoxN W' gn #[.int .i64 p1, .int .i64 p2] 45 := hs'.box N1.out HNX.out
              have W1 := Bx.mk hw'
              have B1 := Bx.mk (B1.out.trans hkp.below)
              have E1 := Bx.mk (HE.out.below B1.out)
              have N1 := Bx.mk hN'
              clear hw' hs' hkp hN' hf g0 n0 n1' nl d2 d3
              go_wp2_with (fail)
              generalize hWW : W' = W at *
              clear hWW
              have n0 : W.cell? ⟨gn, 0, none⟩ = some (.int .i64 p1) := N1.out.c (k := 0) rfl
              have nl : gn < W.heap.size := N1.out.lt
              cases hg : okN (stF nu de (p1, p2))
              · have hS := HS1
                clear n0 nl
                have n0 : W.drew.cell? ⟨gn, 0, none⟩ = some (.int .i64 p1) := N1.out.c (k := 0) rfl
                have n1 : W.drew.cell? ⟨gn, 1, none⟩ = some (.int .i64 p2) := N1.out.c (k := 1) rfl
                have nl : gn < W.drew.heap.size := N1.out.lt
                have W2 := Bx.mk (W1.out.below (Below.refl _ _).drew)
                have B2 := Bx.mk B1.out.drew
                have E2 := Bx.mk (E1.out.below (Below.refl _ _).drew)
                clear N1 W1 B1 E1
                go_still_tail 9, (by kernel_rfl)
                change wpList _ _ _ _ _ W.drew
                generalize W.drew = V at *
                have hw := write_bad g (g + 1) l' (some ea) ea eb p1 ((p2 * nu).tdiv de) V W2.out E2.out (.inr rfl) hg
                unfold nt at hw
                go_wp2_with (fail)
                refine hw.mono ?_
                rintro e V2 ⟨⟨v2, rfl⟩, hw2, hs2⟩
                have HR2 := Bx.mk (And.intro hw2 (B2.out.trans (hs2.kp w.heap.size hwg (by omega)).below))
                clear hw2 hs2 hw n0 n1 nl
                go_wp2_with (fail)
                go_roundw
                case rel => exact ⟨k + 1, _, _, by omega, by go_num, hS, HR2⟩
                case measure => simp [intOf]; omega
              · have hS := HS2
                clear n0 nl
                have n0 : W.drew.cell? ⟨gn, 0, none⟩ = some (.int .i64 p1) := N1.out.c (k := 0) rfl
                have n1 : W.drew.cell? ⟨gn, 1, none⟩ = some (.int .i64 p2) := N1.out.c (k := 1) rfl
                have nl : gn < W.drew.heap.size := N1.out.lt
                have W2 := Bx.mk (W1.out.below (Below.refl _ _).drew)
                have B2 := Bx.mk B1.out.drew
                have E2 := Bx.mk (E1.out.below (Below.refl _ _).drew)
                clear N1 W1 B1 E1
                go_still_tail 9, (by kernel_rfl)
                change wpList _ _ _ _ _ W.drew
                generalize W.drew = V at *
                have hw := write_ok g (g + 1) l' (some ea) (p1) ((p2 * nu).tdiv de) V W2.out (by have := W2.out.lt; omega) hg (by have := HLN.out; omega)
                unfold nt at hw
                go_wp2_with (fail)
                refine hw.mono ?_
                rintro e V2 ⟨⟨v2, rfl⟩, hw2, hs2⟩
                have HR2 := Bx.mk (And.intro hw2 (B2.out.trans (hs2.kp w.heap.size hwg (by omega)).below))
                clear hw2 hs2 hw n0 n1 nl
                go_wp2_with (fail)
                go_roundw
                case rel => exact ⟨k + 1, _, _, by omega, by go_num, hS, HR2⟩
                case measure => simp [intOf]; omega
          · obtain rfl : k = l.length := by omega
            have d1 : decide ((l.length : Int) < (l.length : Int)) = false := decide_eq_false (by omega)
            have hfin := (show WSt (fun i => okN (pat (l.map (stF nu de)) i) && decide (((pat l i).2 * nu).tmod de = 0)) (l.map (stF nu de)) ea (l.map (stF nu de)).length l' q by rw [HTl.out]; exact HS.out).fin (b := eb) (r := stE l nu de) HFY.out HFN.out
            have hwr := impl_written g (g + 1) l' q ea eb wr HR.out.1 (HE.out.below HR.out.2) (HS.out.qa.elim .inl (fun h => .inr (.inl h)))
            rw [hfin] at hwr
            clear hfin HS HFY HFN
            go_wp2_with (fail)
            refine hwr.mono ?_
            rintro e V2 ⟨v2, rfl, ho, hb2⟩
            have HO := Bx.mk (own_downP (b1 := w.heap.size) (by omega) ho)
            have HB2 := Bx.mk (HR.out.2.trans (hb2.mono HR.out.2.size))
            obtain ⟨A2, c2, ev⟩ := own_len HO.out
            subst ev
            clear ho hb2
            go_wp2_with (fail)
            go_ret2
            exact ⟨_, rfl, HO.out, HB2.out⟩
end Go.Proofs.YtendfnimhmnioaaDoor
