/- TransposeMelody, MirrorMelody, StretchMelody: the model. -/
import Derived.Test.YtendfnimhmnioaaDoorNt
namespace Go.Proofs.YtendfnimhmnioaaDoor
open Go.ChangeShapes Go.WideShapes Go.ChangeAt Go.RowKit
set_option linter.unusedVariables false
set_option linter.unusedSimpArgs false
set_option maxRecDepth 100000

set_option maxHeartbeats 4000000 in
theorem spec_transpose (v : Value) (l : List (Int × Int)) (n : Int) (w : World) (h : PrsAt w v l) (hm : l.length ≤ 1048576) :
    Calls Tryd.prog 12 #[v, .int .i64 n] w (NtOut (trE l n).1 (.int .i64 (trE l n).2) w) := by
  have hq := fun W h => spec_okm v l W h hm
  have h' := h
  obtain ⟨A, c, rfl⟩ := prs_len h'
  have HI := Bx.mk h
  clear h hm h'
  cases hok : okM l
  · have HE : Bx (trE l n = ([], 1)) := Bx.mk (by simp [trE, hok])
    rw [hok] at hq
    rw [HE.out]
    clear hok
    go_enter Tryd.func12, Tryd.ntmps12
    go_wp2_with (fail)
    refine (hq _ HI.out).mono ?_
    rintro r w1 ⟨rfl, rfl⟩
    go_wp2_with (fail)
    go_ret2
    exact ⟨_, rfl, World.ownsRow_nil _ _ _ _, Below.refl _ _⟩
  · have hm := (okM_yes hok).1
    rw [hok] at hq
    have HOK := Bx.mk (fun k hk => okM_at hok k hk)
    have hown := fun W h => spec_own9 (.slice A l.length c) l W h hm
    have hc := fun W => spec_by9 n W
    cases hin : inB n (-35) 35
    · have HE : Bx (trE l n = ([], 2)) := Bx.mk (by simp [trE, hok, hin])
      rw [hin] at hc
      rw [HE.out]
      clear hok hin hown
      go_enter Tryd.func12, Tryd.ntmps12
      go_wp2_with (fail)
      refine (hq _ HI.out).mono ?_
      rintro r w1 ⟨rfl, rfl⟩
      go_wp2_with (fail)
      refine (hc _).mono ?_
      rintro r w1 ⟨rfl, rfl⟩
      go_wp2_with (fail)
      go_ret2
      exact ⟨_, rfl, World.ownsRow_nil _ _ _ _, Below.refl _ _⟩
    · have HE : Bx (trE l n = donE (l.map (trF n))) := Bx.mk (by simp [trE, hok, hin])
      obtain ⟨n1, n2⟩ := inB_yes hin
      rw [hin] at hc
      rw [HE.out]
      have HD := Bx.mk (fun (A' : Option Addr) c' W (hh : PrsAt W (.slice A' l.length c') (l.map (trF n))) => (by have := spec_done9 A' c' (l.map (trF n)) W (by rw [List.length_map]; exact hh) (by rw [List.length_map]; omega); rw [List.length_map] at this; exact this : Calls Tryd.prog 35 #[.slice A' l.length c'] W fun e w' => e = .returned (.tuple #[dnV (l.map (trF n)) (.slice A' l.length c'), .int .i64 (donE (l.map (trF n))).2]) ∧ W = w'))
      clear hok hin
      go_enter Tryd.func12, Tryd.ntmps12
      go_wp2_with (fail)
      refine (hq _ HI.out).mono ?_
      rintro r w1 ⟨rfl, rfl⟩
      go_wp2_with (fail)
      refine (hc _).mono ?_
      rintro r w1 ⟨rfl, rfl⟩
      go_wp2_with (fail)
      refine (hown _ HI.out).mono ?_
      rintro r w1 ⟨v1, rfl, ho, hb⟩
      obtain ⟨A1, c1, rfl⟩ := own_len ho
      have HO := Bx.mk ho
      have HB := Bx.mk hb
      clear ho hb hq hc hown
      go_wp2_with (fail)
      go_loopw [7] (fun i wr => ∃ k : Nat, k ≤ l.length ∧ i = .int .i64 (k : Int) ∧ Bx (wr.ownsRow w.heap.size 45 2 (.slice A1 l.length c1) l.length (pcl (mixM (trF n) l k)) ∧ Below w.heap.size w wr)) (fun i _ => l.length - (intOf i).toNat)
      case atStart => exact ⟨0, Nat.zero_le _, rfl, Bx.mk ⟨by rw [mixM_zero]; exact HO.out, HB.out⟩⟩
      case round =>
        obtain ⟨k, hk, rfl, HR⟩ := hrel
        by_cases hlt : k < l.length
        · have k1 : (0 : Int) ≤ (k : Int) := by omega
          have k2 : (k : Int) < (l.length : Int) := by omega
          obtain ⟨g, cap, ee, hbg, hgl⟩ := HR.out.1.form (by omega)
          injection ee with e1 _ e3
          subst e1 e3
          have hml := mixM_len (trF n) l k hk
          have p0 := (HR.out.1.cellAt (k * 2) (by omega)).trans (pcl_at0 (mixM (trF n) l k) k (by omega))
          have p1 := (HR.out.1.cellAt (k * 2 + 1) (by omega)).trans (pcl_at1 (mixM (trF n) l k) k (by omega))
          rw [mixM_at _ l k hlt] at p0 p1
          have f0 := HR.out.1.frozenAt (k * 2)
          have s0 := HR.out.1.stored (k * 2) (.int .i64 (trF n (pat l k)).1)
          rw [pcl_set1 _ _ _ (by omega), mixM_at _ l k hlt, show ((trF n (pat l k)).1, (pat l k).2) = trF n (pat l k) from rfl, mixM_step _ l k hlt] at s0
          have HS := Bx.mk (And.intro s0.1 (HR.out.2.setCell (p := ⟨g, k * 2, none⟩) hbg (.int .i64 (trF n (pat l k)).1)))
          obtain ⟨b1, b2⟩ := HOK.out k hlt
          clear HR HO HB s0 hml HD HI
          generalize pat l k = p at *
          obtain ⟨pa, pb⟩ := p
          dsimp only at p0 p1 b1 b2
          have HS : Bx ((wr.setCell ⟨g, k * 2, none⟩ (.int .i64 (pa + n))).ownsRow w.heap.size 45 2 (.slice (some ⟨g, 0, none⟩) l.length c1) l.length (pcl (mixM (trF n) l (k + 1))) ∧ Below w.heap.size w (wr.setCell ⟨g, k * 2, none⟩ (.int .i64 (pa + n)))) := Bx.mk HS.out
          have y0 : IntKind.i64.wrap (pa + n) = pa + n := IntWalk.i64_in _ (by omega)
          go_wp2_with (fail)
          go_roundw
          case rel => exact ⟨k + 1, by omega, by go_num, HS⟩
          case measure => simp [intOf]; omega
        · obtain rfl : k = l.length := by omega
          have HR2 := HR.out
          rw [mixM_all] at HR2
          have HR2 := Bx.mk HR2
          have hd := HD.out A1 c1 wr (prs_own (by rw [List.length_map]; exact HR2.out.1))
          have ho := dn_own (T := l.map (trF n)) (by rw [List.length_map]; exact HR2.out.1)
          have HO2 := Bx.mk ho
          clear HR HO HB HD HOK ho
          go_wp2_with (fail)
          refine hd.mono ?_
          rintro r w2 ⟨rfl, rfl⟩
          obtain ⟨A2, c2, ed⟩ := own_len HO2.out
          rw [ed]
          rw [ed] at HO2
          go_wp2_with (fail)
          go_ret2
          exact ⟨_, rfl, HO2.out, HR2.out.2⟩
set_option maxHeartbeats 4000000 in
theorem spec_mirror (v : Value) (l : List (Int × Int)) (n : Int) (w : World) (h : PrsAt w v l) (hm : l.length ≤ 1048576) :
    Calls Tryd.prog 18 #[v, .int .i64 n] w (NtOut (miE l n).1 (.int .i64 (miE l n).2) w) := by
  have hq := fun W h => spec_okm v l W h hm
  have h' := h
  obtain ⟨A, c, rfl⟩ := prs_len h'
  have HI := Bx.mk h
  clear h hm h'
  cases hok : okM l
  · have HE : Bx (miE l n = ([], 1)) := Bx.mk (by simp [miE, hok])
    rw [hok] at hq
    rw [HE.out]
    clear hok
    go_enter Tryd.func18, Tryd.ntmps18
    go_wp2_with (fail)
    refine (hq _ HI.out).mono ?_
    rintro r w1 ⟨rfl, rfl⟩
    go_wp2_with (fail)
    go_ret2
    exact ⟨_, rfl, World.ownsRow_nil _ _ _ _, Below.refl _ _⟩
  · have hm := (okM_yes hok).1
    rw [hok] at hq
    have HOK := Bx.mk (fun k hk => okM_at hok k hk)
    have hown := fun W h => spec_own9 (.slice A l.length c) l W h hm
    have hc := fun W => spec_pitch n W
    cases hin : inB n (-12) 23
    · have HE : Bx (miE l n = ([], 2)) := Bx.mk (by simp [miE, hok, hin])
      rw [hin] at hc
      rw [HE.out]
      clear hok hin hown
      go_enter Tryd.func18, Tryd.ntmps18
      go_wp2_with (fail)
      refine (hq _ HI.out).mono ?_
      rintro r w1 ⟨rfl, rfl⟩
      go_wp2_with (fail)
      refine (hc _).mono ?_
      rintro r w1 ⟨rfl, rfl⟩
      go_wp2_with (fail)
      go_ret2
      exact ⟨_, rfl, World.ownsRow_nil _ _ _ _, Below.refl _ _⟩
    · have HE : Bx (miE l n = donE (l.map (miF n))) := Bx.mk (by simp [miE, hok, hin])
      obtain ⟨n1, n2⟩ := inB_yes hin
      rw [hin] at hc
      rw [HE.out]
      have HD := Bx.mk (fun (A' : Option Addr) c' W (hh : PrsAt W (.slice A' l.length c') (l.map (miF n))) => (by have := spec_done9 A' c' (l.map (miF n)) W (by rw [List.length_map]; exact hh) (by rw [List.length_map]; omega); rw [List.length_map] at this; exact this : Calls Tryd.prog 35 #[.slice A' l.length c'] W fun e w' => e = .returned (.tuple #[dnV (l.map (miF n)) (.slice A' l.length c'), .int .i64 (donE (l.map (miF n))).2]) ∧ W = w'))
      clear hok hin
      go_enter Tryd.func18, Tryd.ntmps18
      go_wp2_with (fail)
      refine (hq _ HI.out).mono ?_
      rintro r w1 ⟨rfl, rfl⟩
      go_wp2_with (fail)
      refine (hc _).mono ?_
      rintro r w1 ⟨rfl, rfl⟩
      go_wp2_with (fail)
      refine (hown _ HI.out).mono ?_
      rintro r w1 ⟨v1, rfl, ho, hb⟩
      obtain ⟨A1, c1, rfl⟩ := own_len ho
      have HO := Bx.mk ho
      have HB := Bx.mk hb
      clear ho hb hq hc hown
      go_wp2_with (fail)
      go_loopw [7] (fun i wr => ∃ k : Nat, k ≤ l.length ∧ i = .int .i64 (k : Int) ∧ Bx (wr.ownsRow w.heap.size 45 2 (.slice A1 l.length c1) l.length (pcl (mixM (miF n) l k)) ∧ Below w.heap.size w wr)) (fun i _ => l.length - (intOf i).toNat)
      case atStart => exact ⟨0, Nat.zero_le _, rfl, Bx.mk ⟨by rw [mixM_zero]; exact HO.out, HB.out⟩⟩
      case round =>
        obtain ⟨k, hk, rfl, HR⟩ := hrel
        by_cases hlt : k < l.length
        · have k1 : (0 : Int) ≤ (k : Int) := by omega
          have k2 : (k : Int) < (l.length : Int) := by omega
          obtain ⟨g, cap, ee, hbg, hgl⟩ := HR.out.1.form (by omega)
          injection ee with e1 _ e3
          subst e1 e3
          have hml := mixM_len (miF n) l k hk
          have p0 := (HR.out.1.cellAt (k * 2) (by omega)).trans (pcl_at0 (mixM (miF n) l k) k (by omega))
          have p1 := (HR.out.1.cellAt (k * 2 + 1) (by omega)).trans (pcl_at1 (mixM (miF n) l k) k (by omega))
          rw [mixM_at _ l k hlt] at p0 p1
          have f0 := HR.out.1.frozenAt (k * 2)
          have s0 := HR.out.1.stored (k * 2) (.int .i64 (miF n (pat l k)).1)
          rw [pcl_set1 _ _ _ (by omega), mixM_at _ l k hlt, show ((miF n (pat l k)).1, (pat l k).2) = miF n (pat l k) from rfl, mixM_step _ l k hlt] at s0
          have HS := Bx.mk (And.intro s0.1 (HR.out.2.setCell (p := ⟨g, k * 2, none⟩) hbg (.int .i64 (miF n (pat l k)).1)))
          obtain ⟨b1, b2⟩ := HOK.out k hlt
          clear HR HO HB s0 hml HD HI
          generalize pat l k = p at *
          obtain ⟨pa, pb⟩ := p
          dsimp only at p0 p1 b1 b2
          have HS : Bx ((wr.setCell ⟨g, k * 2, none⟩ (.int .i64 (2 * n - pa))).ownsRow w.heap.size 45 2 (.slice (some ⟨g, 0, none⟩) l.length c1) l.length (pcl (mixM (miF n) l (k + 1))) ∧ Below w.heap.size w (wr.setCell ⟨g, k * 2, none⟩ (.int .i64 (2 * n - pa)))) := Bx.mk HS.out
          have y0 : IntKind.i64.wrap (2 * n) = 2 * n := IntWalk.i64_in _ (by omega)
          have y1 : IntKind.i64.wrap (2 * n - pa) = 2 * n - pa := IntWalk.i64_in _ (by omega)
          go_wp2_with (fail)
          go_roundw
          case rel => exact ⟨k + 1, by omega, by go_num, HS⟩
          case measure => simp [intOf]; omega
        · obtain rfl : k = l.length := by omega
          have HR2 := HR.out
          rw [mixM_all] at HR2
          have HR2 := Bx.mk HR2
          have hd := HD.out A1 c1 wr (prs_own (by rw [List.length_map]; exact HR2.out.1))
          have ho := dn_own (T := l.map (miF n)) (by rw [List.length_map]; exact HR2.out.1)
          have HO2 := Bx.mk ho
          clear HR HO HB HD HOK ho
          go_wp2_with (fail)
          refine hd.mono ?_
          rintro r w2 ⟨rfl, rfl⟩
          obtain ⟨A2, c2, ed⟩ := own_len HO2.out
          rw [ed]
          rw [ed] at HO2
          go_wp2_with (fail)
          go_ret2
          exact ⟨_, rfl, HO2.out, HR2.out.2⟩
end Go.Proofs.YtendfnimhmnioaaDoor
