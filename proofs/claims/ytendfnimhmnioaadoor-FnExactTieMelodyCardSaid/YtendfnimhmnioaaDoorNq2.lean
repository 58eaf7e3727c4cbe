/- TieMelody: the program. -/
import Derived.Test.YtendfnimhmnioaaDoorNq
import Derived.Test.YtendfnimhmnioaaDoorNv
namespace Go.Proofs.YtendfnimhmnioaaDoor
open Go.ChangeShapes Go.WideShapes Go.ChangeAt Go.RowKit
set_option linter.unusedVariables false
set_option linter.unusedSimpArgs false
set_option maxRecDepth 100000

theorem spec_tie (v : Value) (l : List (Int × Int)) (w : World) (h : PrsAt w v l) (hm : l.length ≤ 1048576) :
    Calls Tryd.prog 26 #[v] w (NtOut (tieE l).1 (.int .i64 (tieE l).2) w) := by
  have hq := fun W h => spec_okm v l W h hm
  have HI := Bx.mk h
  clear h hm
  cases hok : okM l
  · have HE : Bx (tieE l = ([], 1)) := Bx.mk (by simp [tieE, hok])
    rw [hok] at hq
    rw [HE.out]
    clear hok
    go_enter Tryd.func26, Tryd.ntmps26
    go_wp2_with (fail)
    refine (hq _ HI.out).mono ?_
    rintro r w1 ⟨rfl, rfl⟩
    go_wp2_with (fail)
    go_ret2
    exact ⟨_, rfl, World.ownsRow_nil _ _ _ _, Below.refl _ _⟩
  · have HE : Bx (tieE l = (tieL l l.length, 0)) := Bx.mk (by simp [tieE, hok])
    have hs := fun W h => spec_tieL v l W h hok
    rw [hok] at hq
    rw [HE.out]
    clear hok
    go_enter Tryd.func26, Tryd.ntmps26
    go_wp2_with (fail)
    refine (hq _ HI.out).mono ?_
    rintro r w1 ⟨rfl, rfl⟩
    go_wp2_with (fail)
    refine (hs _ HI.out).mono ?_
    rintro r w1 ⟨v1, rfl, ho, hb⟩
    have HO := Bx.mk ho
    have HB := Bx.mk hb
    clear ho hb
    go_wp2_with (fail)
    go_ret2
    exact ⟨_, rfl, HO.out, HB.out⟩
/-- a cell of the writer's row is written -/
theorem stp_row {g base h n c o : Nat} {w : World} {r v : Value} {xs : List Value} (hx : BoxN w g #[.slice (some ⟨h, 0, none⟩) n c, r] 55) (ho : w.ownsRow base 45 2 (.slice (some ⟨h, 0, none⟩) n c) n xs) : Stp g base w (w.setCell ⟨h, o, none⟩ v) := by
  have hne := box_ne_rowE ho hx (by decide)
  have hgh : g ≠ h := fun e => hne (by rw [e]; rfl)
  have hlo := own_lo ho h rfl
  have hx' := hx.other (b := h) (o := o) (Ne.symm hgh) v
  have hc := hx.c (k := 0) rfl
  have hc' := hx'.c (k := 0) rfl
  have hX : ∀ k, XB (some g) (w.setCell ⟨h, o, none⟩ v) k ↔ XB (some g) w k := fun k => by
    unfold XB
    dsimp only
    rw [hc, hc']
  have hs : (w.setCell ⟨h, o, none⟩ v).heap.size = w.heap.size := by simp [World.setCell]
  refine ⟨fun n₀ h1 h2 => ⟨(Below.refl _ _).setCell (p := ⟨h, o, none⟩) (Nat.le_trans h2 hlo) v, fun k ob hk _ hnx => ?_, fun k hk => .inl ((hX k).1 hk), fun hh k hk => by rw [hs]; exact hh k ((hX k).1 hk)⟩, KeepsOthers.setCell _ _ _⟩
  rw [Below.heap_setCell _ _ _ _ (by show k ≠ h; rintro rfl; exact hnx (.inr ⟨_, hc, rfl⟩))]
  exact hk
set_option maxHeartbeats 8000000 in
theorem impl_tie1 (g base : Nat) (out : List (Int × Int)) (p n : Int) (w : World) (h : WrAt w g base out none) (hbs : base ≤ w.heap.size) (hn : okN (p, n) = true) (hl : out.length < 48) (hok : ∀ i, i < out.length → okN (pat out i) = true) :
    Calls Tryd.prog 56 #[.pointer (some ⟨g, 0, none⟩), nt p n] w fun e w' => (∃ v, e = .returned v) ∧ WrAt w' g base (tieS out (p, n)) none ∧ Stp g base w w' := by
  have hAl : Below w.heap.size w (w.alloc (.cells #[.int .i64 p, .int .i64 n] 45)) := (Below.refl _ _).alloc (Nat.le_refl _) _
  have HS1 := Bx.mk (Stp.of_below (base := base) h.lt hAl)
  have HW1 := Bx.mk (h.below hAl)
  have HN1 := Bx.mk (BoxN.at w w.heap.size #[.int .i64 p, .int .i64 n] 45 rfl)
  have hbs1 : base ≤ (w.alloc (.cells #[.int .i64 p, .int .i64 n] 45)).heap.size := by simp; omega
  have HN := Bx.mk hn
  have HL := Bx.mk hl
  have HOK := Bx.mk hok
  obtain ⟨⟨_, _⟩, n1, n2⟩ := okN_yes hn
  have HAP : Bx (tieB out (p, n) = false → tieS out (p, n) = out ++ [(p, n)]) := Bx.mk (fun h => by unfold tieS; rw [h]; rfl)
  have HAS : Bx (tieB out (p, n) = true → tieS out (p, n) = out.set (out.length - 1) ((lastN out).1, (lastN out).2 + n)) := Bx.mk (fun h => by unfold tieS; rw [h]; rfl)
  clear h hAl hn hl hok hbs
  obtain ⟨gn, hgn⟩ : ∃ x, x = w.heap.size := ⟨_, rfl⟩
  rw [← hgn] at HN1
  obtain ⟨sl, r, hX, hO, hr⟩ := HW1.out.ex
  have hr : r = .nilIface := hr
  subst hr
  obtain ⟨A, c, rfl⟩ := own_len hO
  have y0 := hX.c (k := 0) rfl
  have yl := hX.lt
  have HX := Bx.mk hX
  have HO := Bx.mk hO
  have w0 : IntKind.i64.wrap ((out.length : Int) - 1) = (out.length : Int) - 1 := IntWalk.i64_in _ (by have := HL.out; omega)
  clear hX hO
  unfold nt
  go_enter Tryd.func56, Tryd.ntmps56
  go_wp2_with (fail)
  try rw [← hgn]
  clear hgn
  generalize w.alloc (.cells #[.int .i64 p, .int .i64 n] 45) = W at *
  have k0 := HN1.out.c (k := 0) rfl
  have k1 := HN1.out.c (k := 1) rfl
  have kl := HN1.out.lt
  by_cases h0 : out.length = 0
  · have HF : Bx (tieB out (p, n) = false) := Bx.mk (by simp [tieB, h0])
    have e0 : decide ((out.length : Int) - 1 ≥ 0) = false := decide_eq_false (by omega)
    have e1 : decide (0 ≤ (out.length : Int) - 1) = false := decide_eq_false (by omega)
    have e2 : ¬ (0 ≤ (out.length : Int) - 1) := by omega
    have e3 : decide (1 ≤ out.length) = false := decide_eq_false (by omega)
    have e4 : decide (1 ≤ (out.length : Int)) = false := decide_eq_false (by omega)
    have e5 : decide (0 < out.length) = false := decide_eq_false (by omega)
    clear h0
    go_quiet (fail)
    have hbl : Below W.heap.size W (W.drewN nq) := below_draws (Below.refl _ _) nq
    have VW := Bx.mk (HW1.out.below hbl)
    have VN := Bx.mk (HN1.out.below hbl)
    have VS := Bx.mk (HS1.out.trans (Stp.of_below HW1.out.lt hbl))
    have hbs2 : base ≤ (W.drewN nq).heap.size := hbs1
    clear y0 yl k0 k1 kl hbl hbs1 e0 e1 e2 e3 e4 e5
    generalize W.drewN nq = V at *
    have v0 := VN.out.c (k := 0) rfl
    have v1 := VN.out.c (k := 1) rfl
    have vl := VN.out.lt
    have hw := write_ok g base out none p n V VW.out hbs2 HN.out HL.out
    unfold nt at hw
    go_wp2_with (fail)
    refine hw.mono ?_
    rintro e V2 ⟨⟨v2, rfl⟩, hw2, hs2⟩
    have HR2 := Bx.mk (And.intro hw2 (VS.out.trans hs2))
    clear hw2 hs2 hw v0 v1 vl
    go_wp2_with (fail)
    go_end0
    exact ⟨⟨_, rfl⟩, by rw [HAP.out HF.out]; exact HR2.out.1, HR2.out.2⟩
  
  · have e0 : decide ((out.length : Int) - 1 ≥ 0) = true := decide_eq_true (by omega)
    have e1 : decide (0 ≤ (out.length : Int) - 1) = true := decide_eq_true (by omega)
    have e2 : 0 ≤ (out.length : Int) - 1 := by omega
    have e3 : decide (1 ≤ out.length) = true := decide_eq_true (by omega)
    have e4 : decide (1 ≤ (out.length : Int)) = true := decide_eq_true (by omega)
    have e5 : decide (0 < out.length) = true := decide_eq_true (by omega)
    have hp0 : 0 < out.length := by omega
    obtain ⟨h, cap, ee, hbg, hgl⟩ := HO.out.form hp0
    injection ee with e6 _ e7
    subst e6 e7
    have s0 := (HO.out.cellAt ((out.length - 1) * 2) (by omega)).trans (pcl_at0 out (out.length - 1) (by omega))
    have s1 := (HO.out.cellAt ((out.length - 1) * 2 + 1) (by omega)).trans (pcl_at1 out (out.length - 1) (by omega))
    have sf := HO.out.frozenAt ((out.length - 1) * 2 + 1)
    have z2 : (out.length : Int) - 1 < (out.length : Int) := by omega
    have z3 : ((out.length : Int) - 1).toNat = out.length - 1 := by omega
    have hlast := okN_yes (HOK.out (out.length - 1) (by omega))
    have HTI := Bx.mk (tie_own rfl HO.out hp0 ((lastN out).2 + n))
    have HTB : Bx (tieB out (p, n) = (decide ((lastN out).1 = p) && inB ((lastN out).2 + n) 1 64)) := Bx.mk (by simp [tieB, hp0])
    have HSR := Bx.mk (fun v => stp_row (o := (out.length - 1) * 2 + 1) (v := v) HX.out HO.out)
    have hhg : h ≠ g := fun e => box_ne_rowE HO.out HX.out (by decide) (by rw [← e]; rfl)
    have HX2 := Bx.mk (fun v => HX.out.other (b := h) (o := (out.length - 1) * 2 + 1) hhg v)
    change W.cell? _ = some (.int .i64 (lastN out).1) at s0
    change W.cell? _ = some (.int .i64 (lastN out).2) at s1
    change (-12 ≤ (lastN out).1 ∧ (lastN out).1 ≤ 23) ∧ (1 ≤ (lastN out).2 ∧ (lastN out).2 ≤ 64) at hlast
    generalize lastN out = la at *
    obtain ⟨q1, q2⟩ := la
    dsimp only at s0 s1 hlast HTI HTB HAS
    obtain ⟨_, l1, l2⟩ := hlast
    by_cases he : q1 = p
    · subst he
      have f1 : (q1 == q1) = true := by simp
      have y5 : IntKind.i64.wrap (q2 + n) = q2 + n := IntWalk.i64_in _ (by omega)
      have hil := fun W => impl_islen (q2 + n) W
      go_quiet (fail)
      revert nq
      intro nq1
      go_wp2_with (fail)
      go_quiet (fail)
      have hbl : Below W.heap.size W ((W.drewN nq1).drewN nq) := below_draws (below_draws (Below.refl _ _) nq1) nq
      cases hin : inB (q2 + n) 1 64
      · have HF : Bx (tieB out (q1, n) = false) := Bx.mk (HTB.out.trans (by rw [hin]; simp))
        rw [hin] at hil
        clear hin HTB HTI HAS
        go_wp2_with (fail)
        refine (hil _).mono ?_
        rintro e W' ⟨rfl, rfl⟩
        have hbl : Below W.heap.size W (W.drewN (nq1 + nq)) := below_draws (Below.refl _ _) (nq1 + nq)
        have VW := Bx.mk (HW1.out.below hbl)
        have VN := Bx.mk (HN1.out.below hbl)
        have VS := Bx.mk (HS1.out.trans (Stp.of_below HW1.out.lt hbl))
        have hbs2 : base ≤ (W.drewN (nq1 + nq)).heap.size := hbs1
        clear y0 yl k0 k1 kl hbl hbs1 s0 s1 sf e0 e1 e2 e3 e4 e5 HSR HX2 HX HO
        generalize W.drewN (nq1 + nq) = V at *
        have v0 := VN.out.c (k := 0) rfl
        have v1 := VN.out.c (k := 1) rfl
        have vl := VN.out.lt
        have hw := write_ok g base out none q1 n V VW.out hbs2 HN.out HL.out
        unfold nt at hw
        go_wp2_with (fail)
        refine hw.mono ?_
        rintro e V2 ⟨⟨v2, rfl⟩, hw2, hs2⟩
        have HR2 := Bx.mk (And.intro hw2 (VS.out.trans hs2))
        clear hw2 hs2 hw v0 v1 vl
        go_wp2_with (fail)
        go_end0
        exact ⟨⟨_, rfl⟩, by rw [HAP.out HF.out]; exact HR2.out.1, HR2.out.2⟩
  
      · have HT : Bx (tieB out (q1, n) = true) := Bx.mk (HTB.out.trans (by rw [hin]; simp))
        rw [hin] at hil
        clear hin HTB HAP
        go_wp2_with (fail)
        refine (hil _).mono ?_
        rintro e W' ⟨rfl, rfl⟩
        have hbl2 : Below W.heap.size W (W.drewN (nq1 + nq)) := below_draws (Below.refl _ _) (nq1 + nq)
        have RES : Bx (WrAt ((W.drewN (nq1 + nq)).setCell ⟨h, (out.length - 1) * 2 + 1, none⟩ (.int .i64 (q2 + n))) g base (tieS out (q1, n)) none ∧ Stp g base w ((W.drewN (nq1 + nq)).setCell ⟨h, (out.length - 1) * 2 + 1, none⟩ (.int .i64 (q2 + n)))) := Bx.mk ⟨⟨_, .nilIface, (HX.out.below hbl2).other (b := h) (o := (out.length - 1) * 2 + 1) hhg _, by rw [HAS.out HT.out, List.length_set]; exact HTI.out, rfl⟩, HS1.out.trans ((Stp.of_below HW1.out.lt hbl2).trans (stp_row (HX.out.below hbl2) (own_below HO.out hbl2)))⟩
        go_wp2_with (fail)
        exact bodyPost_ret (results_none rfl _ _ _) rfl ⟨⟨_, rfl⟩, RES.out.1, RES.out.2⟩
    · have f1 : (q1 == p) = false := by simpa using he
      have HF : Bx (tieB out (p, n) = false) := Bx.mk (HTB.out.trans (by rw [decide_eq_false he]; rfl))
      clear HTB HTI HAS
      go_quiet (fail)
      have hbl : Below W.heap.size W (W.drewN nq) := below_draws (Below.refl _ _) nq
      have VW := Bx.mk (HW1.out.below hbl)
      have VN := Bx.mk (HN1.out.below hbl)
      have VS := Bx.mk (HS1.out.trans (Stp.of_below HW1.out.lt hbl))
      have hbs2 : base ≤ (W.drewN nq).heap.size := hbs1
      clear y0 yl k0 k1 kl hbl hbs1 s0 s1 sf e0 e1 e2 e3 e4 e5 HSR HX2 HX HO
      generalize W.drewN nq = V at *
      have v0 := VN.out.c (k := 0) rfl
      have v1 := VN.out.c (k := 1) rfl
      have vl := VN.out.lt
      have hw := write_ok g base out none p n V VW.out hbs2 HN.out HL.out
      unfold nt at hw
      go_wp2_with (fail)
      refine hw.mono ?_
      rintro e V2 ⟨⟨v2, rfl⟩, hw2, hs2⟩
      have HR2 := Bx.mk (And.intro hw2 (VS.out.trans hs2))
      clear hw2 hs2 hw v0 v1 vl
      go_wp2_with (fail)
      go_end0
      exact ⟨⟨_, rfl⟩, by rw [HAP.out HF.out]; exact HR2.out.1, HR2.out.2⟩
set_option maxHeartbeats 4000000 in
theorem impl_tie (v : Value) (l : List (Int × Int)) (ea eb : Addr) (w : World) (h : PrsAt w v l) (he : Er w ea eb) (hm : l.length ≤ 1048576) :
    Calls Tryd.prog 27 #[v] w (NtOut (tieE l).1 (.int .i64 (tieE l).2) w) := by
  have hq := fun W h => impl_validmelody v l W h hm
  have h' := h
  obtain ⟨A, c, rfl⟩ := prs_len h'
  have HI := Bx.mk h
  have HE := Bx.mk he
  clear h h' he hm
  cases hok : okM l
  · have HR : Bx (tieE l = ([], 1)) := Bx.mk (by simp [tieE, hok])
    rw [hok] at hq
    rw [HR.out]
    clear hok
    go_enter Tryd.func27, Tryd.ntmps27
    go_wp2_with (fail)
    refine (hq _ HI.out).mono ?_
    rintro r w1 ⟨rfl, hb1⟩
    have B1 := Bx.mk hb1
    clear hb1
    go_wp2_with (fail)
    go_ret2
    exact ⟨_, rfl, World.ownsRow_nil _ _ _ _, B1.out⟩
  · have HR : Bx (tieE l = (tieL l l.length, 0)) := Bx.mk (by simp [tieE, hok])
    have hm := (okM_yes hok).1
    have HOK := Bx.mk (okM_yes hok).2
    have HOT := Bx.mk (fun k hk => tieL_ok hok k hk)
    rw [hok] at hq
    rw [HR.out]
    clear hok
    go_enter Tryd.func27, Tryd.ntmps27
    go_wp2_with (fail)
    refine (hq _ HI.out).mono ?_
    rintro r w1 ⟨rfl, hb1⟩
    have B1 := Bx.mk hb1
    clear hb1
    have HW0 := Bx.mk (WrAt.start w1)
    have HB0 : Bx (Below w.heap.size w (w1.alloc (.cells #[.slice none 0 0, .nilIface] 55))) := Bx.mk (B1.out.alloc B1.out.size _)
    obtain ⟨g, hg0⟩ : ∃ x, x = w1.heap.size := ⟨_, rfl⟩
    have hwg : w.heap.size ≤ g := by rw [hg0]; exact B1.out.size
    rw [← hg0] at HW0
    go_wp2_with (fail)
    rw [← hg0]
    clear hq B1
    go_loopw [12] (fun i wr => ∃ (k : Nat), k ≤ l.length ∧ i = .int .i64 (k : Int) ∧ Bx (WrAt wr g (g + 1) (tieL l k) none ∧ Below w.heap.size w wr)) (fun i _ => l.length - (intOf i).toNat)
    case atStart => exact ⟨0, Nat.zero_le _, rfl, Bx.mk ⟨HW0.out, HB0.out⟩⟩
    case round =>
      obtain ⟨k, hk, rfl, HR⟩ := hrel
      clear HW0 HB0 hg0
      by_cases hlt : k < l.length
      · have d1 : decide ((k : Int) < (l.length : Int)) = true := decide_eq_true (by omega)
        obtain ⟨bb, o, rfl, hb, hc⟩ := prs_form (HI.out.below HR.out.2) (by omega)
        obtain ⟨c0, c1⟩ := hc k hlt
        have k1 : (0 : Int) ≤ (k : Int) := by omega
        have k2 : (k : Int) < (l.length : Int) := by omega
        have HOKN := Bx.mk (HOK.out k hlt)
        have hTO := HOT.out k (by omega)
        have hln := tieL_len l k
        have HTN : Bx (tieL l (k + 1) = tieS (tieL l k) (pat l k)) := Bx.mk rfl
        clear hc
        generalize pat l k = p at *
        obtain ⟨p1, p2⟩ := p
        dsimp only at c0 c1
        have hAl : Below wr.heap.size wr (wr.alloc (.cells #[.int .i64 p1, .int .i64 p2] 45)) := (Below.refl _ _).alloc (Nat.le_refl _) _
        have W1 := Bx.mk (HR.out.1.below hAl)
        have B1 := Bx.mk (HR.out.2.trans (hAl.mono HR.out.2.size))
        have hgl := W1.out.lt
        have hw := impl_tie1 g (g + 1) (tieL l k) p1 p2 _ W1.out (by omega) HOKN.out (by omega) hTO
        unfold nt at hw
        clear HR hAl hTO hln
        go_wp2_with (fail)
        refine hw.mono ?_
        rintro e V2 ⟨⟨v2, rfl⟩, hw2, hs2⟩
        have HR2 := Bx.mk (And.intro hw2 (B1.out.trans (hs2.kp w.heap.size hwg (by omega)).below))
        rw [← HTN.out] at HR2
        clear hw2 hs2 hw c0 c1
        go_wp2_with (fail)
        go_roundw
        case rel => exact ⟨k + 1, by omega, by go_num, HR2⟩
        case measure => simp [intOf]; omega
      · obtain rfl : k = l.length := by omega
        have d1 : decide ((l.length : Int) < (l.length : Int)) = false := decide_eq_false (by omega)
        have hwr := impl_written g (g + 1) (tieL l l.length) none ea eb wr HR.out.1 (HE.out.below HR.out.2) (.inl rfl)
        rw [show wrE (tieL l l.length) none ea eb = (tieL l l.length, 0) by simp [wrE]] at hwr
        clear HOT HOK
        go_wp2_with (fail)
        refine hwr.mono ?_
        rintro e V2 ⟨v2, rfl, ho, hb2⟩
        have HO := Bx.mk (own_downP (b1 := w.heap.size) (by omega) ho)
        have HB2 := Bx.mk (HR.out.2.trans (hb2.mono HR.out.2.size))
        obtain ⟨A2, c2, ev⟩ := own_len HO.out
        subst ev
        clear ho hb2
        go_wp2_with (fail)
        go_ret2
        exact ⟨_, rfl, HO.out, HB2.out⟩
end Go.Proofs.YtendfnimhmnioaaDoor
