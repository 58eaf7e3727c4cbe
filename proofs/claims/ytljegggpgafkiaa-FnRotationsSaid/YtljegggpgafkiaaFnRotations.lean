/- 'laws.FnRotations' returns true at every two inputs. -/
import Derived.Test.YtljegggpgafkiaaScLaw
import Derived.Test.YtljegggpgafkiaaScDraw
import Derived.Test.YtljegggpgafkiaaR8
import Derived.BigQuiet
namespace Go.Proofs.Ytljegggpgafkiaa.fnRotations
open Go.ChangeShapes Go.WideShapes Go.ChangeAt Go.RowKit
set_option linter.unusedVariables false
set_option linter.unusedSimpArgs false
set_option maxRecDepth 100000

set_option maxHeartbeats 8000000 in
set_option maxRecDepth 100000 in
theorem walk (v : Value) (n : Nat) {w : World} (hv : BytesAt w v n ∧ n ≤ 9223372036854775807) (u : Value) (m : Nat) (hu : BytesAt w u m ∧ m ≤ 9223372036854775807) :
    Calls Try.prog 4 #[v, u] w fun e w' => e = .returned (.bool true) ∧ Below w.heap.size w w' := by
  obtain ⟨hv, hn⟩ := hv
  obtain ⟨hu, hm⟩ := hu
  have HV := Bx.mk hv
  have HU := Bx.mk hu
  obtain ⟨Av, cv, rfl, _⟩ := hv
  obtain ⟨Au, cu, rfl, _⟩ := hu
  have B0 : Bx (Below w.heap.size w w) := Bx.mk (Below.refl _ _)
  go_enter Try.func4, Try.ntmps4
  go_wp2_with (fail)
  refine (r8_long Av Au n m cv cu w (by omega) (by omega)).mono ?_
  rintro e w' ⟨⟨b, rfl, hb⟩, rfl⟩
  cases b
  · obtain ⟨hn1, hm1⟩ := hb rfl
    clear hb
    go_wp2_with (fail)
    refine (r8_scale (.slice Av n cv) n w HV.out (by omega)).mono ?_
    rintro e1 q1 ⟨sv, zs, rfl, hsc, hi, hb⟩
    obtain ⟨As, cs, rfl⟩ := IntsAt.len hi
    have Is_1 := Bx.mk hi
    have B1 := Bx.mk hb
    have HSC := Bx.mk hsc
    obtain ⟨⟨l1, l2⟩, _, _⟩ := scale_yes hsc
    clear hi hb hsc
    have l3 : (5 : Int) ≤ (zs.length : Int) := by omega
    have l4 : (zs.length : Int) ≤ 12 := by omega
    obtain ⟨x, ⟨x0, x1⟩, hX⟩ := r8_at_fix (.slice Au m cu) m 0 (zs.length : Int) w HU.out (by omega) (by omega) (by omega)
    have HX := Bx.mk hX
    clear hX
    obtain ⟨k, rfl⟩ := Int.eq_ofNat_of_zero_le x0
    have hk : k < zs.length := by omega
    have HBk := Bx.mk (rot_back HSC.out k hk)
    have HTs := Bx.mk (rot_scale HSC.out k hk)
    have HTl := Bx.mk (rotL_len zs k zs.length)
    obtain ⟨f, hf, hfe, hfr⟩ := rotTo_some HSC.out HTs.out k hk rfl
    have HFr := Bx.mk hfr
    have HXl := Bx.mk (steps_len HSC.out)
    have HYl := Bx.mk ((steps_len HTs.out).trans HTl.out)
    have HXa := Bx.mk (fun i hi => steps_at HSC.out i hi)
    have HYa := Bx.mk (fun i hi => steps_rot HSC.out k i hk hi)
    have HCb := Bx.mk (fun i hi => com_both (xs := zs) (zs := rotL zs k zs.length) i hi)
    have HC1 := Bx.mk (com_some HSC.out HTs.out)
    have HCl := Bx.mk (comL_len zs (rotL zs k zs.length) zs.length)
    have HSq := Bx.mk (fun i => step_rng HSC.out i)
    have HSb := Bx.mk (fun i j h => seq_le_all HSC.out i j h)
    have HS0 := Bx.mk (seq_zero HSC.out)
    have HSe := Bx.mk (seq_end HSC.out)
    have ej : ((zs.length : Int) - (k : Int)) % (zs.length : Int) = (((zs.length - k) % zs.length : Nat) : Int) := by rw [show (zs.length : Int) - (k : Int) = ((zs.length - k : Nat) : Int) by omega]; rfl
    have hjl : (zs.length - k) % zs.length < zs.length := Nat.mod_lt _ (by omega)
    have cRT : Bx (∀ W, IntsAt W (.slice As zs.length cs) zs → Calls Try.prog 22 #[(.slice As zs.length cs), .int .i64 (k : Int)] W (RowOut (rotL zs k zs.length) (.int .i64 0) W)) := Bx.mk (fun W h => by rw [show (RowOut (rotL zs k zs.length) (.int .i64 0) W) = LCOut (rotL zs k zs.length, 0) W from rfl, ← rotC_in HSC.out k hk]; exact impl_rotate _ zs (k : Int) W h (by omega))
    have cRB : Bx (∀ v W, IntsAt W v (rotL zs k zs.length) → Calls Try.prog 22 #[v, .int .i64 (((zs.length - k) % zs.length : Nat) : Int)] W (RowOut zs (.int .i64 0) W)) := Bx.mk (fun v W h => by
      have e : LCOut (rotC (rotL zs k zs.length) (((zs.length - k) % zs.length : Nat) : Int)) W = RowOut zs (.int .i64 0) W := by rw [rotC_in HTs.out _ (by have := HTl.out; omega), HTl.out, HBk.out]; rfl
      rw [← e]; exact impl_rotate v _ _ W h (by have := HTl.out; omega))
    have cTo : Bx (∀ v W, IntsAt W (.slice As zs.length cs) zs → IntsAt W v (rotL zs k zs.length) → Calls Try.prog 23 #[(.slice As zs.length cs), v] W (ValOut (.tuple #[.int .i64 (f : Int), .int .i64 0]) W)) := Bx.mk (fun v W h h2 => by have := iout (impl_rotationto _ v zs _ W h h2 (by omega) (by have := HTl.out; omega)); rw [hfe] at this; exact this)
    have cIX : Bx (∀ W, IntsAt W (.slice As zs.length cs) zs → Calls Try.prog 24 #[(.slice As zs.length cs)] W (RowOut (stepsZ zs) (.int .i64 0) W)) := Bx.mk (fun W h => by
      have e : LCOut (intvC zs) W = RowOut (stepsZ zs) (.int .i64 0) W := by unfold intvC; rw [if_pos HSC.out]; rfl
      rw [← e]; exact impl_intervals _ zs W h (by omega))
    have cIY : Bx (∀ v W, IntsAt W v (rotL zs k zs.length) → Calls Try.prog 24 #[v] W (RowOut (stepsZ (rotL zs k zs.length)) (.int .i64 0) W)) := Bx.mk (fun v W h => by
      have e : LCOut (intvC (rotL zs k zs.length)) W = RowOut (stepsZ (rotL zs k zs.length)) (.int .i64 0) W := by unfold intvC; rw [if_pos HTs.out]; rfl
      rw [← e]; exact impl_intervals _ _ W h (by have := HTl.out; omega))
    have cCo : Bx (∀ v W, IntsAt W (.slice As zs.length cs) zs → IntsAt W v (rotL zs k zs.length) → Calls Try.prog 25 #[(.slice As zs.length cs), v] W (RowOut (comL zs (rotL zs k zs.length) zs.length) (.int .i64 0) W)) := Bx.mk (fun v W h h2 => by
      have e : LCOut (comC zs (rotL zs k zs.length)) W = RowOut (comL zs (rotL zs k zs.length) zs.length) (.int .i64 0) W := by unfold comC; rw [if_pos ⟨HSC.out, HTs.out⟩]; rfl
      rw [← e]; exact impl_common _ v zs _ W h h2 (by omega) (by have := HTl.out; omega))
    have cVS : Bx (∀ v W, IntsAt W v (rotL zs k zs.length) → Calls Try.prog 21 #[v] W (fun e w' => e = .returned (.bool true) ∧ ∃ n, w' = W.drewN n)) := Bx.mk (fun v W h => by have := spec_validscale v _ W h (by have := HTl.out; omega); rw [HTs.out] at this; exact this)
    have cSR : Bx (∀ W, IntsAt W (.slice As zs.length cs) zs → Calls Try.prog 26 #[(.slice As zs.length cs), .int .i64 (f : Int)] W (RowOut (rotL zs k zs.length) (.int .i64 0) W)) := Bx.mk (fun W h => by
      have e : LCOut (rotC zs (f : Int)) W = RowOut (rotL zs k zs.length) (.int .i64 0) W := by rw [rotC_in HSC.out f (by omega), HFr.out]; rfl
      rw [← e]; exact spec_rotatescale _ zs (f : Int) W h (by omega))
    clear hfe hfr HBk HTs HFr HSC
    generalize rotL zs k zs.length = tl at *
    generalize stepsZ tl = Y at *
    generalize stepsZ zs = X at *
    generalize comL zs tl zs.length = C at *
    have k0 : (0 : Int) ≤ (k : Int) := Int.natCast_nonneg _
    have f0 : (0 : Int) ≤ (f : Int) := Int.natCast_nonneg _
    have z0 : ((zs.length : Int) == 0) = false := beq_eq_false_iff_ne.2 (by omega)
    have z1 : ¬ ((zs.length : Int) = 0) := by omega
    have z2 : ¬ (zs.length = 0) := by omega
    have z3 : ¬ (zs = []) := by rintro rfl; simp at l1
    have z4 : (zs.length == 0) = false := by simpa using z2
    have z5 : (decide (zs = [])) = false := by simpa using z3
    have df1 : decide ((f : Int) < 0) = false := decide_eq_false (by omega)
    have df2 : decide ((k : Int) < (f : Int)) = false := decide_eq_false (by omega)
    have df3 : decide ((f : Int) > (k : Int)) = false := decide_eq_false (by omega)
    have df4 : decide (k < f) = false := decide_eq_false (by omega)
    have ej2 : ((zs.length : Int) - (k : Int)).tmod (zs.length : Int) = (((zs.length - k) % zs.length : Nat) : Int) := by rw [Int.tmod_eq_emod_of_nonneg (by omega)]; exact ej
    generalize (zs.length - k) % zs.length = j at *
    go_wp2_with (fail)
    refine (HX.out _ B1.out).mono ?_
    rintro e w' ⟨rfl, rfl⟩
    go_wp2_with (fail)
    refine (cRT.out _ Is_1.out).mono ?_
    rintro e2 q2 ⟨vt, rfl, ho, hb⟩
    have B2 : Bx (Below w.heap.size w q2) := Bx.mk (B1.out.trans (hb.mono B1.out.size))
    have Is_2 := Bx.mk (Is_1.out.below hb)
    clear Is_1
    have It_2 := Bx.mk (IntsAt.own ho)
    clear hb ho
    go_wp2_with (fail)
    refine (cRB.out _ _ It_2.out).mono ?_
    rintro e3 q3 ⟨vb, rfl, ho, hb⟩
    have B3 : Bx (Below w.heap.size w q3) := Bx.mk (B2.out.trans (hb.mono B2.out.size))
    have Is_3 := Bx.mk (Is_2.out.below hb)
    have It_3 := Bx.mk (It_2.out.below hb)
    clear Is_2 It_2
    have Ib_3 := Bx.mk (IntsAt.own ho)
    clear hb ho
    go_wp2_with (fail)
    refine (cTo.out _ _ Is_3.out It_3.out).mono ?_
    rintro e4 q4 ⟨rfl, hb⟩
    have B4 : Bx (Below w.heap.size w q4) := Bx.mk (B3.out.trans (hb.mono B3.out.size))
    have Is_4 := Bx.mk (Is_3.out.below hb)
    have It_4 := Bx.mk (It_3.out.below hb)
    have Ib_4 := Bx.mk (Ib_3.out.below hb)
    clear Is_3 It_3 Ib_3
    clear hb
    go_wp2_with (fail)
    refine (cIX.out _ Is_4.out).mono ?_
    rintro e5 q5 ⟨vx, rfl, ho, hb⟩
    obtain ⟨Ax, cx, rfl⟩ := own_len2 ho
    have B5 : Bx (Below w.heap.size w q5) := Bx.mk (B4.out.trans (hb.mono B4.out.size))
    have Is_5 := Bx.mk (Is_4.out.below hb)
    have It_5 := Bx.mk (It_4.out.below hb)
    have Ib_5 := Bx.mk (Ib_4.out.below hb)
    clear Is_4 It_4 Ib_4
    have Ix_5 := Bx.mk (IntsAt.own ho)
    clear hb ho
    go_wp2_with (fail)
    refine (cIY.out _ _ It_5.out).mono ?_
    rintro e6 q6 ⟨vy, rfl, ho, hb⟩
    obtain ⟨Ay, cy, rfl⟩ := own_len2 ho
    have B6 : Bx (Below w.heap.size w q6) := Bx.mk (B5.out.trans (hb.mono B5.out.size))
    have Is_6 := Bx.mk (Is_5.out.below hb)
    have It_6 := Bx.mk (It_5.out.below hb)
    have Ib_6 := Bx.mk (Ib_5.out.below hb)
    have Ix_6 := Bx.mk (Ix_5.out.below hb)
    clear Is_5 It_5 Ib_5 Ix_5
    have Iy_6 := Bx.mk (IntsAt.own ho)
    clear hb ho
    go_wp2_with (fail)
    refine (cCo.out _ _ Is_6.out It_6.out).mono ?_
    rintro e7 q7 ⟨vc, rfl, ho, hb⟩
    obtain ⟨Ac, cc, rfl⟩ := own_len2 ho
    have B7 : Bx (Below w.heap.size w q7) := Bx.mk (B6.out.trans (hb.mono B6.out.size))
    have Is_7 := Bx.mk (Is_6.out.below hb)
    have It_7 := Bx.mk (It_6.out.below hb)
    have Ib_7 := Bx.mk (Ib_6.out.below hb)
    have Ix_7 := Bx.mk (Ix_6.out.below hb)
    have Iy_7 := Bx.mk (Iy_6.out.below hb)
    clear Is_6 It_6 Ib_6 Ix_6 Iy_6
    have Ic_7 := Bx.mk (IntsAt.own ho)
    clear hb ho
    clear cRT cRB cTo cIX cIY cCo ej ej2 hjl HX
    go_upto_region 12 with (fail)
    go_cut [126] from 25 (fun t wx => t = .bool false ∧ IntsAt wx (.slice As zs.length cs) zs ∧ IntsAt wx vt tl ∧ IntsAt wx (.slice Ax X.length cx) X ∧ IntsAt wx (.slice Ay Y.length cy) Y ∧ IntsAt wx (.slice Ac C.length cc) C ∧ Below w.heap.size w wx)
    case first =>
      have xl1 : ((X.length : Int) != (zs.length : Int)) = false := by have := HXl.out; simp; omega
      have yl1 : ((Y.length : Int) != (zs.length : Int)) = false := by have := HYl.out; simp; omega
      have xl2 : (X.length == zs.length) = true := by have := HXl.out; simp; omega
      have yl2 : (Y.length == zs.length) = true := by have := HYl.out; simp; omega
      have xl3 : decide (X.length = zs.length) = true := decide_eq_true HXl.out
      have yl3 : decide (Y.length = zs.length) = true := decide_eq_true HYl.out
      clear cSR HXa HYa HCb HC1 HCl HSq HSb HS0 HSe
      have HE1 : decide (zs = zs) = true := decide_eq_true rfl
      go_wp2_with (fail)
      refine (r8_same _ _ zs zs _ (Ib_7.out) (Is_7.out) (by omega) (by omega)).mono ?_
      rintro e8 q8 ⟨rfl, hd⟩
      have hb := below_dr hd
      clear hd
      have B8 : Bx (Below w.heap.size w q8) := Bx.mk (B7.out.trans (hb.mono B7.out.size))
      have Is_8 := Bx.mk (Is_7.out.below hb)
      have It_8 := Bx.mk (It_7.out.below hb)
      have Ib_8 := Bx.mk (Ib_7.out.below hb)
      have Ix_8 := Bx.mk (Ix_7.out.below hb)
      have Iy_8 := Bx.mk (Iy_7.out.below hb)
      have Ic_8 := Bx.mk (Ic_7.out.below hb)
      clear Is_7 It_7 Ib_7 Ix_7 Iy_7 Ic_7
      clear hb
      go_wp2_with (fail)
      refine (cVS.out _ _ It_8.out).mono ?_
      rintro e9 q9 ⟨rfl, hd⟩
      have hb := below_dr hd
      clear hd
      have B9 : Bx (Below w.heap.size w q9) := Bx.mk (B8.out.trans (hb.mono B8.out.size))
      have Is_9 := Bx.mk (Is_8.out.below hb)
      have It_9 := Bx.mk (It_8.out.below hb)
      have Ib_9 := Bx.mk (Ib_8.out.below hb)
      have Ix_9 := Bx.mk (Ix_8.out.below hb)
      have Iy_9 := Bx.mk (Iy_8.out.below hb)
      have Ic_9 := Bx.mk (Ic_8.out.below hb)
      clear Is_8 It_8 Ib_8 Ix_8 Iy_8 Ic_8
      clear hb
      go_wp2_with (fail)
      go_meet
      case rel => exact ⟨rfl, Is_9.out, It_9.out, Ix_9.out, Iy_9.out, Ic_9.out, B9.out⟩
    case rest =>
    obtain ⟨rfl, hks, hkt, hkx, hky, hkc, hkb⟩ := hcut
    have Is_10 := Bx.mk hks
    have It_10 := Bx.mk hkt
    have Ix_10 := Bx.mk hkx
    have Iy_10 := Bx.mk hky
    have Ic_10 := Bx.mk hkc
    have B10 := Bx.mk hkb
    clear hks hkt hkx hky hkc hkb Is_7 It_7 Ib_7 Ix_7 Iy_7 Ic_7 B7
    clear cVS df1 df2 df3 df4 f0 hf
    go_wp2_with (fail)
    refine (cSR.out _ Is_10.out).mono ?_
    rintro e11 q11 ⟨ve, rfl, ho, hb⟩
    have B11 : Bx (Below w.heap.size w q11) := Bx.mk (B10.out.trans (hb.mono B10.out.size))
    have Is_11 := Bx.mk (Is_10.out.below hb)
    have It_11 := Bx.mk (It_10.out.below hb)
    have Ix_11 := Bx.mk (Ix_10.out.below hb)
    have Iy_11 := Bx.mk (Iy_10.out.below hb)
    have Ic_11 := Bx.mk (Ic_10.out.below hb)
    clear Is_10 It_10 Ix_10 Iy_10 Ic_10
    have Ie_11 := Bx.mk (IntsAt.own ho)
    clear hb ho
    go_wp2_with (fail)
    clear cSR
    obtain ⟨bx, ox, cx', hvx, hbx, hcx⟩ := IntsAt.form Ix_11.out (by have := HXl.out; omega)
    obtain ⟨by', oy, cy', hvy, hby, hcy⟩ := IntsAt.form Iy_11.out (by have := HYl.out; omega)
    injection hvx with e1 _ e3
    subst e1
    injection hvy with e4 _ e6
    subst e4
    have HCX := Bx.mk hcx
    have HCY := Bx.mk hcy
    clear hcx hcy e3 e6 hbx hby
    go_loopw [22, 23] (fun sm i wr => ∃ j n2 : Nat, j ≤ zs.length ∧ i = .int .i64 (j : Int) ∧ sm = .int .i64 (seqF zs j) ∧ Bx (wr = q11.drewN n2)) (fun _ i _ => zs.length - (intOf i).toNat)
    case atStart => exact ⟨0, 0, Nat.zero_le _, rfl, by rw [HS0.out], Bx.mk rfl⟩
    case round =>
      obtain ⟨j, n2, hj, rfl, rfl, HW⟩ := hrel
      by_cases hlt : j < zs.length
      · have hm1 : (j + k) % zs.length < zs.length := Nat.mod_lt _ (by omega)
        have g1 : wr.cell? ⟨bx, ox + j, none⟩ = some (.int .i64 (X.getD j 0)) := by rw [HW.out]; exact HCX.out j (by have := HXl.out; omega)
        have g2 : wr.cell? ⟨by', oy + j, none⟩ = some (.int .i64 (X.getD ((j + k) % zs.length) 0)) := by rw [HW.out, ← HYa.out j hlt]; exact HCY.out j (by have := HYl.out; omega)
        have g3 : wr.cell? ⟨bx, ox + (j + k) % zs.length, none⟩ = some (.int .i64 (X.getD ((j + k) % zs.length) 0)) := by rw [HW.out]; exact HCX.out _ (by have := HXl.out; omega)
        have hx1 := HXa.out j hlt
        have hs1 := HSq.out j
        have hs2 := HSb.out 0 j (by omega)
        have hs3 := HSb.out j zs.length (by omega)
        have hs0 := HS0.out
        have hse := HSe.out
        have HXL := Bx.mk HXl.out
        have xb1 : (j : Int) < (X.length : Int) := by have := HXl.out; omega
        have yb1 : (j : Int) < (Y.length : Int) := by have := HYl.out; omega
        have xm1 : (((j + k) % zs.length : Nat) : Int) < (X.length : Int) := by have := HXl.out; omega
        have xm0 : (0 : Int) ≤ (((j + k) % zs.length : Nat) : Int) := Int.natCast_nonneg _
        have j0 : (0 : Int) ≤ (j : Int) := Int.natCast_nonneg _
        have j1 : (j : Int) < (zs.length : Int) := by omega
        have E1 : IntKind.i64.wrap ((j : Int) + (k : Int)) = (j : Int) + (k : Int) := IntWalk.i64_in _ (by omega)
        have Q1 : ((j : Int) + (k : Int)).tmod (zs.length : Int) = (((j + k) % zs.length : Nat) : Int) := by rw [Int.tmod_eq_emod_of_nonneg (by omega)]; rfl
        have Q2 : ((j : Int) + (k : Int)) % (zs.length : Int) = (((j + k) % zs.length : Nat) : Int) := rfl
        generalize (j + k) % zs.length = q at *
        have E2 : IntKind.i64.wrap (q : Int) = (q : Int) := IntWalk.i64_in _ (by omega)
        generalize X.getD q 0 = y at *
        generalize X.getD j 0 = x at *
        have d1 : decide (x < 1) = false := decide_eq_false (by omega)
        have HN : Bx (seqF zs (j + 1) = seqF zs j + x) := Bx.mk (by omega)
        generalize seqF zs j = S at *
        have S1 : 0 ≤ S ∧ S ≤ 12 ∧ 0 ≤ x ∧ x ≤ 12 := by omega
        obtain ⟨S1, S2, S3, S4⟩ := S1
        have HHW := Bx.mk HW.out
        clear hs1 hs2 hs3 hs0 hse hx1 hm1
        go_wp2_with (fail)
        go_quiet (fail)
        go_wp2_with (fail)
        go_roundw
        case rel => exact ⟨j + 1, _, by omega, by go_num, by rw [HN.out], Bx.mk (by rw [HHW.out, World.drewN_drewN])⟩
        case measure => simp [intOf]; omega
      · obtain rfl : j = zs.length := by omega
        have hse := HSe.out
        rw [hse]
        have IC := Bx.mk (Ic_11.out.below (below_dr ⟨n2, HW.out⟩))
        have IS := Bx.mk (Is_11.out.below (below_dr ⟨n2, HW.out⟩))
        have IT := Bx.mk (It_11.out.below (below_dr ⟨n2, HW.out⟩))
        have IE := Bx.mk (Ie_11.out.below (below_dr ⟨n2, HW.out⟩))
        have BB : Bx (Below w.heap.size w wr) := Bx.mk (by rw [HW.out]; exact below_draws B11.out n2)
        clear HW HXa HYa HSq HSb HS0 HSe HCX HCY hse Is_11 It_11 Ix_11 Iy_11 Ic_11 Ie_11
        obtain ⟨bc, oc, cc', hvc, hbc, hcc⟩ := IntsAt.form IC.out (by have := HC1.out; omega)
        injection hvc with e1 _ e3
        subst e1
        have HCC := Bx.mk hcc
        clear hcc e3 hbc
        have hcl := HCl.out
        go_wp2_with (fail)
        go_loop [24] (fun i => ∃ j : Nat, j ≤ C.length ∧ i = .int .i64 (j : Int)) (fun i => C.length - (intOf i).toNat)
        case atStart => exact ⟨0, Nat.zero_le _, rfl⟩
        case round =>
          obtain ⟨j, hj, rfl⟩ := hrel
          by_cases hlt : j < C.length
          · have g1 : wr.cell? ⟨bc, oc + j, none⟩ = some (.int .i64 (C.getD j 0)) := HCC.out j hlt
            obtain ⟨h1, h2⟩ := HCb.out j hlt
            have j0 : (0 : Int) ≤ (j : Int) := Int.natCast_nonneg _
            have j1 : (j : Int) < (C.length : Int) := by omega
            have cH1 := Bx.mk (r8_has _ zs (C.getD j 0) wr IS.out (by omega))
            have cH2 := Bx.mk (r8_has _ tl (C.getD j 0) wr IT.out (by have := HTl.out; omega))
            rw [h1] at cH1
            rw [h2] at cH2
            clear h1 h2
            generalize C.getD j 0 = y at *
            go_wp2_with (fail)
            refine cH1.out.mono ?_
            rintro e w' ⟨rfl, rfl⟩
            go_wp2_with (fail)
            refine cH2.out.mono ?_
            rintro e w' ⟨rfl, rfl⟩
            go_wp2_with (fail)
            go_round
            case rel => exact ⟨j + 1, by omega, by go_num⟩
            case measure => simp [intOf]; omega
          · obtain rfl : j = C.length := by omega
            have hc1 : decide ((C.length : Int) ≥ 1) = true := decide_eq_true (by have := HC1.out; omega)
            have hc2 : decide (1 ≤ C.length) = true := decide_eq_true HC1.out
            have hc3 : (1 : Int) ≤ (C.length : Int) := by have := HC1.out; omega
            have HE1 : decide (tl = tl) = true := decide_eq_true rfl
            go_wp2_with (fail)
            refine (r8_same _ _ tl tl _ IE.out IT.out (by have := HTl.out; omega) (by have := HTl.out; omega)).mono ?_
            rintro e w' ⟨rfl, n3, rfl⟩
            go_wp2_with (fail)
            go_ret
            exact ⟨rfl, below_draws BB.out n3⟩
  · go_wp2_with (fail)
    go_ret
    exact ⟨rfl, Below.refl _ _⟩

theorem own : ownKnob Try.prog.godebug = none := by kernel_rfl
theorem laidOut : laidOutB Try.prog = true := by kernel_rfl

set_option maxRecDepth 100000 in
theorem lifted (os : Os) (started : os.Started) (H : Type) (enc : TypeId × Value → H) :
    ReturnsInHanded {} Try.checked os 4 .any (Rows.fnRotationsSpec.pre6 enc Try.prog Try.f4 Rows.fnRotationsRow.domain false) (Rows.fnRotationsSpec.post enc Try.prog Try.f4 false true false false) := by
  refine returnsInHanded_of_change (C := Try.checked) own started (by kernel_rfl) Try.func4
    (ChangeSpec.witness6 (enc := enc) (C := Try.checked) false ⟨#[], #[.slice none 0 0, .slice none 0 0], []⟩ 8 (by kernel_rfl) (by kernel_rfl) (by kernel_rfl) (by kernel_rfl)) ?_
  intro W base args ds gs before hval0 hW hcnd _
  have hval : ∀ (j : Nat) t v, Try.f4.params[j]? = some t → args[j]? = some v → Value.okWide Try.prog W .any base t v := hval0
  have hW' := hW
  obtain ⟨p, q, hA0, hV, rfl, hfz, hnd⟩ := hW
  have hA : DataW.TrodAll enc Try.prog W 0 (fun _ => true) true Try.f4.params.toList args.toList ds p := hA0
  rw [Try.params4] at hA hval
  obtain ⟨v0, vs0, d0, ds0, p0, q0, hargs, rfl, rfl, h0, r0⟩ := trodAll_cons hA
  obtain ⟨v1, vs1, d1, ds1, p1, q1, rfl, rfl, rfl, h1, r1⟩ := trodAll_cons r0
  obtain ⟨rfl, rfl, rfl⟩ := trodAll_nil r1
  obtain rfl : args = #[v0, v1] := by cases args; simp_all
  obtain ⟨rfl, rfl⟩ := trodVars_none hV
  obtain ⟨n0, w0⟩ := arg_bytes (hval 0 22 v0 rfl rfl) h0 (fun x hx => hW'.lt x (by simp [hx]))
  obtain ⟨n1, w1⟩ := arg_bytes (hval 1 22 v1 rfl rfl) h1 (fun x hx => hW'.lt x (by simp [hx]))
  clear hA0 hval0
  refine (walk v0 n0 w0 v1 n1 w1).mono fun e W' ⟨he, hb⟩ => ?_
  subst he
  exact ⟨_, rfl, post_law laidOut (by kernel_rfl) (by kernel_rfl) Try.underlying4 rfl hW' rfl hb⟩

theorem closed : joinedFacts Try.pinned.checked.prog 4 Try.f4 Rows.fnRotationsSpec Rows.fnRotationsRow = true := by
  unfold joinedFacts
  rw [may, lifts, made]
  kernel_rfl
theorem over : Rows.fnRotationsRow.holds Try.pinned (OpenSpec.ofChange Rows.fnRotationsSpec) :=
  OpenClaim.holds_of_wide 4 Try.f4 rfl rfl rfl rfl rfl rfl rfl ⟨rfl, rfl, rfl, rfl, rfl⟩ rfl rfl rfl rfl rfl (by kernel_rfl) Try.func4 closed
    (of_decide_eq_true (by kernel_rfl)) (by unfold Func.isWrapper; first | (rw [if_pos (by decide +kernel)]; kernel_rfl) | (rw [if_neg (by decide +kernel)]; exact ⟨rfl, rfl⟩))
    (fun os started H enc _ => lifted os started H enc)

theorem proved : Rows.FnRotationsSaid := over
#print axioms proved
end Go.Proofs.Ytljegggpgafkiaa.fnRotations
