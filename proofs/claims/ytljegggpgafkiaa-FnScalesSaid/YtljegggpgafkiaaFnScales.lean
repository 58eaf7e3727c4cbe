/- 'laws.FnScales' returns true at every two inputs. -/
import Derived.Test.YtljegggpgafkiaaScLaw
import Derived.Test.YtljegggpgafkiaaScDraw
import Derived.Test.YtljegggpgafkiaaR8
namespace Go.Proofs.Ytljegggpgafkiaa.fnScales
open Go.ChangeShapes Go.WideShapes Go.ChangeAt Go.RowKit
set_option linter.unusedVariables false
set_option linter.unusedSimpArgs false
set_option maxRecDepth 100000

set_option maxHeartbeats 8000000 in
set_option maxRecDepth 100000 in
theorem walk (v : Value) (n : Nat) {w : World} (hv : BytesAt w v n ∧ n ≤ 9223372036854775807) (u : Value) (m : Nat) (hu : BytesAt w u m ∧ m ≤ 9223372036854775807) :
    Calls Try.prog 3 #[v, u] w fun e w' => e = .returned (.bool true) ∧ Below w.heap.size w w' := by
  obtain ⟨hv, hn⟩ := hv
  obtain ⟨hu, hm⟩ := hu
  have HV := Bx.mk hv
  have HU := Bx.mk hu
  obtain ⟨Av, cv, rfl, _⟩ := hv
  obtain ⟨Au, cu, rfl, _⟩ := hu
  have B0 : Bx (Below w.heap.size w w) := Bx.mk (Below.refl _ _)
  go_enter Try.func3, Try.ntmps3
  go_wp2_with (fail)
  refine (r8_long Av Au n m cv cu w (by omega) (by omega)).mono ?_
  rintro e w' ⟨⟨b, rfl, hb⟩, rfl⟩
  cases b
  · obtain ⟨hn1, hm1⟩ := hb rfl
    clear hb
    go_wp2_with (fail)
    refine (r8_scale (.slice Av n cv) n w HV.out (by omega)).mono ?_
    rintro e1 q1 ⟨sv, zs, rfl, hsc, hi, hb⟩
    obtain ⟨As, cs, rfl⟩ := IntsAt.len hi
    have Is_1 := Bx.mk hi
    have B1 := Bx.mk hb
    have HSC := Bx.mk hsc
    obtain ⟨⟨l1, l2⟩, _, _⟩ := scale_yes hsc
    clear hi hb hsc
    have l3 : (5 : Int) ≤ (zs.length : Int) := by omega
    have l4 : (zs.length : Int) ≤ 12 := by omega
    obtain ⟨x, ⟨x0, x1⟩, hX⟩ := r8_at_fix (.slice Au m cu) m 0 (3 * (zs.length : Int)) w HU.out (by omega) (by omega) (by omega)
    obtain ⟨z, ⟨z0, z1⟩, hZ⟩ := r8_at_fix (.slice Au m cu) m 3 12 w HU.out (by omega) (by omega) (by omega)
    have HX := Bx.mk hX
    have HZ := Bx.mk hZ
    clear hX hZ
    have hrng : -(zs.length : Int) ≤ x - zs.length ∧ x - zs.length < 2 * zs.length := by omega
    obtain ⟨pe, p1, p2⟩ := pit_ok HSC.out (x - zs.length) hrng
    obtain ⟨de, he⟩ := deg_back HSC.out (x - zs.length) hrng
    have hup := pit_up HSC.out (x - zs.length)
    have pn : x - zs.length + 1 < 2 * zs.length → pitZ zs (x - zs.length + 1) = (pitP zs (x - zs.length + 1), 0) := fun h => (pit_ok HSC.out _ (by omega)).1
    generalize pitP zs (x - zs.length + 1) = p' at *
    generalize pitP zs (x - zs.length) = p at *
    have cTA : Bx (∀ W, IntsAt W (.slice As zs.length cs) zs → Calls Try.prog 8 #[(.slice As zs.length cs), .int .i64 (x - zs.length)] W (ValOut (.tuple #[.int .i64 p, .int .i64 0]) W)) := Bx.mk (fun W h => by have := ires (impl_toneat _ zs (x - zs.length) W h (by omega)); rw [pe] at this; exact this)
    have cTB : Bx (x - zs.length + 1 < 2 * zs.length → ∀ W, IntsAt W (.slice As zs.length cs) zs → Calls Try.prog 8 #[(.slice As zs.length cs), .int .i64 (x - zs.length + 1)] W (ValOut (.tuple #[.int .i64 p', .int .i64 0]) W)) := Bx.mk (fun hh W h => by have := ires (impl_toneat _ zs (x - zs.length + 1) W h (by omega)); rw [pn hh] at this; exact this)
    have cDG : Bx (∀ W, IntsAt W (.slice As zs.length cs) zs → Calls Try.prog 9 #[(.slice As zs.length cs), .int .i64 p] W (ValOut (.tuple #[.int .i64 (x - zs.length), .int .i64 0]) W)) := Bx.mk (fun W h => by have := ires (impl_degree _ zs p W h (by omega)); rw [de] at this; exact this)
    have cHS : Bx (∀ W, IntsAt W (.slice As zs.length cs) zs → Calls Try.prog 15 #[(.slice As zs.length cs), .int .i64 (p % 12)] W (fun e w' => e = .returned (.bool true) ∧ W = w')) := Bx.mk (fun W h => by have := r8_has _ zs (p % 12) W h (by omega); rw [he] at this; exact this)
    have cTO : Bx (∀ W, Calls Try.prog 16 #[.int .i64 p] W fun e w' => e = .returned (.int .i64 (p % 12)) ∧ W = w') := Bx.mk (fun W => impl_toneof p W)
    have ht1 := text_back HSC.out
    have ht2 := text_size HSC.out
    have cST : Bx (∀ W, IntsAt W (.slice As zs.length cs) zs → Calls Try.prog 11 #[(.slice As zs.length cs)] W (ValOut (.string (textS zs)) W)) := Bx.mk (fun W h => impl_scaletext _ zs W h (by omega))
    have cRS : Bx (∀ W, Calls Try.prog 10 #[.string (textS zs)] W (RowOut zs (.bool true) W)) := Bx.mk (fun W => by have := impl_readscale (textS zs) W (by omega); rw [ht1] at this; exact this)
    generalize textS zs = T at *
    obtain ⟨k, ke, kl, kn⟩ := number_ok HSC.out
    obtain ⟨me, m1, m2⟩ := count_ok (zs.length : Int) ⟨l3, l4⟩
    have ko := fun (j : Nat) (h : (j : Int) < chooseZ 11 ((zs.length : Int) - 1)) => number_other (zs.length : Int) ⟨l3, l4⟩ j h
    have cSN : Bx (∀ W, IntsAt W (.slice As zs.length cs) zs → Calls Try.prog 12 #[(.slice As zs.length cs)] W (ValOut (.tuple #[.int .i64 (k : Int), .int .i64 0]) W)) := Bx.mk (fun W h => by have := iout (impl_number _ zs W h (by omega)); rw [ke] at this; exact this)
    have cCS : Bx (∀ W, Calls Try.prog 13 #[.int .i64 (zs.length : Int)] W (ValOut (.tuple #[.int .i64 (chooseZ 11 ((zs.length : Int) - 1)), .int .i64 0]) W)) := Bx.mk (fun W => by have := iout (impl_count (zs.length : Int) W); rw [me] at this; exact this)
    have cNS : Bx (∀ W, Calls Try.prog 14 #[.int .i64 (zs.length : Int), .int .i64 (k : Int)] W (RowOut zs (.int .i64 0) W)) := Bx.mk (fun W => by have : Calls _ _ _ _ (RowOut (numC zs.length k).1 (.int .i64 (numC zs.length k).2) W) := impl_numbered (zs.length : Int) (k : Int) W; rw [kn] at this; exact this)
    generalize chooseZ 11 ((zs.length : Int) - 1) = many at *
    have k0 : (0 : Int) ≤ (k : Int) := Int.natCast_nonneg _
    have KO := Bx.mk ko
    have HUP := Bx.mk hup
    have CTB := cTB
    have dp1 : decide (p < -12) = false := decide_eq_false (by omega)
    have dp2 : decide (23 < p) = false := decide_eq_false (by omega)
    have dp3 : decide (p > 23) = false := decide_eq_false (by omega)
    have dk1 : decide ((k : Int) < 0) = false := decide_eq_false (by omega)
    have dk2 : decide (many ≤ (k : Int)) = false := decide_eq_false (by omega)
    have dk3 : decide ((k : Int) ≥ many) = false := decide_eq_false (by omega)
    clear pe de he pn ht1 ht2 ke kn me ko hup cTB
    go_wp2_with (fail)
    refine (HX.out _ B1.out).mono ?_
    rintro e w' ⟨rfl, rfl⟩
    go_wp2_with (fail)
    refine (cTA.out _ Is_1.out).mono ?_
    rintro e2 q2 ⟨rfl, hb⟩
    have B2 : Bx (Below w.heap.size w q2) := Bx.mk (B1.out.trans (hb.mono B1.out.size))
    have Is_2 := Bx.mk (Is_1.out.below hb)
    clear Is_1
    clear hb
    go_wp2_with (fail)
    refine (cDG.out _ Is_2.out).mono ?_
    rintro e3 q3 ⟨rfl, hb⟩
    have B3 : Bx (Below w.heap.size w q3) := Bx.mk (B2.out.trans (hb.mono B2.out.size))
    have Is_3 := Bx.mk (Is_2.out.below hb)
    clear Is_2
    clear hb
    go_wp2_with (fail)
    refine (cST.out _ Is_3.out).mono ?_
    rintro e4 q4 ⟨rfl, hb⟩
    have B4 : Bx (Below w.heap.size w q4) := Bx.mk (B3.out.trans (hb.mono B3.out.size))
    have Is_4 := Bx.mk (Is_3.out.below hb)
    clear Is_3
    clear hb
    go_wp2_with (fail)
    refine (cRS.out _).mono ?_
    rintro e5 q5 ⟨vr, rfl, ho, hb⟩
    have B5 : Bx (Below w.heap.size w q5) := Bx.mk (B4.out.trans (hb.mono B4.out.size))
    have Is_5 := Bx.mk (Is_4.out.below hb)
    clear Is_4
    have Ir_5 := Bx.mk (IntsAt.own ho)
    clear hb ho
    go_wp2_with (fail)
    refine (cSN.out _ Is_5.out).mono ?_
    rintro e6 q6 ⟨rfl, hb⟩
    have B6 : Bx (Below w.heap.size w q6) := Bx.mk (B5.out.trans (hb.mono B5.out.size))
    have Is_6 := Bx.mk (Is_5.out.below hb)
    have Ir_6 := Bx.mk (Ir_5.out.below hb)
    clear Is_5 Ir_5
    clear hb
    go_wp2_with (fail)
    refine (cCS.out _).mono ?_
    rintro e7 q7 ⟨rfl, hb⟩
    have B7 : Bx (Below w.heap.size w q7) := Bx.mk (B6.out.trans (hb.mono B6.out.size))
    have Is_7 := Bx.mk (Is_6.out.below hb)
    have Ir_7 := Bx.mk (Ir_6.out.below hb)
    clear Is_6 Ir_6
    clear hb
    go_wp2_with (fail)
    refine (cNS.out _).mono ?_
    rintro e8 q8 ⟨ve, rfl, ho, hb⟩
    have B8 : Bx (Below w.heap.size w q8) := Bx.mk (B7.out.trans (hb.mono B7.out.size))
    have Is_8 := Bx.mk (Is_7.out.below hb)
    have Ir_8 := Bx.mk (Ir_7.out.below hb)
    clear Is_7 Ir_7
    have Ie_8 := Bx.mk (IntsAt.own ho)
    clear hb ho
    clear cTA cDG cST cRS cSN cCS cNS
    go_upto_region 12 with (fail)
    go_cut [138] from 29 (fun t wx => t = .bool false ∧ IntsAt wx (.slice As zs.length cs) zs ∧ Below w.heap.size w wx)
    case first =>
      clear KO CTB HUP HZ
      go_wp2_with (fail)
      refine (cTO.out _).mono ?_
      rintro e w' ⟨rfl, rfl⟩
      go_wp2_with (fail)
      refine (cHS.out _ Is_8.out).mono ?_
      rintro e w' ⟨rfl, rfl⟩
      go_wp2_with (fail)
      have HE1 : decide (zs = zs) = true := decide_eq_true rfl
      refine (r8_same _ _ zs zs _ (Ir_8.out) (Is_8.out) (by omega) (by omega)).mono ?_
      rintro e9 q9 ⟨rfl, hd⟩
      have hb := below_dr hd
      clear hd
      have B9 : Bx (Below w.heap.size w q9) := Bx.mk (B8.out.trans (hb.mono B8.out.size))
      have Is_9 := Bx.mk (Is_8.out.below hb)
      have Ir_9 := Bx.mk (Ir_8.out.below hb)
      have Ie_9 := Bx.mk (Ie_8.out.below hb)
      clear Is_8 Ir_8 Ie_8
      clear hb
      go_wp2_with (fail)
      refine (r8_same _ _ zs zs _ (Ie_9.out) (Is_9.out) (by omega) (by omega)).mono ?_
      rintro e10 q10 ⟨rfl, hd⟩
      have hb := below_dr hd
      clear hd
      have B10 : Bx (Below w.heap.size w q10) := Bx.mk (B9.out.trans (hb.mono B9.out.size))
      have Is_10 := Bx.mk (Is_9.out.below hb)
      have Ir_10 := Bx.mk (Ir_9.out.below hb)
      have Ie_10 := Bx.mk (Ie_9.out.below hb)
      clear Is_9 Ir_9 Ie_9
      clear hb
      go_wp2_with (fail)
      go_meet
      case rel => exact ⟨rfl, Is_10.out, B10.out⟩
    case rest =>
    obtain ⟨rfl, hks, hkb⟩ := hcut
    have Is_11 := Bx.mk hks
    have B11 := Bx.mk hkb
    clear hks hkb Is_8 Ir_8 Ie_8 B8
    clear cTO cHS k0 kl p1 p2 hrng HX HSC dp1 dp2 dp3 dk1 dk2 dk3
    by_cases hnx : x - zs.length + 1 < 2 * (zs.length : Int)
    · have hnx2 := hnx
      have cTB := Bx.mk (CTB.out hnx)
      clear CTB
      have hup := HUP.out
      clear HUP
      have du1 : decide (p' ≤ p) = false := decide_eq_false (by omega)
      go_wp2_with (fail)
      refine (cTB.out _ Is_11.out).mono ?_
      rintro e12 q12 ⟨rfl, hb⟩
      have B12 : Bx (Below w.heap.size w q12) := Bx.mk (B11.out.trans (hb.mono B11.out.size))
      have Is_12 := Bx.mk (Is_11.out.below hb)
      clear Is_11
      clear hb
      go_wp2_with (fail)
      refine (r8_wide_fix (.slice Au m cu) m 1 462 _ (HU.out.below B12.out) (by omega) (by omega) (by omega)).mono ?_
      rintro e w' ⟨⟨y, rfl, y0, y1⟩, rfl⟩
      go_wp2_with (fail)
      have my0 := Int.emod_nonneg y (show many ≠ 0 by omega)
      have my1 := Int.emod_lt_of_pos y (show 0 < many by omega)
      obtain ⟨j, hj⟩ := Int.eq_ofNat_of_zero_le my0
      obtain ⟨ys, ye, ysc, yl, yn⟩ := KO.out j (by omega)
      have hyl : ys.length = zs.length := by omega
      have cN2 : Bx (∀ W, Calls Try.prog 14 #[.int .i64 (zs.length : Int), .int .i64 (y % many)] W (RowOut ys (.int .i64 0) W)) := Bx.mk (fun W => by rw [hj]; have : Calls _ _ _ _ (RowOut (numC zs.length j).1 (.int .i64 (numC zs.length j).2) W) := impl_numbered (zs.length : Int) (j : Int) W; rw [ye] at this; exact this)
      have cO2 : Bx (∀ v W, IntsAt W v ys → Calls Try.prog 12 #[v] W (ValOut (.tuple #[.int .i64 (y % many), .int .i64 0]) W)) := Bx.mk (fun v W h => by rw [hj]; have := iout (impl_number v ys W h (by omega)); rw [yn] at this; exact this)
      have cV2 : Bx (∀ v W, IntsAt W v ys → Calls Try.prog 21 #[v] W (fun e w' => e = .returned (.bool true) ∧ ∃ n, w' = W.drewN n)) := Bx.mk (fun v W h => by have := spec_validscale v ys W h (by omega); rw [ysc] at this; exact this)
      have tb := tone_back z (by omega)
      have cTN : Bx (∀ W, Calls Try.prog 20 #[.int .i64 z] W fun e w' => e = .returned (.string (toneS z)) ∧ W = w') := Bx.mk (fun W => impl_tonename z W)
      have cTD : Bx (∀ W, Calls Try.prog 19 #[.string (toneS z)] W (fun e w' => e = .returned (.tuple #[.int .i64 z, .bool true]) ∧ W = w')) := Bx.mk (fun W => by have := impl_tonenamed (toneS z) W (by omega); rw [tb.1] at this; exact this)
      generalize toneS z = tz at *
      have HYL := Bx.mk hyl
      have ylt : ((ys.length : Int) == (zs.length : Int)) = true := by simp; omega
      have ylt2 : (ys.length == zs.length) = true := by simp; omega
      have ylt3 : decide (ys.length = zs.length) = true := decide_eq_true hyl
      have HJ := Bx.mk hj
      clear KO ye ysc yn tb hj my0 my1 hyl yl
      generalize hyk : y % many = yk at cN2 cO2
      have HYK := Bx.mk hyk
      clear hyk
      first | rw [HYK.out] | skip
      go_wp2_with (fail)
      refine (cN2.out _).mono ?_
      rintro e13 q13 ⟨vo, rfl, ho, hb⟩
      obtain ⟨Ao, co, rfl⟩ := own_len2 ho
      have B13 : Bx (Below w.heap.size w q13) := Bx.mk (B12.out.trans (hb.mono B12.out.size))
      have Is_13 := Bx.mk (Is_12.out.below hb)
      clear Is_12
      have Io_13 := Bx.mk (IntsAt.own ho)
      clear hb ho
      go_wp2_with (fail)
      refine (cO2.out _ _ Io_13.out).mono ?_
      rintro e14 q14 ⟨rfl, hb⟩
      have B14 : Bx (Below w.heap.size w q14) := Bx.mk (B13.out.trans (hb.mono B13.out.size))
      have Is_14 := Bx.mk (Is_13.out.below hb)
      have Io_14 := Bx.mk (Io_13.out.below hb)
      clear Is_13 Io_13
      clear hb
      go_wp2_with (fail)
      refine (HZ.out _ B14.out).mono ?_
      rintro e w' ⟨rfl, rfl⟩
      go_wp2_with (fail)
      refine (cTN.out _).mono ?_
      rintro e w' ⟨rfl, rfl⟩
      go_wp2_with (fail)
      refine (cTD.out _).mono ?_
      rintro e w' ⟨rfl, rfl⟩
      go_wp2_with (fail)
      refine (cV2.out _ _ Io_14.out).mono ?_
      rintro e15 q15 ⟨rfl, hd⟩
      have hb := below_dr hd
      clear hd
      have B15 : Bx (Below w.heap.size w q15) := Bx.mk (B14.out.trans (hb.mono B14.out.size))
      have Is_15 := Bx.mk (Is_14.out.below hb)
      have Io_15 := Bx.mk (Io_14.out.below hb)
      clear Is_14 Io_14
      clear hb
      go_wp2_with (fail)
      refine (HZ.out _ B15.out).mono ?_
      rintro e w' ⟨rfl, rfl⟩
      go_wp2_with (fail)
      go_ret
      exact ⟨rfl, B15.out⟩
    · clear CTB HUP
      go_wp2_with (fail)
      refine (r8_wide_fix (.slice Au m cu) m 1 462 _ (HU.out.below B11.out) (by omega) (by omega) (by omega)).mono ?_
      rintro e w' ⟨⟨y, rfl, y0, y1⟩, rfl⟩
      go_wp2_with (fail)
      have my0 := Int.emod_nonneg y (show many ≠ 0 by omega)
      have my1 := Int.emod_lt_of_pos y (show 0 < many by omega)
      obtain ⟨j, hj⟩ := Int.eq_ofNat_of_zero_le my0
      obtain ⟨ys, ye, ysc, yl, yn⟩ := KO.out j (by omega)
      have hyl : ys.length = zs.length := by omega
      have cN2 : Bx (∀ W, Calls Try.prog 14 #[.int .i64 (zs.length : Int), .int .i64 (y % many)] W (RowOut ys (.int .i64 0) W)) := Bx.mk (fun W => by rw [hj]; have : Calls _ _ _ _ (RowOut (numC zs.length j).1 (.int .i64 (numC zs.length j).2) W) := impl_numbered (zs.length : Int) (j : Int) W; rw [ye] at this; exact this)
      have cO2 : Bx (∀ v W, IntsAt W v ys → Calls Try.prog 12 #[v] W (ValOut (.tuple #[.int .i64 (y % many), .int .i64 0]) W)) := Bx.mk (fun v W h => by rw [hj]; have := iout (impl_number v ys W h (by omega)); rw [yn] at this; exact this)
      have cV2 : Bx (∀ v W, IntsAt W v ys → Calls Try.prog 21 #[v] W (fun e w' => e = .returned (.bool true) ∧ ∃ n, w' = W.drewN n)) := Bx.mk (fun v W h => by have := spec_validscale v ys W h (by omega); rw [ysc] at this; exact this)
      have tb := tone_back z (by omega)
      have cTN : Bx (∀ W, Calls Try.prog 20 #[.int .i64 z] W fun e w' => e = .returned (.string (toneS z)) ∧ W = w') := Bx.mk (fun W => impl_tonename z W)
      have cTD : Bx (∀ W, Calls Try.prog 19 #[.string (toneS z)] W (fun e w' => e = .returned (.tuple #[.int .i64 z, .bool true]) ∧ W = w')) := Bx.mk (fun W => by have := impl_tonenamed (toneS z) W (by omega); rw [tb.1] at this; exact this)
      generalize toneS z = tz at *
      have HYL := Bx.mk hyl
      have ylt : ((ys.length : Int) == (zs.length : Int)) = true := by simp; omega
      have ylt2 : (ys.length == zs.length) = true := by simp; omega
      have ylt3 : decide (ys.length = zs.length) = true := decide_eq_true hyl
      have HJ := Bx.mk hj
      clear KO ye ysc yn tb hj my0 my1 hyl yl
      generalize hyk : y % many = yk at cN2 cO2
      have HYK := Bx.mk hyk
      clear hyk
      first | rw [HYK.out] | skip
      go_wp2_with (fail)
      refine (cN2.out _).mono ?_
      rintro e12 q12 ⟨vo, rfl, ho, hb⟩
      obtain ⟨Ao, co, rfl⟩ := own_len2 ho
      have B12 : Bx (Below w.heap.size w q12) := Bx.mk (B11.out.trans (hb.mono B11.out.size))
      have Is_12 := Bx.mk (Is_11.out.below hb)
      clear Is_11
      have Io_12 := Bx.mk (IntsAt.own ho)
      clear hb ho
      go_wp2_with (fail)
      refine (cO2.out _ _ Io_12.out).mono ?_
      rintro e13 q13 ⟨rfl, hb⟩
      have B13 : Bx (Below w.heap.size w q13) := Bx.mk (B12.out.trans (hb.mono B12.out.size))
      have Is_13 := Bx.mk (Is_12.out.below hb)
      have Io_13 := Bx.mk (Io_12.out.below hb)
      clear Is_12 Io_12
      clear hb
      go_wp2_with (fail)
      refine (HZ.out _ B13.out).mono ?_
      rintro e w' ⟨rfl, rfl⟩
      go_wp2_with (fail)
      refine (cTN.out _).mono ?_
      rintro e w' ⟨rfl, rfl⟩
      go_wp2_with (fail)
      refine (cTD.out _).mono ?_
      rintro e w' ⟨rfl, rfl⟩
      go_wp2_with (fail)
      refine (cV2.out _ _ Io_13.out).mono ?_
      rintro e14 q14 ⟨rfl, hd⟩
      have hb := below_dr hd
      clear hd
      have B14 : Bx (Below w.heap.size w q14) := Bx.mk (B13.out.trans (hb.mono B13.out.size))
      have Is_14 := Bx.mk (Is_13.out.below hb)
      have Io_14 := Bx.mk (Io_13.out.below hb)
      clear Is_13 Io_13
      clear hb
      go_wp2_with (fail)
      refine (HZ.out _ B14.out).mono ?_
      rintro e w' ⟨rfl, rfl⟩
      go_wp2_with (fail)
      go_ret
      exact ⟨rfl, B14.out⟩
  · go_wp2_with (fail)
    go_ret
    exact ⟨rfl, Below.refl _ _⟩

theorem own : ownKnob Try.prog.godebug = none := by kernel_rfl
theorem laidOut : laidOutB Try.prog = true := by kernel_rfl

set_option maxRecDepth 100000 in
theorem lifted (os : Os) (started : os.Started) (H : Type) (enc : TypeId × Value → H) :
    ReturnsInHanded {} Try.checked os 3 .any (Rows.fnScalesSpec.pre6 enc Try.prog Try.f3 Rows.fnScalesRow.domain false) (Rows.fnScalesSpec.post enc Try.prog Try.f3 false true false false) := by
  refine returnsInHanded_of_change (C := Try.checked) own started (by kernel_rfl) Try.func3
    (ChangeSpec.witness6 (enc := enc) (C := Try.checked) false ⟨#[], #[.slice none 0 0, .slice none 0 0], []⟩ 8 (by kernel_rfl) (by kernel_rfl) (by kernel_rfl) (by kernel_rfl)) ?_
  intro W base args ds gs before hval0 hW hcnd _
  have hval : ∀ (j : Nat) t v, Try.f3.params[j]? = some t → args[j]? = some v → Value.okWide Try.prog W .any base t v := hval0
  have hW' := hW
  obtain ⟨p, q, hA0, hV, rfl, hfz, hnd⟩ := hW
  have hA : DataW.TrodAll enc Try.prog W 0 (fun _ => true) true Try.f3.params.toList args.toList ds p := hA0
  rw [Try.params3] at hA hval
  obtain ⟨v0, vs0, d0, ds0, p0, q0, hargs, rfl, rfl, h0, r0⟩ := trodAll_cons hA
  obtain ⟨v1, vs1, d1, ds1, p1, q1, rfl, rfl, rfl, h1, r1⟩ := trodAll_cons r0
  obtain ⟨rfl, rfl, rfl⟩ := trodAll_nil r1
  obtain rfl : args = #[v0, v1] := by cases args; simp_all
  obtain ⟨rfl, rfl⟩ := trodVars_none hV
  obtain ⟨n0, w0⟩ := arg_bytes (hval 0 22 v0 rfl rfl) h0 (fun x hx => hW'.lt x (by simp [hx]))
  obtain ⟨n1, w1⟩ := arg_bytes (hval 1 22 v1 rfl rfl) h1 (fun x hx => hW'.lt x (by simp [hx]))
  clear hA0 hval0
  refine (walk v0 n0 w0 v1 n1 w1).mono fun e W' ⟨he, hb⟩ => ?_
  subst he
  exact ⟨_, rfl, post_law laidOut (by kernel_rfl) (by kernel_rfl) Try.underlying4 rfl hW' rfl hb⟩

theorem closed : joinedFacts Try.pinned.checked.prog 3 Try.f3 Rows.fnScalesSpec Rows.fnScalesRow = true := by
  unfold joinedFacts
  rw [may, lifts, made]
  kernel_rfl
theorem over : Rows.fnScalesRow.holds Try.pinned (OpenSpec.ofChange Rows.fnScalesSpec) :=
  OpenClaim.holds_of_wide 3 Try.f3 rfl rfl rfl rfl rfl rfl rfl ⟨rfl, rfl, rfl, rfl, rfl⟩ rfl rfl rfl rfl rfl (by kernel_rfl) Try.func3 closed
    (of_decide_eq_true (by kernel_rfl)) (by unfold Func.isWrapper; first | (rw [if_pos (by decide +kernel)]; kernel_rfl) | (rw [if_neg (by decide +kernel)]; exact ⟨rfl, rfl⟩))
    (fun os started H enc _ => lifted os started H enc)

theorem proved : Rows.FnScalesSaid := over
#print axioms proved
end Go.Proofs.Ytljegggpgafkiaa.fnScales
