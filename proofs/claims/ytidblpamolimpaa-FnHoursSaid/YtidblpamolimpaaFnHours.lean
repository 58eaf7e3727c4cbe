/- 'laws.FnHours' returns true at every two inputs. -/
import Derived.Test.YtidblpamolimpaaHy
import Derived.Test.YtidblpamolimpaaB10
import Derived.Test.YtidblpamolimpaaLaw
import Derived.BigQuiet
import Derived.Deep.RegionHeld3
namespace Go.Proofs.Ytidblpamolimpaa.fnHours
open Go.ChangeShapes Go.WideShapes Go.ChangeAt Go.RowKit
set_option linter.unusedVariables false
set_option linter.unusedSimpArgs false
set_option maxRecDepth 100000

theorem keepH {t2 W W' : World} {bl o : Nat} {x : It} {r : Value} {ys : List Int} (h : W.cell? ⟨bl, o, none⟩ = some (.string x.nm) ∧ W.cell? ⟨bl, o + 1, none⟩ = some (.int .i64 x.f) ∧ W.cell? ⟨bl, o + 2, none⟩ = some (.int .i64 x.u) ∧ W.cell? ⟨bl, o + 3, none⟩ = some (.int .i64 x.s) ∧ W.cell? ⟨bl, o + 4, none⟩ = some (.int .i64 x.m) ∧ W.cell? ⟨bl, o + 5, none⟩ = some (.int .i64 x.p) ∧ bl < W.heap.size ∧ IntsAt W r ys ∧ Below t2.heap.size t2 W) (hb : Below W.heap.size W W') : W'.cell? ⟨bl, o, none⟩ = some (.string x.nm) ∧ W'.cell? ⟨bl, o + 1, none⟩ = some (.int .i64 x.f) ∧ W'.cell? ⟨bl, o + 2, none⟩ = some (.int .i64 x.u) ∧ W'.cell? ⟨bl, o + 3, none⟩ = some (.int .i64 x.s) ∧ W'.cell? ⟨bl, o + 4, none⟩ = some (.int .i64 x.m) ∧ W'.cell? ⟨bl, o + 5, none⟩ = some (.int .i64 x.p) ∧ bl < W'.heap.size ∧ IntsAt W' r ys ∧ Below t2.heap.size t2 W' := by
  obtain ⟨c0, c1, c2, c3, c4, c5, hl, hi, h2⟩ := h
  obtain ⟨d0, d1, d2, d3, d4, d5⟩ := C6.below ⟨c0, c1, c2, c3, c4, c5⟩ hl hb
  exact ⟨d0, d1, d2, d3, d4, d5, Nat.lt_of_lt_of_le hl hb.size, hi.below hb, h2.trans (hb.mono h2.size)⟩
theorem rowH {t2 W : World} {bl o : Nat} {x : It} {r : Value} {ys : List Int} (h : W.cell? ⟨bl, o, none⟩ = some (.string x.nm) ∧ W.cell? ⟨bl, o + 1, none⟩ = some (.int .i64 x.f) ∧ W.cell? ⟨bl, o + 2, none⟩ = some (.int .i64 x.u) ∧ W.cell? ⟨bl, o + 3, none⟩ = some (.int .i64 x.s) ∧ W.cell? ⟨bl, o + 4, none⟩ = some (.int .i64 x.m) ∧ W.cell? ⟨bl, o + 5, none⟩ = some (.int .i64 x.p) ∧ bl < W.heap.size ∧ IntsAt W r ys ∧ Below t2.heap.size t2 W) : IntsAt W r ys := h.2.2.2.2.2.2.2.1
theorem belH {t2 W : World} {bl o : Nat} {x : It} {r : Value} {ys : List Int} (h : W.cell? ⟨bl, o, none⟩ = some (.string x.nm) ∧ W.cell? ⟨bl, o + 1, none⟩ = some (.int .i64 x.f) ∧ W.cell? ⟨bl, o + 2, none⟩ = some (.int .i64 x.u) ∧ W.cell? ⟨bl, o + 3, none⟩ = some (.int .i64 x.s) ∧ W.cell? ⟨bl, o + 4, none⟩ = some (.int .i64 x.m) ∧ W.cell? ⟨bl, o + 5, none⟩ = some (.int .i64 x.p) ∧ bl < W.heap.size ∧ IntsAt W r ys ∧ Below t2.heap.size t2 W) : Below t2.heap.size t2 W := h.2.2.2.2.2.2.2.2
set_option maxHeartbeats 8000000 in
set_option maxRecDepth 100000 in
theorem walk (v : Value) (n : Nat) {w : World} (hv : BytesAt w v n ∧ n ≤ 9223372036854775807) (u : Value) (m : Nat) (hu : BytesAt w u m ∧ m ≤ 9223372036854775807) :
    Calls Try.prog 3 #[v, u] w fun e w' => e = .returned (.bool true) ∧ Below w.heap.size w w' := by
  obtain ⟨hv, hn⟩ := hv
  obtain ⟨hu, hm⟩ := hu
  have HV := Bx.mk hv
  have HU := Bx.mk hu
  obtain ⟨Av, cv, rfl, _⟩ := hv
  obtain ⟨Au, cu, rfl, _⟩ := hu
  go_enter Try.func3, Try.ntmps3
  go_wp2_with (fail)
  refine (b10_long Av n cv w (by omega)).mono ?_
  rintro e w' ⟨⟨b, rfl, hb⟩, rfl⟩
  cases b
  · have hn1 := hb rfl
    clear hb
    go_wp2_with (fail)
    refine (b10_long Au m cu w (by omega)).mono ?_
    rintro e w' ⟨⟨b, rfl, hb⟩, rfl⟩
    cases b
    · have hm1 := hb rfl
      clear hb
      go_wp2_with (fail)
      refine (draw_next (.slice Av n cv) n w HV.out (by omega)).mono ?_
      rintro e q1 ⟨x, mi, se, rfl, hx, hmi, hse, hb⟩
      have B1 := Bx.mk hb
      have HU0 := Bx.mk (HU.out.below hb)
      have HX := Bx.mk hx
      have hwf := hx.wf
      have cN := Bx.mk (fun W => impl_nextstart x mi se W hwf)
      have cI := Bx.mk (fun at' W => impl_fitstime x at' se W hwf)
      have cS := Bx.mk (fun at' W => spec_fitstime x at' se W hwf.n)
      have HNC := Bx.mk (next_cases x mi se)
      clear hb hx HV hwf
      unfold itV at *
      generalize (nextE x mi se).1 = a at cN HNC
      generalize (nextE x mi se).2 = cc at cN HNC
      go_wp2_with (fail)
      refine (cN.out _).mono ?_
      rintro e q2 ⟨rfl, hb⟩
      have BA := (Below.refl q1.heap.size q1).alloc (Nat.le_refl _) (.cells #[.string x.nm, .int .i64 x.f, .int .i64 x.u, .int .i64 x.s, .int .i64 x.m, .int .i64 x.p] 25)
      have X1 := Bx.mk ((BoxN.at q1 q1.heap.size #[.string x.nm, .int .i64 x.f, .int .i64 x.u, .int .i64 x.s, .int .i64 x.m, .int .i64 x.p] 25 rfl).below hb)
      have BB := BA.trans (hb.mono BA.size)
      have B2 := Bx.mk (B1.out.trans (BB.mono B1.out.size))
      have HU1 := Bx.mk (HU0.out.below BB)
      obtain ⟨g, hg⟩ : ∃ g, g = q1.heap.size := ⟨_, rfl⟩
      rw [← hg] at X1 ⊢
      clear hb BA BB B1 HU0 HU cN hg
      rcases HNC.out with hc | ⟨rfl, hok⟩
      · clear HNC X1 cI cS
        have hc1 : (cc == 0) = false := by simpa using hc
        go_wp2_with (fail)
        refine (draw_fit (.slice Au m cu) m q2 HU1.out (by omega)).mono ?_
        rintro e t1 ⟨vl, l, mi2, se2, rfl, hl, hdr, hit, hmi2, hse2, hb⟩
        have BT1 := Bx.mk (B2.out.trans (hb.mono B2.out.size))
        obtain ⟨Al, cl, rfl⟩ := its_len hit
        have hsm := dr_sm hl hdr
        have cF := Bx.mk (impl_fittingat (.slice Al l.length cl) l mi2 se2 t1 hit hsm)
        have HIT := Bx.mk hit
        have HSM := Bx.mk hsm
        have HFC := Bx.mk (fit_cases l mi2 se2)
        have HFL := Bx.mk (fitE_len l mi2 se2)
        clear hb hit hsm hdr hmi2 hse2 HU1 B2
        generalize (fitE l mi2 se2).1 = ys at cF HFC HFL
        generalize (fitE l mi2 se2).2 = cc at cF HFC
        go_wp2_with (fail)
        refine cF.out.mono ?_
        rintro e t2 ⟨vr, rfl, ho, hb⟩
        obtain ⟨Ar, cr, rfl⟩ := own_lenD ho
        have HIR := Bx.mk (IntsAt.own ho)
        have HIT2 := Bx.mk (HIT.out.below hb)
        have BT2 := Bx.mk (BT1.out.trans (hb.mono BT1.out.size))
        clear ho hb HIT cF BT1
        rcases HFC.out with ⟨hc, hy⟩ | ⟨rfl, hy, hfit⟩
        · subst hy
          clear HFC
          go_wp2_with (fail)
          go_ret
          exact ⟨rfl, BT2.out⟩
        · have HY := Bx.mk hy
          have HFI := Bx.mk hfit
          have HYl := HFL.out
          clear HFC hfit hy
          go_wp2_with (fail)
          go_loopw [17] (fun i wr => ∃ k : Nat, k ≤ l.length ∧ i = .int .i64 (k : Int) ∧ Bx (Below t2.heap.size t2 wr)) (fun i _ => 20 - (intOf i).toNat)
          case atStart => exact ⟨0, Nat.zero_le _, rfl, Bx.mk (Below.refl _ _)⟩
          case round =>
            obtain ⟨k, hk, rfl, HB⟩ := hrel
            by_cases hlt : k < l.length
            · have k0 : (0 : Int) ≤ (k : Int) := Int.natCast_nonneg _
              have k1 : (k : Int) < (l.length : Int) := by omega
              have hHas : hasB ys (k : Int) = fitsE (iat l k) mi2 se2 := by rw [HY.out, fit_has, HFI.out k hlt]; simp [hlt]
              obtain ⟨bl, ol, cl', hvl, hbl, hcl⟩ := HIT2.out.form (by omega)
              injection hvl with e1 _ e3
              subst e1
              subst e3
              have C0 := (hcl k hlt).below hbl HB.out
              have hbl2 := Nat.lt_of_lt_of_le hbl HB.out.size
              have HIR2 := Bx.mk (HIR.out.below HB.out)
              have hxn : (iat l k).nm.size ≤ maxLen := (HSM.out.x k hlt).n
              generalize iat l k = x at *
              obtain ⟨c0, c1, c2, c3, c4, c5⟩ := C0
              have hq := fun W => spec_fitstime x mi2 se2 W hxn
              unfold itV at hq
              have hp := fun W (h : IntsAt W (.slice Ar ys.length cr) ys) => b10_has (.slice Ar ys.length cr) ys (k : Int) W h (by omega)
              rw [hHas] at hp
              have SS0 : Bx (wr.cell? ⟨bl, ol + k * 6, none⟩ = some (.string x.nm) ∧ wr.cell? ⟨bl, ol + k * 6 + 1, none⟩ = some (.int .i64 x.f) ∧ wr.cell? ⟨bl, ol + k * 6 + 2, none⟩ = some (.int .i64 x.u) ∧ wr.cell? ⟨bl, ol + k * 6 + 3, none⟩ = some (.int .i64 x.s) ∧ wr.cell? ⟨bl, ol + k * 6 + 4, none⟩ = some (.int .i64 x.m) ∧ wr.cell? ⟨bl, ol + k * 6 + 5, none⟩ = some (.int .i64 x.p) ∧ bl < wr.heap.size ∧ IntsAt wr (.slice Ar ys.length cr) ys ∧ Below t2.heap.size t2 wr) := Bx.mk ⟨c0, c1, c2, c3, c4, c5, hbl2, HIR2.out, HB.out⟩
              generalize fitsE x mi2 se2 = B at *
              clear hcl hbl hbl2 HIR2 HB HIT2 HY HFI hHas hxn c0 c1 c2 c3 c4 c5
              cases B
              · have hS := SS0.out
                go_wp2_with (fail)
                go_region_held3 (fun W => W.cell? ⟨bl, ol + k * 6, none⟩ = some (.string x.nm) ∧ W.cell? ⟨bl, ol + k * 6 + 1, none⟩ = some (.int .i64 x.f) ∧ W.cell? ⟨bl, ol + k * 6 + 2, none⟩ = some (.int .i64 x.u) ∧ W.cell? ⟨bl, ol + k * 6 + 3, none⟩ = some (.int .i64 x.s) ∧ W.cell? ⟨bl, ol + k * 6 + 4, none⟩ = some (.int .i64 x.m) ∧ W.cell? ⟨bl, ol + k * 6 + 5, none⟩ = some (.int .i64 x.p) ∧ bl < W.heap.size ∧ IntsAt W (.slice Ar ys.length cr) ys ∧ Below t2.heap.size t2 W)
                  (first | (with_reducible exact keepH (by assumption) hb4) | (with_reducible exact keepH (by assumption) (Below.refl _ _)) | (with_reducible exact keepH (by assumption) (Below.refl _ _).drew) | exact keepH SS0.out (Below.refl _ _).drew)
                  (first | (go_at_call 12; (with_reducible refine (hp _ (rowH (by assumption))).mono ?_); rintro r w4 ⟨rfl, rfl⟩) | (go_at_call 8; (with_reducible refine (hq _).mono ?_); rintro r w4 ⟨rfl, hb4⟩; have hS0 := keepH (by assumption) hb4))
                all_goals
                  have SS : _ ∧ _ ∧ _ ∧ _ ∧ _ ∧ _ ∧ _ ∧ _ ∧ _ := (by assumption)
                  have SB := Bx.mk (belH SS)
                  clear SS
                  try clear hS
                  go_wp2_with (fail)
                  go_roundw
                  case rel => exact ⟨k + 1, by omega, by go_num, SB⟩
                  case measure => simp [intOf]; omega
              · have hS := SS0.out
                go_wp2_with (fail)
                go_region_held3 (fun W => W.cell? ⟨bl, ol + k * 6, none⟩ = some (.string x.nm) ∧ W.cell? ⟨bl, ol + k * 6 + 1, none⟩ = some (.int .i64 x.f) ∧ W.cell? ⟨bl, ol + k * 6 + 2, none⟩ = some (.int .i64 x.u) ∧ W.cell? ⟨bl, ol + k * 6 + 3, none⟩ = some (.int .i64 x.s) ∧ W.cell? ⟨bl, ol + k * 6 + 4, none⟩ = some (.int .i64 x.m) ∧ W.cell? ⟨bl, ol + k * 6 + 5, none⟩ = some (.int .i64 x.p) ∧ bl < W.heap.size ∧ IntsAt W (.slice Ar ys.length cr) ys ∧ Below t2.heap.size t2 W)
                  (first | (with_reducible exact keepH (by assumption) hb4) | (with_reducible exact keepH (by assumption) (Below.refl _ _)) | (with_reducible exact keepH (by assumption) (Below.refl _ _).drew) | exact keepH SS0.out (Below.refl _ _).drew)
                  (first | (go_at_call 12; (with_reducible refine (hp _ (rowH (by assumption))).mono ?_); rintro r w4 ⟨rfl, rfl⟩) | (go_at_call 8; (with_reducible refine (hq _).mono ?_); rintro r w4 ⟨rfl, hb4⟩; have hS0 := keepH (by assumption) hb4))
                all_goals
                  have SS : _ ∧ _ ∧ _ ∧ _ ∧ _ ∧ _ ∧ _ ∧ _ ∧ _ := (by assumption)
                  have SB := Bx.mk (belH SS)
                  clear SS
                  try clear hS
                  go_wp2_with (fail)
                  go_roundw
                  case rel => exact ⟨k + 1, by omega, by go_num, SB⟩
                  case measure => simp [intOf]; omega
            · obtain rfl : k = l.length := by omega
              have cR := Bx.mk (b10_rises (.slice Ar ys.length cr) ys l.length wr (HIR.out.below HB.out) (by omega) (Bx.mk (by rw [HY.out]; exact fun i hi => fit_at _ _ i hi)) (Bx.mk (by rw [HY.out]; exact fun i hi => fit_up _ _ i hi)))
              have BW := Bx.mk (BT2.out.trans (HB.out.mono BT2.out.size))
              go_wp2_with (fail)
              refine cR.out.mono ?_
              rintro e t4 ⟨rfl, hb⟩
              have BZ := Bx.mk (BW.out.trans (hb.mono BW.out.size))
              clear hb
              go_wp2_with (fail)
              go_ret
              exact ⟨rfl, BZ.out⟩
      · have HOK := Bx.mk hok
        clear HNC hok
        have y0 := X1.out.c (k := 0) rfl
        have y1 := X1.out.c (k := 1) rfl
        have y2 := X1.out.c (k := 2) rfl
        have y3 := X1.out.c (k := 3) rfl
        have y4 := X1.out.c (k := 4) rfl
        have y5 := X1.out.c (k := 5) rfl
        have yl := X1.out.lt
        have hfit := HOK.out.fits
        go_wp2_with (fail)
        refine (cI.out a q2).mono ?_
        rw [hfit]
        rintro e q3 ⟨rfl, hb⟩
        have X3 := Bx.mk (X1.out.below hb)
        have B3 := Bx.mk (B2.out.trans (hb.mono B2.out.size))
        have HU3 := Bx.mk (HU1.out.below hb)
        clear hb X1 B2 HU1 y0 y1 y2 y3 y4 y5 yl
        have y0 := X3.out.c (k := 0) rfl
        have y1 := X3.out.c (k := 1) rfl
        have y2 := X3.out.c (k := 2) rfl
        have y3 := X3.out.c (k := 3) rfl
        have y4 := X3.out.c (k := 4) rfl
        have y5 := X3.out.c (k := 5) rfl
        have yl := X3.out.lt
        go_wp2_with (fail)
        refine (cS.out a q3).mono ?_
        rw [hfit]
        rintro e q4 ⟨rfl, hb⟩
        have X4 := Bx.mk (X3.out.below hb)
        have B4 := Bx.mk (B3.out.trans (hb.mono B3.out.size))
        have HU1 := Bx.mk (HU3.out.below hb)
        clear hb X3 B3 HU3 y0 y1 y2 y3 y4 y5 yl
        by_cases hne : a = mi
        · subst hne
          clear X4 cI cS HOK hfit
          go_wp2_with (fail)
          refine (draw_fit (.slice Au m cu) m q4 HU1.out (by omega)).mono ?_
          rintro e t1 ⟨vl, l, mi2, se2, rfl, hl, hdr, hit, hmi2, hse2, hb⟩
          have BT1 := Bx.mk (B4.out.trans (hb.mono B4.out.size))
          obtain ⟨Al, cl, rfl⟩ := its_len hit
          have hsm := dr_sm hl hdr
          have cF := Bx.mk (impl_fittingat (.slice Al l.length cl) l mi2 se2 t1 hit hsm)
          have HIT := Bx.mk hit
          have HSM := Bx.mk hsm
          have HFC := Bx.mk (fit_cases l mi2 se2)
          have HFL := Bx.mk (fitE_len l mi2 se2)
          clear hb hit hsm hdr hmi2 hse2 HU1 B4
          generalize (fitE l mi2 se2).1 = ys at cF HFC HFL
          generalize (fitE l mi2 se2).2 = cc at cF HFC
          go_wp2_with (fail)
          refine cF.out.mono ?_
          rintro e t2 ⟨vr, rfl, ho, hb⟩
          obtain ⟨Ar, cr, rfl⟩ := own_lenD ho
          have HIR := Bx.mk (IntsAt.own ho)
          have HIT2 := Bx.mk (HIT.out.below hb)
          have BT2 := Bx.mk (BT1.out.trans (hb.mono BT1.out.size))
          clear ho hb HIT cF BT1
          rcases HFC.out with ⟨hc, hy⟩ | ⟨rfl, hy, hfit⟩
          · subst hy
            clear HFC
            go_wp2_with (fail)
            go_ret
            exact ⟨rfl, BT2.out⟩
          · have HY := Bx.mk hy
            have HFI := Bx.mk hfit
            have HYl := HFL.out
            clear HFC hfit hy
            go_wp2_with (fail)
            go_loopw [17] (fun i wr => ∃ k : Nat, k ≤ l.length ∧ i = .int .i64 (k : Int) ∧ Bx (Below t2.heap.size t2 wr)) (fun i _ => 20 - (intOf i).toNat)
            case atStart => exact ⟨0, Nat.zero_le _, rfl, Bx.mk (Below.refl _ _)⟩
            case round =>
              obtain ⟨k, hk, rfl, HB⟩ := hrel
              by_cases hlt : k < l.length
              · have k0 : (0 : Int) ≤ (k : Int) := Int.natCast_nonneg _
                have k1 : (k : Int) < (l.length : Int) := by omega
                have hHas : hasB ys (k : Int) = fitsE (iat l k) mi2 se2 := by rw [HY.out, fit_has, HFI.out k hlt]; simp [hlt]
                obtain ⟨bl, ol, cl', hvl, hbl, hcl⟩ := HIT2.out.form (by omega)
                injection hvl with e1 _ e3
                subst e1
                subst e3
                have C0 := (hcl k hlt).below hbl HB.out
                have hbl2 := Nat.lt_of_lt_of_le hbl HB.out.size
                have HIR2 := Bx.mk (HIR.out.below HB.out)
                have hxn : (iat l k).nm.size ≤ maxLen := (HSM.out.x k hlt).n
                generalize iat l k = x at *
                obtain ⟨c0, c1, c2, c3, c4, c5⟩ := C0
                have hq := fun W => spec_fitstime x mi2 se2 W hxn
                unfold itV at hq
                have hp := fun W (h : IntsAt W (.slice Ar ys.length cr) ys) => b10_has (.slice Ar ys.length cr) ys (k : Int) W h (by omega)
                rw [hHas] at hp
                have SS0 : Bx (wr.cell? ⟨bl, ol + k * 6, none⟩ = some (.string x.nm) ∧ wr.cell? ⟨bl, ol + k * 6 + 1, none⟩ = some (.int .i64 x.f) ∧ wr.cell? ⟨bl, ol + k * 6 + 2, none⟩ = some (.int .i64 x.u) ∧ wr.cell? ⟨bl, ol + k * 6 + 3, none⟩ = some (.int .i64 x.s) ∧ wr.cell? ⟨bl, ol + k * 6 + 4, none⟩ = some (.int .i64 x.m) ∧ wr.cell? ⟨bl, ol + k * 6 + 5, none⟩ = some (.int .i64 x.p) ∧ bl < wr.heap.size ∧ IntsAt wr (.slice Ar ys.length cr) ys ∧ Below t2.heap.size t2 wr) := Bx.mk ⟨c0, c1, c2, c3, c4, c5, hbl2, HIR2.out, HB.out⟩
                generalize fitsE x mi2 se2 = B at *
                clear hcl hbl hbl2 HIR2 HB HIT2 HY HFI hHas hxn c0 c1 c2 c3 c4 c5
                cases B
                · have hS := SS0.out
                  go_wp2_with (fail)
                  go_region_held3 (fun W => W.cell? ⟨bl, ol + k * 6, none⟩ = some (.string x.nm) ∧ W.cell? ⟨bl, ol + k * 6 + 1, none⟩ = some (.int .i64 x.f) ∧ W.cell? ⟨bl, ol + k * 6 + 2, none⟩ = some (.int .i64 x.u) ∧ W.cell? ⟨bl, ol + k * 6 + 3, none⟩ = some (.int .i64 x.s) ∧ W.cell? ⟨bl, ol + k * 6 + 4, none⟩ = some (.int .i64 x.m) ∧ W.cell? ⟨bl, ol + k * 6 + 5, none⟩ = some (.int .i64 x.p) ∧ bl < W.heap.size ∧ IntsAt W (.slice Ar ys.length cr) ys ∧ Below t2.heap.size t2 W)
                    (first | (with_reducible exact keepH (by assumption) hb4) | (with_reducible exact keepH (by assumption) (Below.refl _ _)) | (with_reducible exact keepH (by assumption) (Below.refl _ _).drew) | exact keepH SS0.out (Below.refl _ _).drew)
                    (first | (go_at_call 12; (with_reducible refine (hp _ (rowH (by assumption))).mono ?_); rintro r w4 ⟨rfl, rfl⟩) | (go_at_call 8; (with_reducible refine (hq _).mono ?_); rintro r w4 ⟨rfl, hb4⟩; have hS0 := keepH (by assumption) hb4))
                  all_goals
                    have SS : _ ∧ _ ∧ _ ∧ _ ∧ _ ∧ _ ∧ _ ∧ _ ∧ _ := (by assumption)
                    have SB := Bx.mk (belH SS)
                    clear SS
                    try clear hS
                    go_wp2_with (fail)
                    go_roundw
                    case rel => exact ⟨k + 1, by omega, by go_num, SB⟩
                    case measure => simp [intOf]; omega
                · have hS := SS0.out
                  go_wp2_with (fail)
                  go_region_held3 (fun W => W.cell? ⟨bl, ol + k * 6, none⟩ = some (.string x.nm) ∧ W.cell? ⟨bl, ol + k * 6 + 1, none⟩ = some (.int .i64 x.f) ∧ W.cell? ⟨bl, ol + k * 6 + 2, none⟩ = some (.int .i64 x.u) ∧ W.cell? ⟨bl, ol + k * 6 + 3, none⟩ = some (.int .i64 x.s) ∧ W.cell? ⟨bl, ol + k * 6 + 4, none⟩ = some (.int .i64 x.m) ∧ W.cell? ⟨bl, ol + k * 6 + 5, none⟩ = some (.int .i64 x.p) ∧ bl < W.heap.size ∧ IntsAt W (.slice Ar ys.length cr) ys ∧ Below t2.heap.size t2 W)
                    (first | (with_reducible exact keepH (by assumption) hb4) | (with_reducible exact keepH (by assumption) (Below.refl _ _)) | (with_reducible exact keepH (by assumption) (Below.refl _ _).drew) | exact keepH SS0.out (Below.refl _ _).drew)
                    (first | (go_at_call 12; (with_reducible refine (hp _ (rowH (by assumption))).mono ?_); rintro r w4 ⟨rfl, rfl⟩) | (go_at_call 8; (with_reducible refine (hq _).mono ?_); rintro r w4 ⟨rfl, hb4⟩; have hS0 := keepH (by assumption) hb4))
                  all_goals
                    have SS : _ ∧ _ ∧ _ ∧ _ ∧ _ ∧ _ ∧ _ ∧ _ ∧ _ := (by assumption)
                    have SB := Bx.mk (belH SS)
                    clear SS
                    try clear hS
                    go_wp2_with (fail)
                    go_roundw
                    case rel => exact ⟨k + 1, by omega, by go_num, SB⟩
                    case measure => simp [intOf]; omega
              · obtain rfl : k = l.length := by omega
                have cR := Bx.mk (b10_rises (.slice Ar ys.length cr) ys l.length wr (HIR.out.below HB.out) (by omega) (Bx.mk (by rw [HY.out]; exact fun i hi => fit_at _ _ i hi)) (Bx.mk (by rw [HY.out]; exact fun i hi => fit_up _ _ i hi)))
                have BW := Bx.mk (BT2.out.trans (HB.out.mono BT2.out.size))
                go_wp2_with (fail)
                refine cR.out.mono ?_
                rintro e t4 ⟨rfl, hb⟩
                have BZ := Bx.mk (BW.out.trans (hb.mono BW.out.size))
                clear hb
                go_wp2_with (fail)
                go_ret
                exact ⟨rfl, BZ.out⟩
        · have hn0 := HOK.out.rng
          have hn1 := HOK.out.bmi
          have hne1 : (a == mi) = false := by simpa using hne
          have hne2 : (a != mi) = true := by simpa using hne
          go_wp2_with (fail)
          refine (b10_at (.slice Au m cu) m 0 1440 q4 HU1.out (by omega) (by omega) (by omega)).mono ?_
          rintro e w' ⟨⟨y, rfl, hy0, hy1⟩, rfl⟩
          have e1 : IntKind.i64.wrap (mi + y) = mi + y := IntWalk.i64_in _ (by omega)
          have e2 : (mi + y).tmod 1440 = (mi + y) % 1440 := Int.tmod_eq_emod_of_nonneg (by omega)
          have e3 : IntKind.i64.wrap ((mi + y) % 1440) = (mi + y) % 1440 := IntWalk.i64_in _ (by omega)
          have e4 : IntKind.i64.wrap (a - mi) = a - mi := IntWalk.i64_in _ (by omega)
          have e5 : IntKind.i64.wrap (a - mi + 1440) = a - mi + 1440 := IntWalk.i64_in _ (by omega)
          have e6 : (a - mi + 1440).tmod 1440 = (a - mi + 1440) % 1440 := Int.tmod_eq_emod_of_nonneg (by omega)
          have e7 : IntKind.i64.wrap ((a - mi + 1440) % 1440) = (a - mi + 1440) % 1440 := IntWalk.i64_in _ (by omega)
          by_cases hlt : y < (a - mi + 1440) % 1440
          · have hno := late_no HOK.out hne ⟨hy0, hlt⟩
            have y0 := X4.out.c (k := 0) rfl
            have y1 := X4.out.c (k := 1) rfl
            have y2 := X4.out.c (k := 2) rfl
            have y3 := X4.out.c (k := 3) rfl
            have y4 := X4.out.c (k := 4) rfl
            have y5 := X4.out.c (k := 5) rfl
            have yl := X4.out.lt
            go_wp2_with (fail)
            refine (cS.out ((mi + y) % 1440) q4).mono ?_
            rw [hno]
            rintro e q5 ⟨rfl, hb⟩
            have B5 := Bx.mk (B4.out.trans (hb.mono B4.out.size))
            have HU5 := Bx.mk (HU1.out.below hb)
            clear hb X4 B4 HU1 y0 y1 y2 y3 y4 y5 yl cI cS HOK hfit e1 e2 e3 e4 e5 e6 e7 hno
            have HU1 := HU5
            clear HU5
            go_wp2_with (fail)
            refine (draw_fit (.slice Au m cu) m q5 HU1.out (by omega)).mono ?_
            rintro e t1 ⟨vl, l, mi2, se2, rfl, hl, hdr, hit, hmi2, hse2, hb⟩
            have BT1 := Bx.mk (B5.out.trans (hb.mono B5.out.size))
            obtain ⟨Al, cl, rfl⟩ := its_len hit
            have hsm := dr_sm hl hdr
            have cF := Bx.mk (impl_fittingat (.slice Al l.length cl) l mi2 se2 t1 hit hsm)
            have HIT := Bx.mk hit
            have HSM := Bx.mk hsm
            have HFC := Bx.mk (fit_cases l mi2 se2)
            have HFL := Bx.mk (fitE_len l mi2 se2)
            clear hb hit hsm hdr hmi2 hse2 HU1 B5
            generalize (fitE l mi2 se2).1 = ys at cF HFC HFL
            generalize (fitE l mi2 se2).2 = cc at cF HFC
            go_wp2_with (fail)
            refine cF.out.mono ?_
            rintro e t2 ⟨vr, rfl, ho, hb⟩
            obtain ⟨Ar, cr, rfl⟩ := own_lenD ho
            have HIR := Bx.mk (IntsAt.own ho)
            have HIT2 := Bx.mk (HIT.out.below hb)
            have BT2 := Bx.mk (BT1.out.trans (hb.mono BT1.out.size))
            clear ho hb HIT cF BT1
            rcases HFC.out with ⟨hc, hy⟩ | ⟨rfl, hy, hfit⟩
            · subst hy
              clear HFC
              go_wp2_with (fail)
              go_ret
              exact ⟨rfl, BT2.out⟩
            · have HY := Bx.mk hy
              have HFI := Bx.mk hfit
              have HYl := HFL.out
              clear HFC hfit hy
              go_wp2_with (fail)
              go_loopw [17] (fun i wr => ∃ k : Nat, k ≤ l.length ∧ i = .int .i64 (k : Int) ∧ Bx (Below t2.heap.size t2 wr)) (fun i _ => 20 - (intOf i).toNat)
              case atStart => exact ⟨0, Nat.zero_le _, rfl, Bx.mk (Below.refl _ _)⟩
              case round =>
                obtain ⟨k, hk, rfl, HB⟩ := hrel
                by_cases hlt : k < l.length
                · have k0 : (0 : Int) ≤ (k : Int) := Int.natCast_nonneg _
                  have k1 : (k : Int) < (l.length : Int) := by omega
                  have hHas : hasB ys (k : Int) = fitsE (iat l k) mi2 se2 := by rw [HY.out, fit_has, HFI.out k hlt]; simp [hlt]
                  obtain ⟨bl, ol, cl', hvl, hbl, hcl⟩ := HIT2.out.form (by omega)
                  injection hvl with e1 _ e3
                  subst e1
                  subst e3
                  have C0 := (hcl k hlt).below hbl HB.out
                  have hbl2 := Nat.lt_of_lt_of_le hbl HB.out.size
                  have HIR2 := Bx.mk (HIR.out.below HB.out)
                  have hxn : (iat l k).nm.size ≤ maxLen := (HSM.out.x k hlt).n
                  generalize iat l k = x at *
                  obtain ⟨c0, c1, c2, c3, c4, c5⟩ := C0
                  have hq := fun W => spec_fitstime x mi2 se2 W hxn
                  unfold itV at hq
                  have hp := fun W (h : IntsAt W (.slice Ar ys.length cr) ys) => b10_has (.slice Ar ys.length cr) ys (k : Int) W h (by omega)
                  rw [hHas] at hp
                  have SS0 : Bx (wr.cell? ⟨bl, ol + k * 6, none⟩ = some (.string x.nm) ∧ wr.cell? ⟨bl, ol + k * 6 + 1, none⟩ = some (.int .i64 x.f) ∧ wr.cell? ⟨bl, ol + k * 6 + 2, none⟩ = some (.int .i64 x.u) ∧ wr.cell? ⟨bl, ol + k * 6 + 3, none⟩ = some (.int .i64 x.s) ∧ wr.cell? ⟨bl, ol + k * 6 + 4, none⟩ = some (.int .i64 x.m) ∧ wr.cell? ⟨bl, ol + k * 6 + 5, none⟩ = some (.int .i64 x.p) ∧ bl < wr.heap.size ∧ IntsAt wr (.slice Ar ys.length cr) ys ∧ Below t2.heap.size t2 wr) := Bx.mk ⟨c0, c1, c2, c3, c4, c5, hbl2, HIR2.out, HB.out⟩
                  generalize fitsE x mi2 se2 = B at *
                  clear hcl hbl hbl2 HIR2 HB HIT2 HY HFI hHas hxn c0 c1 c2 c3 c4 c5
                  cases B
                  · have hS := SS0.out
                    go_wp2_with (fail)
                    go_region_held3 (fun W => W.cell? ⟨bl, ol + k * 6, none⟩ = some (.string x.nm) ∧ W.cell? ⟨bl, ol + k * 6 + 1, none⟩ = some (.int .i64 x.f) ∧ W.cell? ⟨bl, ol + k * 6 + 2, none⟩ = some (.int .i64 x.u) ∧ W.cell? ⟨bl, ol + k * 6 + 3, none⟩ = some (.int .i64 x.s) ∧ W.cell? ⟨bl, ol + k * 6 + 4, none⟩ = some (.int .i64 x.m) ∧ W.cell? ⟨bl, ol + k * 6 + 5, none⟩ = some (.int .i64 x.p) ∧ bl < W.heap.size ∧ IntsAt W (.slice Ar ys.length cr) ys ∧ Below t2.heap.size t2 W)
                      (first | (with_reducible exact keepH (by assumption) hb4) | (with_reducible exact keepH (by assumption) (Below.refl _ _)) | (with_reducible exact keepH (by assumption) (Below.refl _ _).drew) | exact keepH SS0.out (Below.refl _ _).drew)
                      (first | (go_at_call 12; (with_reducible refine (hp _ (rowH (by assumption))).mono ?_); rintro r w4 ⟨rfl, rfl⟩) | (go_at_call 8; (with_reducible refine (hq _).mono ?_); rintro r w4 ⟨rfl, hb4⟩; have hS0 := keepH (by assumption) hb4))
                    all_goals
                      have SS : _ ∧ _ ∧ _ ∧ _ ∧ _ ∧ _ ∧ _ ∧ _ ∧ _ := (by assumption)
                      have SB := Bx.mk (belH SS)
                      clear SS
                      try clear hS
                      go_wp2_with (fail)
                      go_roundw
                      case rel => exact ⟨k + 1, by omega, by go_num, SB⟩
                      case measure => simp [intOf]; omega
                  · have hS := SS0.out
                    go_wp2_with (fail)
                    go_region_held3 (fun W => W.cell? ⟨bl, ol + k * 6, none⟩ = some (.string x.nm) ∧ W.cell? ⟨bl, ol + k * 6 + 1, none⟩ = some (.int .i64 x.f) ∧ W.cell? ⟨bl, ol + k * 6 + 2, none⟩ = some (.int .i64 x.u) ∧ W.cell? ⟨bl, ol + k * 6 + 3, none⟩ = some (.int .i64 x.s) ∧ W.cell? ⟨bl, ol + k * 6 + 4, none⟩ = some (.int .i64 x.m) ∧ W.cell? ⟨bl, ol + k * 6 + 5, none⟩ = some (.int .i64 x.p) ∧ bl < W.heap.size ∧ IntsAt W (.slice Ar ys.length cr) ys ∧ Below t2.heap.size t2 W)
                      (first | (with_reducible exact keepH (by assumption) hb4) | (with_reducible exact keepH (by assumption) (Below.refl _ _)) | (with_reducible exact keepH (by assumption) (Below.refl _ _).drew) | exact keepH SS0.out (Below.refl _ _).drew)
                      (first | (go_at_call 12; (with_reducible refine (hp _ (rowH (by assumption))).mono ?_); rintro r w4 ⟨rfl, rfl⟩) | (go_at_call 8; (with_reducible refine (hq _).mono ?_); rintro r w4 ⟨rfl, hb4⟩; have hS0 := keepH (by assumption) hb4))
                    all_goals
                      have SS : _ ∧ _ ∧ _ ∧ _ ∧ _ ∧ _ ∧ _ ∧ _ ∧ _ := (by assumption)
                      have SB := Bx.mk (belH SS)
                      clear SS
                      try clear hS
                      go_wp2_with (fail)
                      go_roundw
                      case rel => exact ⟨k + 1, by omega, by go_num, SB⟩
                      case measure => simp [intOf]; omega
                · obtain rfl : k = l.length := by omega
                  have cR := Bx.mk (b10_rises (.slice Ar ys.length cr) ys l.length wr (HIR.out.below HB.out) (by omega) (Bx.mk (by rw [HY.out]; exact fun i hi => fit_at _ _ i hi)) (Bx.mk (by rw [HY.out]; exact fun i hi => fit_up _ _ i hi)))
                  have BW := Bx.mk (BT2.out.trans (HB.out.mono BT2.out.size))
                  go_wp2_with (fail)
                  refine cR.out.mono ?_
                  rintro e t4 ⟨rfl, hb⟩
                  have BZ := Bx.mk (BW.out.trans (hb.mono BW.out.size))
                  clear hb
                  go_wp2_with (fail)
                  go_ret
                  exact ⟨rfl, BZ.out⟩
          · have hlt1 : decide (y < (a - mi + 1440) % 1440) = false := decide_eq_false hlt
            go_wp2_with (fail)
            clear X4 cI cS HOK hfit e1 e2 e3 e4 e5 e6 e7
            refine (draw_fit (.slice Au m cu) m q4 HU1.out (by omega)).mono ?_
            rintro e t1 ⟨vl, l, mi2, se2, rfl, hl, hdr, hit, hmi2, hse2, hb⟩
            have BT1 := Bx.mk (B4.out.trans (hb.mono B4.out.size))
            obtain ⟨Al, cl, rfl⟩ := its_len hit
            have hsm := dr_sm hl hdr
            have cF := Bx.mk (impl_fittingat (.slice Al l.length cl) l mi2 se2 t1 hit hsm)
            have HIT := Bx.mk hit
            have HSM := Bx.mk hsm
            have HFC := Bx.mk (fit_cases l mi2 se2)
            have HFL := Bx.mk (fitE_len l mi2 se2)
            clear hb hit hsm hdr hmi2 hse2 HU1 B4
            generalize (fitE l mi2 se2).1 = ys at cF HFC HFL
            generalize (fitE l mi2 se2).2 = cc at cF HFC
            go_wp2_with (fail)
            refine cF.out.mono ?_
            rintro e t2 ⟨vr, rfl, ho, hb⟩
            obtain ⟨Ar, cr, rfl⟩ := own_lenD ho
            have HIR := Bx.mk (IntsAt.own ho)
            have HIT2 := Bx.mk (HIT.out.below hb)
            have BT2 := Bx.mk (BT1.out.trans (hb.mono BT1.out.size))
            clear ho hb HIT cF BT1
            rcases HFC.out with ⟨hc, hy⟩ | ⟨rfl, hy, hfit⟩
            · subst hy
              clear HFC
              go_wp2_with (fail)
              go_ret
              exact ⟨rfl, BT2.out⟩
            · have HY := Bx.mk hy
              have HFI := Bx.mk hfit
              have HYl := HFL.out
              clear HFC hfit hy
              go_wp2_with (fail)
              go_loopw [17] (fun i wr => ∃ k : Nat, k ≤ l.length ∧ i = .int .i64 (k : Int) ∧ Bx (Below t2.heap.size t2 wr)) (fun i _ => 20 - (intOf i).toNat)
              case atStart => exact ⟨0, Nat.zero_le _, rfl, Bx.mk (Below.refl _ _)⟩
              case round =>
                obtain ⟨k, hk, rfl, HB⟩ := hrel
                by_cases hlt : k < l.length
                · have k0 : (0 : Int) ≤ (k : Int) := Int.natCast_nonneg _
                  have k1 : (k : Int) < (l.length : Int) := by omega
                  have hHas : hasB ys (k : Int) = fitsE (iat l k) mi2 se2 := by rw [HY.out, fit_has, HFI.out k hlt]; simp [hlt]
                  obtain ⟨bl, ol, cl', hvl, hbl, hcl⟩ := HIT2.out.form (by omega)
                  injection hvl with e1 _ e3
                  subst e1
                  subst e3
                  have C0 := (hcl k hlt).below hbl HB.out
                  have hbl2 := Nat.lt_of_lt_of_le hbl HB.out.size
                  have HIR2 := Bx.mk (HIR.out.below HB.out)
                  have hxn : (iat l k).nm.size ≤ maxLen := (HSM.out.x k hlt).n
                  generalize iat l k = x at *
                  obtain ⟨c0, c1, c2, c3, c4, c5⟩ := C0
                  have hq := fun W => spec_fitstime x mi2 se2 W hxn
                  unfold itV at hq
                  have hp := fun W (h : IntsAt W (.slice Ar ys.length cr) ys) => b10_has (.slice Ar ys.length cr) ys (k : Int) W h (by omega)
                  rw [hHas] at hp
                  have SS0 : Bx (wr.cell? ⟨bl, ol + k * 6, none⟩ = some (.string x.nm) ∧ wr.cell? ⟨bl, ol + k * 6 + 1, none⟩ = some (.int .i64 x.f) ∧ wr.cell? ⟨bl, ol + k * 6 + 2, none⟩ = some (.int .i64 x.u) ∧ wr.cell? ⟨bl, ol + k * 6 + 3, none⟩ = some (.int .i64 x.s) ∧ wr.cell? ⟨bl, ol + k * 6 + 4, none⟩ = some (.int .i64 x.m) ∧ wr.cell? ⟨bl, ol + k * 6 + 5, none⟩ = some (.int .i64 x.p) ∧ bl < wr.heap.size ∧ IntsAt wr (.slice Ar ys.length cr) ys ∧ Below t2.heap.size t2 wr) := Bx.mk ⟨c0, c1, c2, c3, c4, c5, hbl2, HIR2.out, HB.out⟩
                  generalize fitsE x mi2 se2 = B at *
                  clear hcl hbl hbl2 HIR2 HB HIT2 HY HFI hHas hxn c0 c1 c2 c3 c4 c5
                  cases B
                  · have hS := SS0.out
                    go_wp2_with (fail)
                    go_region_held3 (fun W => W.cell? ⟨bl, ol + k * 6, none⟩ = some (.string x.nm) ∧ W.cell? ⟨bl, ol + k * 6 + 1, none⟩ = some (.int .i64 x.f) ∧ W.cell? ⟨bl, ol + k * 6 + 2, none⟩ = some (.int .i64 x.u) ∧ W.cell? ⟨bl, ol + k * 6 + 3, none⟩ = some (.int .i64 x.s) ∧ W.cell? ⟨bl, ol + k * 6 + 4, none⟩ = some (.int .i64 x.m) ∧ W.cell? ⟨bl, ol + k * 6 + 5, none⟩ = some (.int .i64 x.p) ∧ bl < W.heap.size ∧ IntsAt W (.slice Ar ys.length cr) ys ∧ Below t2.heap.size t2 W)
                      (first | (with_reducible exact keepH (by assumption) hb4) | (with_reducible exact keepH (by assumption) (Below.refl _ _)) | (with_reducible exact keepH (by assumption) (Below.refl _ _).drew) | exact keepH SS0.out (Below.refl _ _).drew)
                      (first | (go_at_call 12; (with_reducible refine (hp _ (rowH (by assumption))).mono ?_); rintro r w4 ⟨rfl, rfl⟩) | (go_at_call 8; (with_reducible refine (hq _).mono ?_); rintro r w4 ⟨rfl, hb4⟩; have hS0 := keepH (by assumption) hb4))
                    all_goals
                      have SS : _ ∧ _ ∧ _ ∧ _ ∧ _ ∧ _ ∧ _ ∧ _ ∧ _ := (by assumption)
                      have SB := Bx.mk (belH SS)
                      clear SS
                      try clear hS
                      go_wp2_with (fail)
                      go_roundw
                      case rel => exact ⟨k + 1, by omega, by go_num, SB⟩
                      case measure => simp [intOf]; omega
                  · have hS := SS0.out
                    go_wp2_with (fail)
                    go_region_held3 (fun W => W.cell? ⟨bl, ol + k * 6, none⟩ = some (.string x.nm) ∧ W.cell? ⟨bl, ol + k * 6 + 1, none⟩ = some (.int .i64 x.f) ∧ W.cell? ⟨bl, ol + k * 6 + 2, none⟩ = some (.int .i64 x.u) ∧ W.cell? ⟨bl, ol + k * 6 + 3, none⟩ = some (.int .i64 x.s) ∧ W.cell? ⟨bl, ol + k * 6 + 4, none⟩ = some (.int .i64 x.m) ∧ W.cell? ⟨bl, ol + k * 6 + 5, none⟩ = some (.int .i64 x.p) ∧ bl < W.heap.size ∧ IntsAt W (.slice Ar ys.length cr) ys ∧ Below t2.heap.size t2 W)
                      (first | (with_reducible exact keepH (by assumption) hb4) | (with_reducible exact keepH (by assumption) (Below.refl _ _)) | (with_reducible exact keepH (by assumption) (Below.refl _ _).drew) | exact keepH SS0.out (Below.refl _ _).drew)
                      (first | (go_at_call 12; (with_reducible refine (hp _ (rowH (by assumption))).mono ?_); rintro r w4 ⟨rfl, rfl⟩) | (go_at_call 8; (with_reducible refine (hq _).mono ?_); rintro r w4 ⟨rfl, hb4⟩; have hS0 := keepH (by assumption) hb4))
                    all_goals
                      have SS : _ ∧ _ ∧ _ ∧ _ ∧ _ ∧ _ ∧ _ ∧ _ ∧ _ := (by assumption)
                      have SB := Bx.mk (belH SS)
                      clear SS
                      try clear hS
                      go_wp2_with (fail)
                      go_roundw
                      case rel => exact ⟨k + 1, by omega, by go_num, SB⟩
                      case measure => simp [intOf]; omega
                · obtain rfl : k = l.length := by omega
                  have cR := Bx.mk (b10_rises (.slice Ar ys.length cr) ys l.length wr (HIR.out.below HB.out) (by omega) (Bx.mk (by rw [HY.out]; exact fun i hi => fit_at _ _ i hi)) (Bx.mk (by rw [HY.out]; exact fun i hi => fit_up _ _ i hi)))
                  have BW := Bx.mk (BT2.out.trans (HB.out.mono BT2.out.size))
                  go_wp2_with (fail)
                  refine cR.out.mono ?_
                  rintro e t4 ⟨rfl, hb⟩
                  have BZ := Bx.mk (BW.out.trans (hb.mono BW.out.size))
                  clear hb
                  go_wp2_with (fail)
                  go_ret
                  exact ⟨rfl, BZ.out⟩
    · go_wp2_with (fail)
      go_ret
      exact ⟨rfl, Below.refl _ _⟩
  · go_wp2_with (fail)
    go_ret
    exact ⟨rfl, Below.refl _ _⟩

theorem own : ownKnob Try.prog.godebug = none := by kernel_rfl
theorem laidOut : laidOutB Try.prog = true := by kernel_rfl

set_option maxRecDepth 100000 in
theorem lifted (os : Os) (started : os.Started) (H : Type) (enc : TypeId × Value → H) :
    ReturnsInHanded {} Try.checked os 3 .any (Rows.fnHoursSpec.pre6 enc Try.prog Try.f3 Rows.fnHoursRow.domain false) (Rows.fnHoursSpec.post enc Try.prog Try.f3 false true false false) := by
  refine returnsInHanded_of_change (C := Try.checked) own started (by kernel_rfl) Try.func3
    (ChangeSpec.witness6 (enc := enc) (C := Try.checked) false ⟨#[], #[.slice none 0 0, .slice none 0 0], []⟩ 8 (by kernel_rfl) (by kernel_rfl) (by kernel_rfl) (by kernel_rfl)) ?_
  intro W base args ds gs before hval0 hW hcnd _
  have hval : ∀ (j : Nat) t v, Try.f3.params[j]? = some t → args[j]? = some v → Value.okWide Try.prog W .any base t v := hval0
  have hW' := hW
  obtain ⟨p, q, hA0, hV, rfl, hfz, hnd⟩ := hW
  have hA : DataW.TrodAll enc Try.prog W 0 (fun _ => true) true Try.f3.params.toList args.toList ds p := hA0
  rw [Try.params3] at hA hval
  obtain ⟨v0, vs0, d0, ds0, p0, q0, hargs, rfl, rfl, h0, r0⟩ := trodAll_cons hA
  obtain ⟨v1, vs1, d1, ds1, p1, q1, rfl, rfl, rfl, h1, r1⟩ := trodAll_cons r0
  obtain ⟨rfl, rfl, rfl⟩ := trodAll_nil r1
  obtain rfl : args = #[v0, v1] := by cases args; simp_all
  obtain ⟨rfl, rfl⟩ := trodVars_none hV
  obtain ⟨n0, w0⟩ := arg_bytes (hval 0 22 v0 rfl rfl) h0 (fun x hx => hW'.lt x (by simp [hx]))
  obtain ⟨n1, w1⟩ := arg_bytes (hval 1 22 v1 rfl rfl) h1 (fun x hx => hW'.lt x (by simp [hx]))
  clear hA0 hval0
  refine (walk v0 n0 w0 v1 n1 w1).mono fun e W' ⟨he, hb⟩ => ?_
  subst he
  exact ⟨_, rfl, post_law laidOut (by kernel_rfl) (by kernel_rfl) Try.underlying4 rfl hW' rfl hb⟩

theorem closed : joinedFacts Try.pinned.checked.prog 3 Try.f3 Rows.fnHoursSpec Rows.fnHoursRow = true := by
  unfold joinedFacts
  rw [may, lifts, made]
  kernel_rfl
theorem over : Rows.fnHoursRow.holds Try.pinned (OpenSpec.ofChange Rows.fnHoursSpec) :=
  OpenClaim.holds_of_wide 3 Try.f3 rfl rfl rfl rfl rfl rfl rfl ⟨rfl, rfl, rfl, rfl, rfl⟩ rfl rfl rfl rfl rfl (by kernel_rfl) Try.func3 closed
    (of_decide_eq_true (by kernel_rfl)) (by unfold Func.isWrapper; first | (rw [if_pos (by decide +kernel)]; kernel_rfl) | (rw [if_neg (by decide +kernel)]; exact ⟨rfl, rfl⟩))
    (fun os started H enc _ => lifted os started H enc)

theorem proved : Rows.FnHoursSaid := over
#print axioms proved
end Go.Proofs.Ytidblpamolimpaa.fnHours
