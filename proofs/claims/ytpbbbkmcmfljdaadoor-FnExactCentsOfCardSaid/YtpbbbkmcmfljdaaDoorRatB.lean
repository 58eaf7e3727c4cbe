/- The model's BestRatio. -/
import Derived.Test.YtpbbbkmcmfljdaaDoorRatP
namespace Go.Proofs.YtpbbbkmcmfljdaaDoor
open Go.ChangeShapes Go.WideShapes Go.ChangeAt Go.RowKit
set_option linter.unusedVariables false
set_option linter.unusedSimpArgs false
set_option maxRecDepth 100000

theorem spec_max (a b : Int) (w : World) : Calls Tryd.prog 60 #[.int .i64 a, .int .i64 b] w fun e w' => e = .returned (.int .i64 (max a b)) ∧ w = w' := by
  by_cases h : b < a
  · have H := Bx.mk (show max a b = a by omega)
    go_enter Tryd.func60, Tryd.ntmps60
    go_wp2
    go_ret
    exact ⟨ret_int H.out.symm, rfl⟩
  · have H := Bx.mk (show max a b = b by omega)
    go_enter Tryd.func60, Tryd.ntmps60
    go_wp2
    go_ret
    exact ⟨ret_int H.out.symm, rfl⟩
theorem cents_bd {n d : Int} (hn : 1 ≤ n ∧ n ≤ 1000000) (hd : 1 ≤ d ∧ d ≤ 1000000) : -400000000000 ≤ centsZ n d ∧ centsZ n d ≤ 400000000000 := by
  have HP := octN_spec hn.1 hd.1
  unfold centsZ
  generalize octN n d = t at HP ⊢
  obtain ⟨num, den, kk⟩ := t
  obtain ⟨⟨p1, p2⟩, ⟨p3, p4⟩, p5, p6⟩ := octP_bd HP hn hd
  simp only at p1 p2 p3 p4 p5 p6
  obtain ⟨i, hi, i1, i2, i3⟩ := part_index p1 p3 p4
  obtain ⟨t1, t2, t3⟩ := tab_bd i i1
  simp only [centP]
  rw [hi]
  simp only [Int.toNat_natCast]
  generalize tabZ i = x at *
  generalize tabZ (i + 1) = y at *
  have hm : 0 ≤ (y - x) * (32 * (num - den) - i * den) ∧ (y - x) * (32 * (num - den) - i * den) ≤ 120000 * 1000000 := ⟨Int.mul_nonneg (by omega) i2, Int.mul_le_mul (by omega) (by omega) i2 (by omega)⟩
  have hdv := dv_in ((y - x) * (32 * (num - den) - i * den)) den 120000000000 (by omega) (by omega) (by omega)
  omega
/-- the better of the best one so far (less than 0: none) and another one -/
noncomputable def bestStep (c : Int) (s : Int × Int × Int) (num den : Int) : Int × Int × Int :=
  if gz num den = 1 then (if s.2.2 < 0 ∨ max (centsZ num den - c) (c - centsZ num den) < s.2.2 then (num, den, max (centsZ num den - c) (c - centsZ num den)) else s) else s
noncomputable def bestRow (c den : Int) (s : Int × Int × Int) : Nat → Int × Int × Int
  | 0 => s
  | j + 1 => bestStep c (bestRow c den s j) (den + j) den
noncomputable def bestAll (c : Int) : Nat → Int × Int × Int
  | 0 => (0, 0, -1)
  | k + 1 => bestRow c (k + 1) (bestAll c k) (k + 2)
noncomputable def bestE (c m : Int) : (Int × Int) × Int × Int := if (inB c 0 120000 && inB m 1 64) = true then (((bestAll c m.toNat).1, (bestAll c m.toNat).2.1), (bestAll c m.toNat).2.2, 0) else ((0, 0), 0, 2)
def BestRel (s : Int × Int × Int) (l : Value) (w wr : World) : Prop := l = .int .i64 s.2.2 ∧ (-1 ≤ s.2.2 ∧ s.2.2 ≤ 500000000000) ∧ Below w.heap.size w wr ∧ PairAt wr w.heap.size 0 0 ∧ PairAt wr (w.heap.size + 1) s.1 s.2.1
def OutRel (c m : Int) (w : World) (den l : Value) (wr : World) : Prop := ∃ k : Nat, den = .int .i64 ((k : Int) + 1) ∧ (k : Int) ≤ m ∧ BestRel (bestAll c k) l w wr
def InRel (c : Int) (k : Nat) (w : World) (num l : Value) (wr : World) : Prop := ∃ j : Nat, num = .int .i64 ((k : Int) + 1 + j) ∧ j ≤ k + 2 ∧ BestRel (bestRow c (k + 1) (bestAll c k) j) l w wr
set_option maxHeartbeats 2000000 in
theorem spec_best (c m : Int) (w : World) : Calls Tryd.prog 31 #[.int .i64 c, .int .i64 m] w (OctEOut (bestE c m) w) := by
  have hp0 := fun W => in_any c 0 120000 W
  have hp1 := fun W => in_any m 1 64 W
  cases hn : inB c 0 120000
  · have HE : Bx (bestE c m = ((0, 0), 0, 2)) := Bx.mk (by simp [bestE, hn])
    simp only [hn] at hp0
    clear hn
    go_enter Tryd.func31, Tryd.ntmps31
    go_wp2_with (fail)
    refine (hp0 _).mono ?_
    rintro r w' ⟨rfl, rfl⟩
    go_wp2_with (fail)
    go_returns
    refine octe_out HE.out ?_
    repeat' (first | (with_reducible exact Below.refl _ _) | (with_reducible assumption) | (with_reducible refine Below.alloc ?_ ?_ _) | (with_reducible refine below_draws ?_ _) | (with_reducible refine Below.setCell ?_ ?_ _) | go_size)
  · cases hm : inB m 1 64
    · have HE : Bx (bestE c m = ((0, 0), 0, 2)) := Bx.mk (by simp [bestE, hm])
      simp only [hn] at hp0
      simp only [hm] at hp1
      clear hn hm
      go_enter Tryd.func31, Tryd.ntmps31
      go_wp2_with (fail)
      refine (hp0 _).mono ?_
      rintro r w' ⟨rfl, rfl⟩
      go_wp2_with (fail)
      refine (hp1 _).mono ?_
      rintro r w' ⟨rfl, rfl⟩
      go_wp2_with (fail)
      go_returns
      refine octe_out HE.out ?_
      repeat' (first | (with_reducible exact Below.refl _ _) | (with_reducible assumption) | (with_reducible refine Below.alloc ?_ ?_ _) | (with_reducible refine below_draws ?_ _) | (with_reducible refine Below.setCell ?_ ?_ _) | go_size)
    · have HE : Bx (bestE c m = (((bestAll c m.toNat).1, (bestAll c m.toNat).2.1), (bestAll c m.toNat).2.2, 0)) := Bx.mk (by simp [bestE, hn, hm])
      obtain ⟨c1, c2⟩ := inB_yes hn
      obtain ⟨m1, m2⟩ := inB_yes hm
      simp only [hn] at hp0
      simp only [hm] at hp1
      clear hn hm
      go_enter Tryd.func31, Tryd.ntmps31
      go_wp2_with (fail)
      refine (hp0 _).mono ?_
      rintro r w' ⟨rfl, rfl⟩
      go_wp2_with (fail)
      refine (hp1 _).mono ?_
      rintro r w' ⟨rfl, rfl⟩
      clear hp0 hp1
      go_wp2_with (fail)
      go_loopw [9, 8] (fun x y wr => OutRel c m w x y wr) (fun x _ _ => (m + 1 - intOf x).toNat)
      case atStart =>
        refine ⟨0, rfl, by omega, rfl, by simp [bestAll], ?_, ?_, ?_⟩
        · repeat' (first | (with_reducible exact Below.refl _ _) | (with_reducible assumption) | (with_reducible refine Below.alloc ?_ ?_ _) | (with_reducible refine below_draws ?_ _) | (with_reducible refine Below.setCell ?_ ?_ _) | go_size)
        · exact (PairAt.new w 0 0).alloc _
        · exact PairAt.at _ _ 0 0 (by simp)
      case round =>
        obtain ⟨k, rfl, hk, rfl, ⟨l1, l2⟩, hb, h4, h7⟩ := hrel
        have HB := Bx.mk hb
        have H4 := Bx.mk h4
        have H7 := Bx.mk h7
        clear hb
        have c0 := h4.c0
        have c1 := h4.c1
        have d0 := h7.c0
        have d1 := h7.c1
        have f0 := h4.f0 0
        have f1 := h4.f0 1
        clear h4 h7
        by_cases hlt : (k : Int) + 1 ≤ m
        · clear c0 c1 d0 d1 f0 f1
          go_wp2_with (fail)
          go_loopw [10, 8] (fun x y wr => InRel c k w x y wr) (fun x _ _ => (2 * (k : Int) + 3 - intOf x).toNat)
          case atStart => exact ⟨0, by go_num, by omega, rfl, ⟨l1, l2⟩, HB.out, H4.out, H7.out⟩
          case round =>
            clear H4 H7 HB
            obtain ⟨j, rfl, hj, rfl, ⟨k1, k2⟩, hb, h4, h7⟩ := hrel
            generalize hs : bestRow c (k + 1) (bestAll c k) j = s at *
            have HS := Bx.mk hs
            clear hs
            by_cases hlt2 : j < k + 2
            · have HST : Bx (bestRow c (k + 1) (bestAll c k) (j + 1) = bestStep c s (k + 1 + j) (k + 1)) := Bx.mk (by rw [bestRow, HS.out])
              have HG := fun W => spec_gcd (k + 1 + j) (k + 1) W (by omega) (by omega)
              have HCT := fun g W a0 a1 => spec_cents g 0 (k + 1 + j) (k + 1) W a0 a1 (by omega) (by omega)
              obtain ⟨z1, z2⟩ := cents_bd (n := k + 1 + j) (d := k + 1) (by omega) (by omega)
              have HU : Bx (bestStep c s (k + 1 + j) (k + 1) = if gz (k + 1 + j) (k + 1) = 1 then (if s.2.2 < 0 ∨ max (centsZ (k + 1 + j) (k + 1) - c) (c - centsZ (k + 1 + j) (k + 1)) < s.2.2 then ((k + 1 + j : Int), (k + 1 : Int), max (centsZ (k + 1 + j) (k + 1) - c) (c - centsZ (k + 1 + j) (k + 1))) else s) else s) := Bx.mk rfl
              generalize gz (k + 1 + j) (k + 1) = g at HG HU
              generalize centsZ (k + 1 + j) (k + 1) = cz at HCT HU z1 z2
              have HB := Bx.mk hb
              have H4 := Bx.mk h4
              have H7 := Bx.mk h7
              have hws := hb.size
              have hz7 := h7.lt
              clear hb h4 h7
              by_cases hg : g = 1
              · have hge : (g != 1) = false := by simp [hg]
                have hge2 : (g == 1) = true := by simp [hg]
                have HU2 := Bx.mk (HU.out.trans (if_pos hg))
                clear hg HU
                have HMX := fun W => spec_max (cz - c) (c - cz) W
                have hd1 : -1 < max (cz - c) (c - cz) ∧ max (cz - c) (c - cz) ≤ 500000000000 := by omega
                generalize max (cz - c) (c - cz) = dd at HMX HU2 hd1
                obtain ⟨hd1, hd2⟩ := hd1
                by_cases hc : s.2.2 < 0 ∨ dd < s.2.2
                · have HU3 := Bx.mk (HU2.out.trans (if_pos hc))
                  have hcond : decide (s.2.2 < 0) = true ∨ (decide (s.2.2 < 0) = false ∧ decide (dd < s.2.2) = true) := by
                    rcases hc with hc | hc
                    · exact .inl (by simpa using hc)
                    · by_cases h0 : s.2.2 < 0
                      · exact .inl (by simpa using h0)
                      · exact .inr ⟨by simpa using h0, by simpa using hc⟩
                  clear HU2 hc
                  go_wp2_with (fail)
                  refine (HG _).mono ?_
                  rintro r w' ⟨rfl, rfl⟩
                  go_wp2_with (fail)
                  refine (HCT _ _ (by go_simp) (by go_simp)).mono ?_
                  rintro r w1 ⟨rfl, hb1⟩
                  have K4 := Bx.mk ((H4.out.alloc _).below hb1)
                  have K7 := Bx.mk ((H7.out.alloc _).below hb1)
                  have K11 := Bx.mk ((PairAt.new wr (k + 1 + j) (k + 1)).below hb1)
                  have KB := Bx.mk ((HB.out.alloc HB.out.size _).trans (hb1.mono (by simp; omega)))
                  clear hb1 HCT HG H4 H7 HB
                  go_wp2_with (fail)
                  refine (HMX _).mono ?_
                  rintro r w' ⟨rfl, rfl⟩
                  have e0 := K11.out.c0
                  have e1 := K11.out.c1
                  have q0 := K7.out.c0
                  have q1 := K7.out.c1
                  have f0 := K7.out.f0 0
                  have f1 := K7.out.f0 1
                  rcases hcond with hcA | ⟨hcA, hcB⟩
                  · go_wp2_with (fail)
                    go_roundw
                    case rel =>
                      refine ⟨j + 1, by go_num, by omega, ?_⟩
                      rw [HST.out, HU3.out]
                      refine ⟨rfl, ⟨by show -1 ≤ dd; omega, by show dd ≤ 500000000000; omega⟩, ?_, ?_, ?_⟩
                      · have KBO := KB.out
                        repeat' (first | (with_reducible exact Below.refl _ _) | (with_reducible assumption) | (with_reducible refine Below.alloc ?_ ?_ _) | (with_reducible refine below_draws ?_ _) | (with_reducible refine Below.setCell ?_ ?_ _) | go_size)
                      · exact (K4.out.other (by omega) _).other (by omega) _
                      · exact K7.out.put _ _
                    case measure => simp [intOf]; omega
                  · go_wp2_with (fail)
                    go_roundw
                    case rel =>
                      refine ⟨j + 1, by go_num, by omega, ?_⟩
                      rw [HST.out, HU3.out]
                      refine ⟨rfl, ⟨by show -1 ≤ dd; omega, by show dd ≤ 500000000000; omega⟩, ?_, ?_, ?_⟩
                      · have KBO := KB.out
                        repeat' (first | (with_reducible exact Below.refl _ _) | (with_reducible assumption) | (with_reducible refine Below.alloc ?_ ?_ _) | (with_reducible refine below_draws ?_ _) | (with_reducible refine Below.setCell ?_ ?_ _) | go_size)
                      · exact (K4.out.other (by omega) _).other (by omega) _
                      · exact K7.out.put _ _
                    case measure => simp [intOf]; omega
                · have HU3 := Bx.mk (HU2.out.trans (if_neg hc))
                  have hcA : decide (s.2.2 < 0) = false := by simp; omega
                  have hcB : decide (dd < s.2.2) = false := by simp; omega
                  clear HU2 hc
                  go_wp2_with (fail)
                  refine (HG _).mono ?_
                  rintro r w' ⟨rfl, rfl⟩
                  go_wp2_with (fail)
                  refine (HCT _ _ (by go_simp) (by go_simp)).mono ?_
                  rintro r w1 ⟨rfl, hb1⟩
                  have K4 := Bx.mk ((H4.out.alloc _).below hb1)
                  have K7 := Bx.mk ((H7.out.alloc _).below hb1)
                  have KB := Bx.mk ((HB.out.alloc HB.out.size _).trans (hb1.mono (by simp; omega)))
                  clear hb1 HCT HG H4 H7 HB
                  go_wp2_with (fail)
                  refine (HMX _).mono ?_
                  rintro r w' ⟨rfl, rfl⟩
                  go_wp2_with (fail)
                  go_roundw
                  case rel =>
                    refine ⟨j + 1, by go_num, by omega, ?_⟩
                    rw [HST.out, HU3.out]
                    exact ⟨rfl, ⟨by omega, by omega⟩, KB.out, K4.out, K7.out⟩
                  case measure => simp [intOf]; omega
              · have hge : (g != 1) = true := by simp [hg]
                have hge2 : (g == 1) = false := by simp [hg]
                have HU2 := Bx.mk (HU.out.trans (if_neg hg))
                clear hg HU HCT
                go_wp2_with (fail)
                refine (HG _).mono ?_
                rintro r w' ⟨rfl, rfl⟩
                go_wp2_with (fail)
                go_roundw
                case rel =>
                  refine ⟨j + 1, by go_num, by omega, ?_⟩
                  rw [HST.out, HU2.out]
                  exact ⟨rfl, ⟨by omega, by omega⟩, HB.out.alloc HB.out.size _, H4.out.alloc _, H7.out.alloc _⟩
                case measure => simp [intOf]; omega
            · obtain rfl : j = k + 2 := by omega
              have HT : Bx (bestAll c (k + 1) = s) := Bx.mk (by rw [bestAll]; exact HS.out)
              have HB := Bx.mk hb
              have H4 := Bx.mk h4
              have H7 := Bx.mk h7
              clear hb h4 h7
              go_wp2_with (fail)
              go_roundw
              case rel =>
                refine ⟨k + 1, by go_num, by omega, ?_⟩
                rw [HT.out]
                exact ⟨rfl, ⟨by omega, by omega⟩, HB.out, H4.out, H7.out⟩
              case measure => simp [intOf]; omega
        · have hkm : (k : Int) = m := by omega
          have HE2 : Bx (bestE c m = (((bestAll c k).1, (bestAll c k).2.1), (bestAll c k).2.2, 0)) := Bx.mk (by rw [HE.out, ← hkm]; rfl)
          clear hkm
          generalize bestAll c k = s at *
          go_wp2_with (fail)
          refine bodyPost_ret (v := .tuple #[.agg #[.int .i64 s.1, .int .i64 s.2.1], .int .i64 s.2.2, .int .i64 0]) (by simp [results, Tryd.results31, go_sem, c0, c1]) rfl ?_
          refine octe_out HE2.out ?_
          have KBO := HB.out
          repeat' (first | (with_reducible exact Below.refl _ _) | (with_reducible assumption) | (with_reducible refine Below.alloc ?_ ?_ _) | (with_reducible refine below_draws ?_ _) | (with_reducible refine Below.setCell ?_ ?_ _) | go_size)
end Go.Proofs.YtpbbbkmcmfljdaaDoor
