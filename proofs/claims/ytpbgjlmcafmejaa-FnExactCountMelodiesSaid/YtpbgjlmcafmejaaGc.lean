/- Counting melodies: the model. -/
import Derived.Test.YtpbgjlmcafmejaaGcM
import Derived.Test.YtpbgjlmcafmejaaGv
import Derived.BigRegion
namespace Go.Proofs.Ytpbgjlmcafmejaa
open Go.ChangeShapes Go.WideShapes Go.ChangeAt Go.RowKit
set_option linter.unusedVariables false
set_option linter.unusedSimpArgs false
set_option maxRecDepth 100000

set_option maxHeartbeats 4000000 in
theorem spec_counts (g : Nat) (G : Gr) (k : Nat) (w : World) (h : PtrGr w g G) (hm : SmG G) (hok : OkGr G) (hk : k ≤ 12) :
    Calls Try.prog 86 #[.pointer (some ⟨g, 0, none⟩), .int .i64 k] w fun e w' => ∃ b, e = .returned (.slice (some ⟨b, 0, none⟩) G.n.toNat G.n.toNat) ∧ ArrAt w' b (rowF (cntG G k) G.n.toNat) 2 ∧ w.heap.size ≤ b ∧ Below w.heap.size w w' := by
  obtain ⟨B, b, C, c, hx, i1, i2⟩ := ptrgr_form h
  obtain ⟨n, s, fs, l⟩ := G
  obtain ⟨hn, hs, hfr, hu1, hl, har, hu2⟩ := hok
  have mf := hm.f
  dsimp only at *
  obtain ⟨m, rfl⟩ : ∃ m : Nat, n = m := ⟨n.toNat, by omega⟩
  rw [Int.toNat_natCast]
  have HX := Bx.mk hx
  have HF := Bx.mk i1
  have HT := Bx.mk i2
  have HFR := Bx.mk hfr
  have HAR := Bx.mk har
  have y0 := hx.c (k := 0) rfl
  have y2 := hx.c (k := 2) rfl
  have y3 := hx.c (k := 3) rfl
  have yl := hx.lt
  have hmk := zero_row w m (by omega)
  clear h hx i1 i2 hfr har hm hu1 hu2
  go_enter Try.func86, Try.ntmps86
  go_wp2_with (fail)
  clear y0 y2 y3 yl hmk
  go_loopw [6] (fun i wr => ∃ j : Nat, j ≤ fs.length ∧ i = .int .i64 j ∧ Bx (ArrAt wr w.heap.size (rowF (finF (fs.take j)) m) 2) ∧ Bx (Below w.heap.size w wr)) (fun i _ => fs.length - (intOf i).toNat)
  case atStart =>
    refine ⟨0, Nat.zero_le _, rfl, Bx.mk ?_, Bx.mk ((Below.refl _ _).alloc (Nat.le_refl _) _)⟩
    have := ArrAt.at w w.heap.size (rowF zF m) 2 rfl
    rw [rowF_zero, ← toList_madeCells_one] at this
    rw [List.take_zero]
    show ArrAt _ _ (rowF zF m) _
    rw [rowF_zero, ← toList_madeCells_one]
    simpa using this
  case round =>
    obtain ⟨j, hj, rfl, HA, HB⟩ := hrel
    have HXw := Bx.mk (HX.out.below HB.out)
    have HFw := Bx.mk (HF.out.below HB.out)
    have y0 := HXw.out.c (k := 0) rfl
    have y2 := HXw.out.c (k := 2) rfl
    have y3 := HXw.out.c (k := 3) rfl
    have yl := HXw.out.lt
    by_cases hlt : j < fs.length
    · obtain ⟨bb, oo, cc, hv, lb, hc⟩ := HFw.out.form (by omega)
      injection hv with hA1 _ hC1
      subst hA1 hC1
      have c1 := hc j hlt
      have x1 : (0 : Int) ≤ (j : Int) := by omega
      have x2 : (j : Int) < (fs.length : Int) := by omega
      have dlt : decide ((j : Int) < (fs.length : Int)) = true := decide_eq_true x2
      have hst := Bx.mk (finF_take hlt)
      have hr := HFR.out j hlt
      obtain ⟨f, hf⟩ : ∃ f : Nat, fs.getD j 0 = f := ⟨(fs.getD j 0).toNat, by omega⟩
      rw [hf] at c1 hst hr
      have hfm : f < m := by omega
      have z1 : (0 : Int) ≤ (f : Int) := by omega
      have z2 : (f : Int) < (m : Int) := by omega
      have a0 := (HA.out.cell f).trans (rowF_at _ _ _ hfm)
      have af := HA.out.f0 f
      have al := HA.out.lt
      have HS : Bx (ArrAt (wr.setCell ⟨w.heap.size, f, none⟩ (.int .i64 1)) w.heap.size (rowF (finF (fs.take (j + 1))) m) 2) := Bx.mk (by
        have := HA.out.put f (.int .i64 1)
        rw [rowF_set] at this
        rw [hst.out]
        exact this)
      have HB2 := Bx.mk (HB.out.setCell (p := ⟨w.heap.size, f, none⟩) (Nat.le_refl _) (.int .i64 1))
      clear hc hst hf hr HA HXw HFw
      go_wp2_with (fail)
      go_roundw
      case rel => exact ⟨j + 1, by omega, by go_num, HS, HB2⟩
      case measure => simp [intOf]; omega
    · obtain rfl : j = fs.length := by omega
      have dlt : decide ((fs.length : Int) < (fs.length : Int)) = false := decide_eq_false (by omega)
      have HA2 : Bx (ArrAt wr w.heap.size (rowF (cntG ⟨(m : Int), s, fs, l⟩ 0) m) 2) := Bx.mk (by have := HA.out; rwa [List.take_length] at this)
      clear HA HXw HFw
      go_wp2_with (fail)
      clear y0 y2 y3 yl
      go_loopw [5, 7] (fun o i wr => ∃ (j b2 : Nat), j ≤ k ∧ i = .int .i64 j ∧ o = .slice (some ⟨b2, 0, none⟩) m m ∧ Bx (ArrAt wr b2 (rowF (cntG ⟨(m : Int), s, fs, l⟩ j) m) 2) ∧ w.heap.size ≤ b2 ∧ Bx (Below w.heap.size w wr)) (fun _ i _ => k - (intOf i).toNat)
      case atStart => exact ⟨0, w.heap.size, Nat.zero_le _, rfl, rfl, HA2, Nat.le_refl _, HB⟩
      case round =>
        clear HA2 HB
        obtain ⟨j, b2, hj, rfl, rfl, HA, hb2, HB⟩ := hrel
        have HXw := Bx.mk (HX.out.below HB.out)
        have y0 := HXw.out.c (k := 0) rfl
        have y3 := HXw.out.c (k := 3) rfl
        have yl := HXw.out.lt
        by_cases hlk : j < k
        · have dlt : decide ((j : Int) < (k : Int)) = true := decide_eq_true (by omega)
          have hmk := zero_row wr m (by omega)
          go_wp2_with (fail)
          have bA : Below wr.heap.size wr (wr.alloc (.cells (madeCells #[.int .i64 0] m) 2)) := (Below.refl _ _).alloc (Nat.le_refl _) _
          have A0 : Bx (ArrAt (wr.alloc (.cells (madeCells #[.int .i64 0] m) 2)) wr.heap.size (rowF (addF (cntG ⟨(m : Int), s, fs, l⟩ j) (l.take 0)) m) 2) := Bx.mk (by
            have := ArrAt.at wr wr.heap.size (rowF zF m) 2 rfl
            rw [rowF_zero, ← toList_madeCells_one] at this
            rw [List.take_zero]
            show ArrAt _ _ (rowF zF m) _
            rw [rowF_zero, ← toList_madeCells_one]
            simpa using this)
          have hbl : b2 < wr.heap.size := HA.out.lt
          obtain ⟨b3, hb3⟩ : ∃ x, x = wr.heap.size := ⟨_, rfl⟩
          have B1 := Bx.mk (HB.out.trans (bA.mono HB.out.size))
          have A1 := Bx.mk (HA.out.below bA)
          have hb4 : w.heap.size ≤ b3 := by have := HB.out.size; omega
          clear y0 y3 yl hmk bA HA HB HXw
          rw [← hb3] at A0 hbl ⊢
          clear hb3
          generalize wr.alloc (.cells (madeCells #[.int .i64 0] m) 2) = W1 at *
          go_loopw [9] (fun i wr => ∃ a : Nat, a ≤ l.length ∧ i = .int .i64 a ∧ Bx (ArrAt wr b3 (rowF (addF (cntG ⟨(m : Int), s, fs, l⟩ j) (l.take a)) m) 2) ∧ Bx (ArrAt wr b2 (rowF (cntG ⟨(m : Int), s, fs, l⟩ j) m) 2) ∧ Bx (Below w.heap.size w wr)) (fun i _ => l.length - (intOf i).toNat)
          case atStart => exact ⟨0, Nat.zero_le _, rfl, A0, A1, B1⟩
          case round =>
            clear A0 A1 B1
            obtain ⟨a, ha, rfl, HN, HA, HB⟩ := hrel
            have HXw := Bx.mk (HX.out.below HB.out)
            have HTw := Bx.mk (HT.out.below HB.out)
            have y3 := HXw.out.c (k := 3) rfl
            have yl := HXw.out.lt
            by_cases hla : a < l.length
            · obtain ⟨bb, oo, cc, hv, lb, hc⟩ := HTw.out.form (by omega)
              injection hv with hA1 _ hC1
              subst hA1 hC1
              replace hc := hc a hla
              have x1 : (0 : Int) ≤ (a : Int) := by omega
              have x2 : (a : Int) < (l.length : Int) := by omega
              have dla : decide ((a : Int) < (l.length : Int)) = true := decide_eq_true x2
              have hst := Bx.mk (addF_take (P := cntG ⟨(m : Int), s, fs, l⟩ j) hla)
              have hr := HAR.out a hla
              generalize tat l a = p at hc hst hr
              obtain ⟨p1, p2, p3⟩ := p
              dsimp only at hc hr
              obtain ⟨f, rfl⟩ : ∃ f : Nat, p1 = f := ⟨p1.toNat, by omega⟩
              obtain ⟨t, rfl⟩ : ∃ t : Nat, p3 = t := ⟨p3.toNat, by omega⟩
              obtain ⟨c1, c2, c3⟩ := hc
              have hfm : f < m := by omega
              have htm : t < m := by omega
              have z1 : (0 : Int) ≤ (f : Int) := by omega
              have z2 : (f : Int) < (m : Int) := by omega
              have z3 : (0 : Int) ≤ (t : Int) := by omega
              have z4 : (t : Int) < (m : Int) := by omega
              generalize addF (cntG ⟨(m : Int), s, fs, l⟩ j) (l.take a) = F at *
              generalize hcj : cntG ⟨(m : Int), s, fs, l⟩ j = P at *
              have HCJ := Bx.mk hcj
              clear hcj
              have a0 := (HN.out.cell f).trans (rowF_at _ _ _ hfm)
              have af := HN.out.f0 f
              have al := HN.out.lt
              have o0 := (HA.out.cell t).trans (rowF_at _ _ _ htm)
              have ol := HA.out.lt
              have HS : Bx (ArrAt (wr.drew.setCell ⟨b3, f, none⟩ (.int .i64 (wrap64 (F f + P t)))) b3 (rowF (addF P (l.take (a + 1))) m) 2) := Bx.mk (by
                have := (HN.out.draws 1).put f (.int .i64 (wrap64 (F f + P t)))
                rw [rowF_set] at this
                rw [hst.out]
                exact this)
              have HA2 := Bx.mk ((HA.out.draws 1).other (b := b3) (o := f) (by omega) (.int .i64 (wrap64 (F f + P t))))
              have HB2 := Bx.mk (HB.out.drew.setCell (p := ⟨b3, f, none⟩) hb4 (.int .i64 (wrap64 (F f + P t))))
              clear hst hr HN HA HXw HTw
              generalize F f = fv at *
              generalize P t = pv at *
              go_wp2_with (fail)
              go_region
              go_wp2_with (fail)
              go_roundw
              case rel => exact ⟨a + 1, by omega, by go_num, HS, HA2, HB2⟩
              case measure => simp [intOf]; omega
            · obtain rfl : a = l.length := by omega
              have dla : decide ((l.length : Int) < (l.length : Int)) = false := decide_eq_false (by omega)
              have HN2 : Bx (ArrAt wr b3 (rowF (cntG ⟨(m : Int), s, fs, l⟩ (j + 1)) m) 2) := Bx.mk (by have := HN.out; rwa [List.take_length] at this)
              clear HN HA HXw HTw
              go_wp2_with (fail)
              go_roundw
              case rel => exact ⟨j + 1, b3, by omega, by go_num, rfl, HN2, hb4, HB⟩
              case measure => simp [intOf]; omega
        · obtain rfl : j = k := by omega
          have dlt : decide ((j : Int) < (j : Int)) = false := decide_eq_false (by omega)
          go_wp2_with (fail)
          go_ret
          exact ⟨b2, rfl, HA.out, hb2, HB.out⟩
end Go.Proofs.Ytpbgjlmcafmejaa
