/- Scales: intervals, by the program. -/
import Derived.Test.YtljegggpgafkiaaIm8
import Derived.Deep.WholeRow
namespace Go.Proofs.Ytljegggpgafkiaa
open Go.ChangeShapes Go.WideShapes Go.ChangeAt Go.RowKit
set_option linter.unusedVariables false
set_option linter.unusedSimpArgs false
set_option maxRecDepth 100000

/-- the steps to the tones behind, the first ones -/
def ringL (zs : List Int) (j : Nat) : List Int := (List.range j).map fun i => (zs.getD ((i + 1) % zs.length) 0 - zs.getD i 0) % 12
theorem ringL_succ (zs : List Int) (j : Nat) : ringL zs (j + 1) = ringL zs j ++ [(zs.getD ((j + 1) % zs.length) 0 - zs.getD j 0) % 12] := by simp [ringL, List.range_succ]
theorem ringL_len (zs : List Int) (j : Nat) : (ringL zs j).length = j := by simp [ringL]
theorem ringL_all {zs : List Int} (hs : scaleB zs = true) : ringL zs zs.length = stepsZ zs := by
  obtain ⟨⟨l1, l2⟩, hr, h0⟩ := scale_yes hs
  have key : ∀ j, j + 1 ≤ zs.length → ringL zs j = stepL zs j := by
    intro j
    induction j with
    | zero => intro _; rfl
    | succ j ih =>
      intro hj
      rw [ringL_succ, stepL_succ, ih (by omega), Nat.mod_eq_of_lt (by omega)]
      have h1 := rise_all hr (j + 1) (by omega)
      have h2 := rise_all hr j (by omega)
      have h3 := h1.2 (by omega)
      simp only [Nat.add_sub_cancel] at h3
      congr 2
      omega
  obtain ⟨m, hm⟩ : ∃ m, zs.length = m + 1 := ⟨zs.length - 1, by omega⟩
  have e : ringL zs zs.length = ringL zs (m + 1) := by rw [hm]
  unfold stepsZ
  rw [e, ringL_succ, key m (by omega), hm, Nat.mod_self, h0, Nat.add_sub_cancel]
  have h2 := rise_all hr m (by omega)
  have h3 := rise_ge hr m (by omega)
  congr 2
  omega
set_option maxHeartbeats 2000000 in
theorem impl_intervals (v : Value) (zs : List Int) (w : World) (h : IntsAt w v zs) (hm : zs.length ≤ 281474976710656) :
    Calls Try.prog 24 #[v] w (LCOut (intvC zs) w) := by
  have hsc := fun W h => impl_scale v zs W h hm
  have HI := Bx.mk h
  cases h1 : scaleB zs
  · obtain ⟨A, c, rfl⟩ := h.len
    clear h
    have HE : Bx (intvC zs = ([], 1)) := Bx.mk (by simp [intvC, h1])
    rw [h1] at hsc
    clear h1
    go_enter Try.func24, Try.ntmps24
    go_wp2_with (fail)
    refine (hsc _ HI.out).mono ?_
    rintro e w' ⟨rfl, n, rfl⟩
    go_wp2_with (fail)
    go_ret2
    exact lc_nil HE.out (below_draws (Below.refl _ _) n)
  · have HE : Bx (intvC zs = (stepsZ zs, 0)) := Bx.mk (by simp [intvC, h1])
    obtain ⟨⟨l1, l2⟩, hr, h00⟩ := scale_yes h1
    obtain ⟨b, o, c, rfl, hb, hc⟩ := h.form (by omega)
    have HC := Bx.mk hc
    have HR := Bx.mk (rise_all hr)
    have HA : Bx (ringL zs zs.length = stepsZ zs) := Bx.mk (ringL_all h1)
    have hto := impl_toneof
    obtain ⟨i0, hi, hz0, hz1, hz2⟩ := info_parts infoI64
    have hmk := fun W => room_row W zs.length (by omega)
    rw [h1] at hsc
    clear h1 h hc hr h00
    go_enter Try.func24, Try.ntmps24
    go_wp2_with (fail)
    refine (hsc _ HI.out).mono ?_
    rintro e W1 ⟨rfl, hw⟩
    have HB1 : Bx (Below w.heap.size w W1) := Bx.mk (by obtain ⟨n, rfl⟩ := hw; exact below_draws (Below.refl _ _) n)
    have hbl : b < W1.heap.size := Nat.lt_of_lt_of_le hb HB1.out.size
    clear hw hsc
    go_wp2_with (fail)
    go_loopw [5, 18] (fun v i wr => ∃ j : Nat, j ≤ zs.length ∧ i = .int .i64 j ∧ wr.ownsRow (W1.heap.size + 1) 2 1 v (ringL zs j).length (ints (ringL zs j)) ∧
      RingAt wr W1.heap.size (.slice (some ⟨b, o, none⟩) zs.length c) (((j + 1) % zs.length : Nat) : Int) ∧ Below W1.heap.size W1 wr) (fun _ i _ => zs.length - (intOf i).toNat)
    case atStart =>
      refine ⟨0, Nat.zero_le _, rfl, ?_, ?_, ?_⟩
      · have := World.ownsRow_made (base := W1.heap.size + 1) (e := 2) (size := 1) (W1.alloc (.cells #[.slice (some ⟨b, o, none⟩) zs.length c, .int .i64 1] 69)) (madeCells #[.int .i64 0] zs.length) zs.length (by simp) (by unfold maxLen; omega) (by rw [size_madeCells]; simp)
        simpa [ringL, ints] using this
      · have hr1 : (0 + 1) % zs.length = 1 := Nat.mod_eq_of_lt (by omega)
        rw [hr1]
        exact RingAt.alloc ⟨by rw [heap_alloc_last]; rfl⟩ _
      · exact ((Below.refl _ _).alloc (Nat.le_refl _) _).alloc (by simp) _
    case round =>
      obtain ⟨j, hj, rfl, hown, hring, hbw⟩ := hrel
      by_cases hlt : j < zs.length
      · have hm1 : (j + 1) % zs.length < zs.length := Nat.mod_lt _ (by omega)
        have g1 : wr.cell? ⟨b, o + j, none⟩ = some (.int .i64 (zs.getD j 0)) := (hbw.cell (p := ⟨b, o + j, none⟩) hbl).trans ((HB1.out.cell (p := ⟨b, o + j, none⟩) hb).trans (HC.out j hlt))
        have g2 : wr.cell? ⟨b, o + (j + 1) % zs.length, none⟩ = some (.int .i64 (zs.getD ((j + 1) % zs.length) 0)) := (hbw.cell (p := ⟨b, o + (j + 1) % zs.length, none⟩) hbl).trans ((HB1.out.cell (p := ⟨b, o + (j + 1) % zs.length, none⟩) hb).trans (HC.out _ hm1))
        have HN := Bx.mk (ring_next W1.heap.size zs.length c ((j + 1) % zs.length) b o _ wr hring hm1 l2 g2)
        have HS := Bx.mk (ringL_succ zs j)
        have HLn := Bx.mk (ringL_len zs j)
        obtain ⟨⟨r1, r2⟩, _⟩ := HR.out j hlt
        obtain ⟨⟨r3, r4⟩, _⟩ := HR.out _ hm1
        have HM : Bx (((j + 1) % zs.length + 1) % zs.length = (j + 1 + 1) % zs.length) := Bx.mk (Nat.mod_add_mod _ _ _)
        have j0 : (0 : Int) ≤ (j : Int) := Int.natCast_nonneg _
        have j1 : (j : Int) < (zs.length : Int) := by omega
        have HO := Bx.mk hown
        have HG := Bx.mk hring
        have HW := Bx.mk hbw
        clear g2 hown hring hbw
        generalize (j + 1) % zs.length = q at *
        generalize zs.getD q 0 = y at *
        generalize zs.getD j 0 = x at *
        have E1 : IntKind.i64.wrap (y - x) = y - x := IntWalk.i64_in _ (by omega)
        go_wp2_with (fail)
        refine HN.out.mono ?_
        rintro e w4 ⟨rfl, hw4⟩
        have hown4 := ring_own HO.out (Nat.lt_succ_self _) hw4
        have hring4 := ring_ring HG.out hw4
        have hbw4 := ring_below HW.out (Nat.le_refl _) hw4
        rw [HM.out] at hring4
        have HG4 := Bx.mk hring4
        have HW4 := Bx.mk hbw4
        have hsz4 := hbw4.size
        have hgs : W1.heap.size + 1 ≤ w4.heap.size := hring4.lt
        clear hw4 HO HG HW HN hring4 hbw4
        go_wp2_with (fail)
        refine (hto _ _).mono ?_
        rintro e w5 ⟨rfl, rfl⟩
        go_wp2_with ((at_builtin; refine wpList_append_own _ rfl _ _ 24 rfl (W1.heap.size + 1) 2 i0 (.int .i64 0) 1 8 Try.underlying24 hi hz0 hz1 hz2 rfl (by decide) _ _ _ rfl (hown4.alloc _) ⟨w4.heap.size, 0, none⟩ 1 1 [.int .i64 ((y - x) % 12)] rfl rfl (cell_one_new _ _ _) (fun x hx => by simp at hx; subst hx; rfl) (by have := HLn.out; unfold maxLen; omega) (by have := HLn.out; omega) (by simp; omega) ?_; intro v' w6 hown' hgrow3 hnil3))
        have hown2 : w6.ownsRow (W1.heap.size + 1) 2 1 v' (ringL zs (j + 1)).length (ints (ringL zs (j + 1))) := by
          rw [HS.out, ints_snoc', List.length_append]; exact hown'
        have hring2 : RingAt w6 W1.heap.size (.slice (some ⟨b, o, none⟩) zs.length c) (((j + 1 + 1) % zs.length : Nat) : Int) := (HG4.out.alloc _).grown hgrow3 (Ne.symm (own_far hown4 (Nat.lt_succ_self _)))
        have hb2 : Below W1.heap.size W1 w6 := (HW4.out.alloc hsz4 _).grown hgrow3 (by simp; omega) (own_ge' (own_up (Nat.le_succ _) hown4))
        clear hown' hgrow3 hnil3 hown4
        go_roundw
        case rel => exact ⟨j + 1, by omega, by go_num, hown2, hring2, hb2⟩
        case measure => simp [intOf]; omega
      · obtain rfl : j = zs.length := by omega
        have HO := Bx.mk hown
        have HW := Bx.mk hbw
        clear hown hbw hring
        go_wp2_with (fail)
        go_ret2
        have ho := HO.out
        rw [HA.out] at ho
        exact lc_some HE.out (own_up (Nat.le_trans HB1.out.size (Nat.le_succ _)) ho) (HB1.out.trans (HW.out.mono HB1.out.size))
end Go.Proofs.Ytljegggpgafkiaa
