/- Scales: rotations, by the program. -/
import Derived.Test.YtljegggpgafkiaaIm9
import Derived.Deep.RegionHeld3
import Derived.Deep.AppendLies
namespace Go.Proofs.Ytljegggpgafkiaa
open Go.ChangeShapes Go.WideShapes Go.ChangeAt Go.RowKit
set_option linter.unusedVariables false
set_option linter.unusedSimpArgs false
set_option maxRecDepth 100000

theorem own_drew {w : World} {base : Nat} {e : TypeId} {size n : Nat} {v : Value} {xs : List Value} (h : w.ownsRow base e size v n xs) : w.drew.ownsRow base e size v n xs := h
theorem app_cell {w w6 : World} {o' : Obj} {row : Option Nat} {b off : Nat} {x : Value} (g : w.cell? ⟨b, off, none⟩ = some x) (hg : (w.alloc o').grownBy w6 row) (hn : row ≠ some b) : w6.cell? ⟨b, off, none⟩ = some x :=
  hg.cell ((World.grownBy_alloc w o' none).cell g (by simp)) (fun e => hn e.symm)
theorem below_drew {B : Nat} {a w : World} (h : Below B a w) : Below B a w.drew := h.drew
set_option maxHeartbeats 4000000 in
theorem impl_rotate (v : Value) (zs : List Int) (k : Int) (w : World) (h : IntsAt w v zs) (hm : zs.length ≤ 281474976710656) :
    Calls Try.prog 22 #[v, .int .i64 k] w (LCOut (rotC zs k) w) := by
  have hsc := fun W h => impl_scale v zs W h hm
  have HI := Bx.mk h
  cases h1 : scaleB zs
  · obtain ⟨A, c, rfl⟩ := h.len
    clear h
    have HE : Bx (rotC zs k = ([], 1)) := Bx.mk (by simp [rotC, h1])
    rw [h1] at hsc
    clear h1
    go_enter Try.func22, Try.ntmps22
    go_wp2_with (fail)
    refine (hsc _ HI.out).mono ?_
    rintro e w' ⟨rfl, n, rfl⟩
    go_wp2_with (fail)
    go_ret2
    exact lc_nil HE.out (below_draws (Below.refl _ _) n)
  · obtain ⟨⟨l1, l2⟩, hr, h00⟩ := scale_yes h1
    by_cases hk0 : k < 0
    · obtain ⟨A, c, rfl⟩ := h.len
      clear h hr
      have HE : Bx (rotC zs k = ([], 2)) := Bx.mk (by
        unfold rotC; rw [if_pos h1, if_neg]; intro hh; have := inB_yes hh; omega)
      have d0 : decide (k < 0) = true := decide_eq_true hk0
      rw [h1] at hsc
      clear h1
      go_enter Try.func22, Try.ntmps22
      go_wp2_with (fail)
      refine (hsc _ HI.out).mono ?_
      rintro e w' ⟨rfl, n, rfl⟩
      go_wp2_with (fail)
      go_ret2
      exact lc_nil HE.out (below_draws (Below.refl _ _) n)
    · have d0 : decide (k < 0) = false := decide_eq_false hk0
      by_cases hk1 : (zs.length : Int) ≤ k
      · obtain ⟨A, c, rfl⟩ := h.len
        clear h hr
        have HE : Bx (rotC zs k = ([], 2)) := Bx.mk (by
          unfold rotC; rw [if_pos h1, if_neg]; intro hh; have := inB_yes hh; omega)
        have d1 : decide (k ≥ (zs.length : Int)) = true := decide_eq_true hk1
        rw [h1] at hsc
        clear h1
        go_enter Try.func22, Try.ntmps22
        go_wp2_with (fail)
        refine (hsc _ HI.out).mono ?_
        rintro e w' ⟨rfl, n, rfl⟩
        go_wp2_with (fail)
        go_ret2
        exact lc_nil HE.out (below_draws (Below.refl _ _) n)
      · have d1 : decide (k ≥ (zs.length : Int)) = false := decide_eq_false (by omega)
        obtain ⟨k, rfl⟩ := Int.eq_ofNat_of_zero_le (show 0 ≤ k by omega)
        have hk : k < zs.length := by omega
        have d2 : decide (zs.length ≤ k) = false := decide_eq_false (by omega)
        have HE : Bx (rotC zs k = (rotL zs k zs.length, 0)) := Bx.mk (by
          unfold rotC; rw [if_pos h1, if_pos (inB_mk (by omega))]; rfl)
        obtain ⟨b, o, c, rfl, hb, hc⟩ := h.form (by omega)
        have HC := Bx.mk hc
        have HR := Bx.mk (rise_all hr)
        have hmk := fun W => room_row W zs.length (by omega)
        have hto := impl_toneof
        obtain ⟨i0, hi, hz0, hz1, hz2⟩ := info_parts infoI64
        rw [h1] at hsc
        clear h1 h hc hr h00
        go_enter Try.func22, Try.ntmps22
        go_wp2_with (fail)
        refine (hsc _ HI.out).mono ?_
        rintro e W1 ⟨rfl, hw⟩
        have HB1 : Bx (Below w.heap.size w W1) := Bx.mk (by obtain ⟨n, rfl⟩ := hw; exact below_draws (Below.refl _ _) n)
        have hbl : b < W1.heap.size := Nat.lt_of_lt_of_le hb HB1.out.size
        clear hw hsc
        go_wp2_with (fail)
        go_loopw [7, 29] (fun v i wr => ∃ j : Nat, j ≤ zs.length ∧ i = .int .i64 j ∧ wr.ownsRow (W1.heap.size + 1) 2 1 v (rotL zs k j).length (ints (rotL zs k j)) ∧
          RingAt wr W1.heap.size (.slice (some ⟨b, o, none⟩) zs.length c) (((k + j) % zs.length : Nat) : Int) ∧ Below W1.heap.size W1 wr) (fun _ i _ => zs.length - (intOf i).toNat)
        case atStart =>
          refine ⟨0, Nat.zero_le _, rfl, ?_, ?_, ?_⟩
          · have := World.ownsRow_made (base := W1.heap.size + 1) (e := 2) (size := 1) (W1.alloc (.cells #[.slice (some ⟨b, o, none⟩) zs.length c, .int .i64 (k : Int)] 69)) (madeCells #[.int .i64 0] zs.length) zs.length (by simp) (by unfold maxLen; omega) (by rw [size_madeCells]; simp)
            simpa [rotL, ints] using this
          · have hr1 : (k + 0) % zs.length = k := Nat.mod_eq_of_lt (by omega)
            rw [hr1]
            exact RingAt.alloc ⟨by rw [heap_alloc_last]⟩ _
          · exact ((Below.refl _ _).alloc (Nat.le_refl _) _).alloc (by simp) _
        case round =>
          obtain ⟨j, hj, rfl, hown, hring, hbw⟩ := hrel
          by_cases hlt : j < zs.length
          · have hm1 : (k + j) % zs.length < zs.length := Nat.mod_lt _ (by omega)
            have g1 : wr.cell? ⟨b, o + k, none⟩ = some (.int .i64 (zs.getD k 0)) := (hbw.cell (p := ⟨b, o + k, none⟩) hbl).trans ((HB1.out.cell (p := ⟨b, o + k, none⟩) hb).trans (HC.out k hk))
            have g2 : wr.cell? ⟨b, o + (k + j) % zs.length, none⟩ = some (.int .i64 (zs.getD ((k + j) % zs.length) 0)) := (hbw.cell (p := ⟨b, o + (k + j) % zs.length, none⟩) hbl).trans ((HB1.out.cell (p := ⟨b, o + (k + j) % zs.length, none⟩) hb).trans (HC.out _ hm1))
            have HS := Bx.mk (rotL_succ zs k j)
            have hll := rotL_len zs k j
            obtain ⟨⟨r1, r2⟩, _⟩ := HR.out k hk
            obtain ⟨⟨r3, r4⟩, _⟩ := HR.out _ hm1
            have HM : Bx (((k + j) % zs.length + 1) % zs.length = (k + (j + 1)) % zs.length) := Bx.mk (by rw [Nat.mod_add_mod]; rfl)
            have j0 : (0 : Int) ≤ (j : Int) := Int.natCast_nonneg _
            have j1 : (j : Int) < (zs.length : Int) := by omega
            have k0 : (0 : Int) ≤ (k : Int) := Int.natCast_nonneg _
            have k1 : (k : Int) < (zs.length : Int) := by omega
            have HG2 := Bx.mk g2
            have HG := Bx.mk hring
            have HW := Bx.mk hbw
            have hsz := hbw.size
            have hgs : W1.heap.size + 1 ≤ wr.heap.size := hring.lt
            clear g2 hring hbw
            generalize (k + j) % zs.length = q at *
            generalize zs.getD q 0 = y at *
            generalize zs.getD k 0 = x at *
            have E1 : IntKind.i64.wrap (y - x) = y - x := IntWalk.i64_in _ (by omega)
            have hbl1 : b < W1.heap.size + 1 := by omega
            have hnx : W1.heap.size ≠ b := by omega
            go_wp2_with (fail)
            go_region_held3 (fun W => W.cell? ⟨b, o + k, none⟩ = some (.int .i64 x))
              (first
                | go_keep
                | assumption)
              (first
                | (go_at_call 43
                   refine (ring_next W1.heap.size zs.length c q b o y wr.drew ⟨HG.out.hp⟩ hm1 l2 HG2.out).mono ?_
                   rintro e w4 ⟨rfl, hw4⟩
                   have g4 := ring_cell (w := wr.drew) g1 hnx hw4
                   have HO4 := Bx.mk (ring_own (w := wr.drew) (own_drew hown) (Nat.lt_succ_self _) hw4)
                   have HG4 := Bx.mk (ring_ring (w := wr.drew) (v := .slice (some ⟨b, o, none⟩) zs.length c) (k := (q : Int)) ⟨HG.out.hp⟩ hw4)
                   have HW4 := Bx.mk (ring_below (w := wr.drew) (below_drew HW.out) (Nat.le_refl _) hw4))
                | (go_at_call 16; refine (hto _ _).mono ?_; rintro e w5 ⟨rfl, rfl⟩)
                | (refine step_append_lies _ (by rfl) _ _ _ (by rfl) (W1.heap.size + 1) 2 i0 _ 1 8 Try.underlying24 hi hz0 hz1 hz2 rfl (by omega) _ _ _ (by rfl) (HO4.out.alloc _) ⟨w4.heap.size, 0, none⟩ 1 1 [.int .i64 ((y - x) % 12)] (by rfl) (by rfl) (World.news_of_block (cs := #[.int .i64 ((y - x) % 12)]) (t := 2) (fr := (0, 0)) (heap_alloc_new w4 _)) (by simp [Value.oneCell']) (by omega) (by unfold maxLen; omega) (by omega) (by have hgs4 : W1.heap.size + 1 ≤ w4.heap.size := HG4.out.lt; rw [World.size_alloc]; omega) (w4.heap.size + 1) (by simp) ?_; intro gg cap w6 hown6 hgrow hat hlt6; have g6 := app_cell g4 hgrow (own_far HO4.out hbl1)))
            have hsz4 := HW4.out.size
            have hgs4 : W1.heap.size + 1 ≤ w4.heap.size := HG4.out.lt
            have hb2 : Below W1.heap.size W1 w6 := (HW4.out.alloc hsz4 _).grown hgrow (by simp; omega) (own_ge' (own_up (Nat.le_succ _) HO4.out))
            have hring2 : RingAt w6 W1.heap.size (.slice (some ⟨b, o, none⟩) zs.length c) (((k + (j + 1)) % zs.length : Nat) : Int) := by
              rw [← HM.out]
              exact (HG4.out.alloc _).grown hgrow (Ne.symm (own_far HO4.out (Nat.lt_succ_self _)))
            have hown2 : w6.ownsRow (W1.heap.size + 1) 2 1 (.slice (some ⟨gg, 0, none⟩) (j + 1) cap) (rotL zs k (j + 1)).length (ints (rotL zs k (j + 1))) := by
              rw [HS.out, ints_snoc', List.length_append]; rw [hll] at hown6 ⊢; exact hown6
            clear hown6 hgrow hat hown HO4 HG4 HW4
            go_wp2_with (fail)
            go_roundw
            case rel => exact ⟨j + 1, by omega, by go_num, hown2, hring2, hb2⟩
            case measure => simp [intOf]; omega
          · obtain rfl : j = zs.length := by omega
            have HO := Bx.mk hown
            have HW := Bx.mk hbw
            clear hown hbw hring
            go_wp2_with (fail)
            go_ret2
            exact lc_some HE.out (own_up (Nat.le_trans HB1.out.size (Nat.le_succ _)) HO.out) (HB1.out.trans (HW.out.mono HB1.out.size))
end Go.Proofs.Ytljegggpgafkiaa
