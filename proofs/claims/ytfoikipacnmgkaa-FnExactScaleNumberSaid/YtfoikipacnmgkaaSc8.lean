/- Scales: intervals and common tones, by the model. -/
import Derived.Test.YtfoikipacnmgkaaSc7
namespace Go.Proofs.Ytfoikipacnmgkaa
open Go.ChangeShapes Go.WideShapes Go.ChangeAt Go.RowKit
set_option linter.unusedVariables false
set_option linter.unusedSimpArgs false
set_option maxRecDepth 100000

def intvC (zs : List Int) : List Int × Int := if scaleB zs = true then (stepsZ zs, 0) else ([], 1)
set_option maxHeartbeats 1000000 in
theorem spec_intervals (v : Value) (zs : List Int) (w : World) (h : IntsAt w v zs) (hm : zs.length ≤ 281474976710656) :
    Calls Try.prog 54 #[v] w (LCOut (intvC zs) w) := by
  have hsc := fun W h => spec_scale v zs W h hm
  have HI := Bx.mk h
  obtain ⟨A, c, rfl⟩ := h.len
  clear h
  cases h1 : scaleB zs
  · have HE : Bx (intvC zs = ([], 1)) := Bx.mk (by simp [intvC, h1])
    rw [h1] at hsc
    clear h1
    go_enter Try.func54, Try.ntmps54
    go_wp2_with (fail)
    refine (hsc _ HI.out).mono ?_
    rintro e w' ⟨rfl, n, rfl⟩
    go_wp2_with (fail)
    go_ret2
    exact lc_nil HE.out (below_draws (Below.refl _ _) n)
  · have HE : Bx (intvC zs = (stepsZ zs, 0)) := Bx.mk (by simp [intvC, h1])
    have hro := fun W h => spec_steps (.slice A zs.length c) zs W h h1
    rw [h1] at hsc
    clear h1
    go_enter Try.func54, Try.ntmps54
    go_wp2_with (fail)
    refine (hsc _ HI.out).mono ?_
    rintro e w' ⟨rfl, n, rfl⟩
    go_wp2_with (fail)
    refine (hro _ (HI.out.draws n)).mono ?_
    intro e w' ho
    obtain ⟨v, rfl, ho, hb⟩ := newrow_parts ho
    go_wp2_with (fail)
    go_ret2
    exact lc_mk n HE.out ho hb
/-- the tones of the one, among the first, that the other has -/
def comL (xs zs : List Int) : Nat → List Int
  | 0 => []
  | j + 1 => if hasB zs (xs.getD j 0) = true then comL xs zs j ++ [xs.getD j 0] else comL xs zs j
theorem comL_len (xs zs : List Int) (j : Nat) : (comL xs zs j).length ≤ j := by
  induction j with
  | zero => exact Nat.le_refl _
  | succ j ih =>
    unfold comL
    split
    · simp; omega
    · omega
def comC (xs zs : List Int) : List Int × Int := if scaleB xs = true ∧ scaleB zs = true then (comL xs zs xs.length, 0) else ([], 1)
set_option maxHeartbeats 2000000 in
theorem spec_common (va vb : Value) (xs zs : List Int) (w : World) (ha : IntsAt w va xs) (hb : IntsAt w vb zs) (hx : xs.length ≤ 281474976710656) (hz : zs.length ≤ 281474976710656) :
    Calls Try.prog 56 #[va, vb] w (LCOut (comC xs zs) w) := by
  have hsa := fun W h => spec_scale va xs W h hx
  have hsb := fun W h => spec_scale vb zs W h hz
  have HA := Bx.mk ha
  have HB := Bx.mk hb
  obtain ⟨A1, c1, rfl⟩ := ha.len
  obtain ⟨A2, c2, rfl⟩ := hb.len
  cases h1 : scaleB xs
  · have HE : Bx (comC xs zs = ([], 1)) := Bx.mk (by simp [comC, h1])
    rw [h1] at hsa
    clear h1 ha hb
    go_enter Try.func56, Try.ntmps56
    go_wp2_with (fail)
    refine (hsa _ HA.out).mono ?_
    rintro e w' ⟨rfl, n, rfl⟩
    go_wp2_with (fail)
    go_ret2
    exact lc_nil HE.out (below_draws (Below.refl _ _) n)
  · cases h2 : scaleB zs
    · have HE : Bx (comC xs zs = ([], 1)) := Bx.mk (by simp [comC, h2])
      rw [h1] at hsa
      rw [h2] at hsb
      clear h1 h2 ha hb
      go_enter Try.func56, Try.ntmps56
      go_wp2_with (fail)
      refine (hsa _ HA.out).mono ?_
      rintro e w' ⟨rfl, n, rfl⟩
      go_wp2_with (fail)
      refine (hsb _ (HB.out.draws n)).mono ?_
      rintro e w' ⟨rfl, n2, rfl⟩
      go_wp2_with (fail)
      go_ret2
      exact lc_nil HE.out (below_draws (Below.refl _ _) (n + n2))
    · have HE : Bx (comC xs zs = (comL xs zs xs.length, 0)) := Bx.mk (by simp [comC, h1, h2])
      obtain ⟨⟨l1, l2⟩, _, _⟩ := scale_yes h1
      obtain ⟨i0, hi, hz0, hz1, hz2⟩ := info_parts infoI64
      obtain ⟨b, o, c, hv, hbl, hc⟩ := ha.form (by omega)
      obtain ⟨rfl, rfl⟩ : A1 = some ⟨b, o, none⟩ ∧ c1 = c := by
        injection hv with e1 _ e3
        exact ⟨e1, e3⟩
      have hha := fun t W h => spec_has (.slice A2 zs.length c2) zs t W h hz
      have HC := Bx.mk hc
      rw [h1] at hsa
      rw [h2] at hsb
      clear h1 h2 ha hb hc hv
      go_enter Try.func56, Try.ntmps56
      go_wp2_with (fail)
      refine (hsa _ HA.out).mono ?_
      rintro e w' ⟨rfl, n, rfl⟩
      go_wp2_with (fail)
      refine (hsb _ (HB.out.draws n)).mono ?_
      rintro e w' ⟨rfl, n2, rfl⟩
      go_wp2_with (fail)
      go_loopw [6, 7] (fun v i wr => ∃ j : Nat, j ≤ xs.length ∧ i = .int .i64 j ∧ wr.ownsRow w.heap.size 2 1 v (comL xs zs j).length (ints (comL xs zs j)) ∧ Below w.heap.size w wr) (fun _ i _ => xs.length - (intOf i).toNat)
      case atStart => exact ⟨0, Nat.zero_le _, rfl, World.ownsRow_lit (w.drewN (n + n2)) _ _ (Nat.le_refl w.heap.size) (by decide) (by decide), (below_draws (Below.refl _ _) (n + n2)).alloc (Nat.le_refl w.heap.size) _⟩
      case round =>
        obtain ⟨j, hj, rfl, hown, hbw⟩ := hrel
        have hsz := hbw.size
        by_cases hlt : j < xs.length
        · have h1 : wr.cell? ⟨b, o + j, none⟩ = some (.int .i64 (xs.getD j 0)) := (hbw.cell (p := ⟨b, o + j, none⟩) hbl).trans (HC.out _ hlt)
          have HBr := Bx.mk (HB.out.below hbw)
          have hh := fun W h => hha (xs.getD j 0) W h
          have j0 : (0 : Int) ≤ (j : Int) := Int.natCast_nonneg _
          have j1 : (j : Int) < (xs.length : Int) := by omega
          have HLn : Bx ((comL xs zs j).length ≤ j) := Bx.mk (comL_len xs zs j)
          cases hq : hasB zs (xs.getD j 0)
          · have HS : Bx (comL xs zs (j + 1) = comL xs zs j) := Bx.mk (by rw [comL, if_neg (by rw [hq]; decide)])
            rw [hq] at hh
            clear hq hha
            generalize xs.getD j 0 = y at *
            go_wp2_with (fail)
            refine (hh _ HBr.out).mono ?_
            rintro e w4 ⟨rfl, rfl⟩
            go_wp2_with (fail)
            go_roundw
            case rel => exact ⟨j + 1, by omega, by go_num, by rw [HS.out]; exact hown, hbw⟩
            case measure => simp [intOf]; omega
          · have HS : Bx (comL xs zs (j + 1) = comL xs zs j ++ [xs.getD j 0]) := Bx.mk (by rw [comL, if_pos hq])
            rw [hq] at hh
            clear hq hha
            generalize xs.getD j 0 = y at *
            go_wp2_with (fail)
            refine (hh _ HBr.out).mono ?_
            rintro e w4 ⟨rfl, rfl⟩
            go_wp2_with ((at_builtin; refine wpList_append_own _ rfl _ _ 24 rfl w.heap.size 2 i0 (.int .i64 0) 1 8 Try.underlying24 hi hz0 hz1 hz2 rfl (by decide) _ _ _ rfl (hown.alloc _) ⟨wr.heap.size, 0, none⟩ 1 1 [.int .i64 y] rfl rfl (cell_one_new _ _ _) (fun x hx => by simp at hx; subst hx; rfl) (by have := HLn.out; unfold maxLen; omega) (by have := HLn.out; omega) (by simp; omega) ?_; intro v' w3 hown' hgrow3 hnil3))
            have hown2 : w3.ownsRow w.heap.size 2 1 v' (comL xs zs (j + 1)).length (ints (comL xs zs (j + 1))) := by
              rw [HS.out, ints_snoc', List.length_append]; exact hown'
            have hb2 : Below w.heap.size w w3 := below_app' hbw hown (Nat.le_refl _) hgrow3
            clear hown' hgrow3 hnil3 hown
            go_roundw
            case rel => exact ⟨j + 1, by omega, by go_num, hown2, hb2⟩
            case measure => simp [intOf]; omega
        · obtain rfl : j = xs.length := by omega
          go_wp2_with (fail)
          go_ret2
          exact lc_some HE.out hown hbw
end Go.Proofs.Ytfoikipacnmgkaa
