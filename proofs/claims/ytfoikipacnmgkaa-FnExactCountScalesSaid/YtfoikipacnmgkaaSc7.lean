/- Scales: steps, by the model. -/
import Derived.Test.YtfoikipacnmgkaaSc6
namespace Go.Proofs.Ytfoikipacnmgkaa
open Go.ChangeShapes Go.WideShapes Go.ChangeAt Go.RowKit
set_option linter.unusedVariables false
set_option linter.unusedSimpArgs false
set_option maxRecDepth 100000

set_option maxHeartbeats 2000000 in
theorem spec_steps (v : Value) (zs : List Int) (w : World) (h : IntsAt w v zs) (hs : scaleB zs = true) :
    Calls Try.prog 87 #[v] w (NewRow (stepsZ zs) w) := by
  obtain ⟨i0, hi, hz0, hz1, hz2⟩ := info_parts infoI64
  obtain ⟨⟨l1, l2⟩, _, _⟩ := scale_yes hs
  obtain ⟨b, o, c, rfl, hb, hc⟩ := h.form (by omega)
  have HC := Bx.mk hc
  have HR := Bx.mk (scale_in hs)
  clear h hc hs
  go_enter Try.func87, Try.ntmps87
  go_wp2_with (fail)
  obtain ⟨q, hq⟩ : ∃ q, zs.length = q + 1 := ⟨zs.length - 1, by omega⟩
  have q0 : (0 : Int) ≤ (q : Int) := Int.natCast_nonneg _
  have q1 : (q : Int) < (zs.length : Int) := by omega
  have Q1 : IntKind.i64.wrap ((zs.length : Int) - 1) = (q : Int) := by rw [IntWalk.i64_in _ (by omega)]; omega
  have Q2 : (zs.length : Int) - 1 = (q : Int) := by omega
  have HE : Bx (stepsZ zs = stepL zs q ++ [12 - zs.getD q 0]) := Bx.mk (by rw [stepsZ, show zs.length - 1 = q by omega])
  have HQ := Bx.mk hq
  clear hq
  go_loopw [3, 4] (fun v i wr => ∃ j : Nat, j + 1 ≤ zs.length ∧ i = .int .i64 ((j : Int) + 1) ∧ wr.ownsRow w.heap.size 2 1 v (stepL zs j).length (ints (stepL zs j)) ∧ Below w.heap.size w wr) (fun _ i _ => zs.length - (intOf i).toNat)
  case atStart => exact ⟨0, by omega, rfl, World.ownsRow_lit _ _ _ (Nat.le_refl _) (by decide) (by decide), (Below.refl _ _).alloc (Nat.le_refl _) _⟩
  case round =>
    obtain ⟨j, hj, rfl, hown, hbw⟩ := hrel
    have hsz := hbw.size
    have hll := stepL_len zs j
    have og := own_far hown hb
    by_cases hlt : j + 1 < zs.length
    · have h1 : wr.cell? ⟨b, o + (j + 1), none⟩ = some (.int .i64 (zs.getD (j + 1) 0)) := (hbw.cell (p := ⟨b, o + (j + 1), none⟩) hb).trans (HC.out _ hlt)
      have h2 : wr.cell? ⟨b, o + j, none⟩ = some (.int .i64 (zs.getD j 0)) := (hbw.cell (p := ⟨b, o + j, none⟩) hb).trans (HC.out _ (by omega))
      have HS : Bx (stepL zs (j + 1) = stepL zs j ++ [zs.getD (j + 1) 0 - zs.getD j 0]) := Bx.mk (stepL_succ zs j)
      obtain ⟨r1, r2⟩ := HR.out _ hlt
      obtain ⟨r3, r4⟩ := HR.out j (by omega)
      have m0 : (0 : Int) ≤ (j : Int) + 1 := by omega
      have m1 : (j : Int) + 1 < (zs.length : Int) := by omega
      have j0 : (0 : Int) ≤ (j : Int) := Int.natCast_nonneg _
      have j1 : (j : Int) < (zs.length : Int) := by omega
      have E1 : IntKind.i64.wrap ((j : Int) + 1 - 1) = (j : Int) := by rw [IntWalk.i64_in _ (by omega)]; omega
      have E4 : IntKind.i64.wrap (j : Int) = (j : Int) := IntWalk.i64_in _ (by omega)
      have E2 : ((j : Int) + 1).toNat = j + 1 := by omega
      generalize zs.getD (j + 1) 0 = y at *
      generalize zs.getD j 0 = x at *
      have E3 : IntKind.i64.wrap (y - x) = y - x := IntWalk.i64_in _ (by omega)
      clear HE
      go_wp2_with (fail)
      go_region_held3 (fun W => W.cell? ⟨b, o + (j + 1), none⟩ = some (.int .i64 y) ∧ W.cell? ⟨b, o + j, none⟩ = some (.int .i64 x))
        (first
          | go_keep
          | (go_split_ands
             refine ⟨?_, ?_⟩
             · (rw [hgrow.cell_far ⟨b, o + (j + 1), none⟩ (by simp; omega) (Ne.symm og)]; assumption)
             · (rw [hgrow.cell_far ⟨b, o + j, none⟩ (by simp; omega) (Ne.symm og)]; assumption)))
        ((refine step_append_lies _ (by rfl) _ _ _ (by rfl) w.heap.size 2 i0 _ 1 8 Try.underlying24 hi hz0 hz1 hz2 rfl (by omega) _ _ _ (by rfl) ((hown.alloc _).drew) ⟨wr.heap.size, 0, none⟩ 1 1 [.int .i64 (y - x)] (by rfl) (by rfl) (World.news_of_block (cs := #[.int .i64 (y - x)]) (t := 2) (fr := (0, 0)) (heap_alloc_new wr _)) (by simp [Value.oneCell']) (by omega) (by unfold maxLen; omega) (by omega) (by simp; omega) (wr.heap.size + 1) (by simp) ?_; intro gg cap w1 hown1 hgrow hat hlt1))
      have hb2 : Below w.heap.size w w1 := ((hbw.alloc hsz _).drew).grown hgrow (by simp; omega) (own_ge' hown)
      have hown2 : w1.ownsRow w.heap.size 2 1 (.slice (some ⟨gg, 0, none⟩) (j + 1) cap) (stepL zs (j + 1)).length (ints (stepL zs (j + 1))) := by
        rw [HS.out, ints_snoc', List.length_append]; rw [hll] at hown1 ⊢; exact hown1
      clear hown1 hgrow hown og h1 h2 hat E1 E2
      go_wp2_with (fail)
      go_roundw
      case rel => exact ⟨j + 1, by omega, by go_num, hown2, hb2⟩
      case measure => simp [intOf]; omega
    · have HZ : (j : Int) + 1 = (zs.length : Int) := by omega
      have hq := HQ.out
      obtain rfl : j = q := by omega
      have HL : Bx ((stepL zs j).length + 1 ≤ 12) := Bx.mk (by omega)
      have h2 : wr.cell? ⟨b, o + j, none⟩ = some (.int .i64 (zs.getD j 0)) := (hbw.cell (p := ⟨b, o + j, none⟩) hb).trans (HC.out _ (by omega))
      obtain ⟨r3, r4⟩ := HR.out j (by omega)
      generalize zs.getD j 0 = x at *
      have E3 : IntKind.i64.wrap (12 - x) = 12 - x := IntWalk.i64_in _ (by omega)
      clear hj hlt hq
      go_wp2_with ((at_builtin; refine wpList_append_own _ rfl _ _ 24 rfl w.heap.size 2 i0 (.int .i64 0) 1 8 Try.underlying24 hi hz0 hz1 hz2 rfl (by decide) _ _ _ rfl (hown.alloc _) ⟨wr.heap.size, 0, none⟩ 1 1 [.int .i64 (12 - x)] rfl rfl (cell_one_new _ _ _) (fun x hx => by simp at hx; subst hx; rfl) (by have := HL.out; unfold maxLen; omega) (by have := HL.out; omega) (by simp; omega) ?_; intro v' w3 hown' hgrow3 hnil3))
      have hown2 : w3.ownsRow w.heap.size 2 1 v' (stepsZ zs).length (ints (stepsZ zs)) := by
        rw [HE.out, ints_snoc', List.length_append]; exact hown'
      have hb2 : Below w.heap.size w w3 := below_app' hbw hown (Nat.le_refl _) hgrow3
      clear hown' hgrow3 hnil3 hown
      go_wp2_with (fail)
      go_ret
      exact ⟨_, rfl, hown2, hb2⟩
end Go.Proofs.Ytfoikipacnmgkaa
