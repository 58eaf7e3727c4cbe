/- The program's distances from the final states. -/
import Derived.Test.YtpbgjlmcafmejaaGdM
import Derived.Test.YtpbgjlmcafmejaaGa2
import Derived.BigRegion
namespace Go.Proofs.Ytpbgjlmcafmejaa
open Go.ChangeShapes Go.WideShapes Go.ChangeAt Go.RowKit
set_option linter.unusedVariables false
set_option linter.unusedSimpArgs false
set_option maxRecDepth 100000

def dPart (D : Nat → Int) (l : List (Int × Int × Int)) (k : Nat) : Nat → Int := (l.take k).foldl dStep D
theorem ifmin (x y : Int) : (if y < x then y else x) = min x y := by split <;> omega
theorem dPart_succ {D : Nat → Int} {l : List (Int × Int × Int)} {k : Nat} (h : k < l.length) : dPart D l (k + 1) = dStep (dPart D l k) (tat l k) := by
  unfold dPart
  rw [List.take_succ_eq_append_getElem h, List.foldl_append, tat_get h]
  rfl
theorem dPart_all (D : Nat → Int) (l : List (Int × Int × Int)) : dPart D l l.length = dRound l D := by unfold dPart dRound; rw [List.take_length]
theorem dist0_hit (fs : List Int) (j : Nat) (h : hasB fs (j : Int) = false) : rowF (upd (dist0 fs j) j 32) 32 = rowF (dist0 fs (j + 1)) 32 := by
  refine rowF_congr (fun i hi => ?_)
  unfold upd dist0
  by_cases e : i = j
  · subst e; rw [if_pos rfl, if_pos ⟨by omega, h⟩]
  · rw [if_neg e]
    by_cases e2 : i < j ∧ hasB fs (i : Int) = false
    · rw [if_pos e2, if_pos ⟨by omega, e2.2⟩]
    · rw [if_neg e2, if_neg (fun hh => e2 ⟨by omega, hh.2⟩)]
theorem dist0_miss (fs : List Int) (j : Nat) (h : hasB fs (j : Int) = true) : rowF (dist0 fs j) 32 = rowF (dist0 fs (j + 1)) 32 := by
  refine rowF_congr (fun i hi => ?_)
  unfold dist0
  by_cases e : i = j
  · subst e; rw [if_neg (by omega), if_neg (fun hh => by rw [hh.2] at h; cases h)]
  · by_cases e2 : i < j ∧ hasB fs (i : Int) = false
    · rw [if_pos e2, if_pos ⟨by omega, e2.2⟩]
    · rw [if_neg e2, if_neg (fun hh => e2 ⟨by omega, hh.2⟩)]
theorem dist0_zero (fs : List Int) : rowF (dist0 fs 0) 32 = rowF zF 32 := by
  refine rowF_congr (fun i hi => ?_)
  unfold dist0 zF
  rw [if_neg (by omega)]
theorem zero_dist : (#[.int .i64 0, .int .i64 0, .int .i64 0, .int .i64 0, .int .i64 0, .int .i64 0, .int .i64 0, .int .i64 0, .int .i64 0, .int .i64 0, .int .i64 0, .int .i64 0, .int .i64 0, .int .i64 0, .int .i64 0, .int .i64 0, .int .i64 0, .int .i64 0, .int .i64 0, .int .i64 0, .int .i64 0, .int .i64 0, .int .i64 0, .int .i64 0, .int .i64 0, .int .i64 0, .int .i64 0, .int .i64 0, .int .i64 0, .int .i64 0, .int .i64 0, .int .i64 0] : Array Value) = (List.replicate 32 (Value.int .i64 0)).toArray := by kernel_rfl
theorem info_dist (F : Nat → Int) : (Try.prog.info? 111).map (·.size) = some (rowF F 32).toArray.size := by
  have h : (Try.prog.info? 111).map (·.size) = some 32 := by kernel_rfl
  rw [h]; simp [rowF]
theorem rowF_one2 (F : Nat → Int) (m : Nat) : (rowF F m).toArray.all (·.oneCell') = true := by simp [rowF, Value.oneCell']
set_option maxHeartbeats 4000000 in
theorem impl_dist (v : Value) (G : Gr) (w : World) (h : GrAt w v G) (hm : SmG G) (hok : OkGr G) :
    Calls Try.prog 91 #[v] w fun e w' => e = .returned (.agg (rowF (distN G.f G.a G.n.toNat G.n.toNat) 32).toArray) ∧ Below w.heap.size w w' := by
  obtain ⟨B, b, C, c, rfl, i1, i2⟩ := gr_form h
  have mf := hm.f
  have ml := hok.l
  have HAR := Bx.mk hok.ar
  have hn := hok.n
  clear h hm hok
  obtain ⟨m, hnm⟩ : ∃ m : Nat, G.n = m := ⟨G.n.toNat, by omega⟩
  have HTR : Bx (∀ t ∈ G.a, t.2.2.toNat < m) := Bx.mk (fun t ht => by
    obtain ⟨i, hi, rfl⟩ := List.mem_iff_getElem.1 ht
    have := (HAR.out i hi).2.2
    rw [tat_get hi] at this
    omega)
  have hm1 : 1 ≤ m := by omega
  have hm32 : m ≤ 32 := by omega
  have HNM := Bx.mk hnm
  go_enter Try.func91, Try.ntmps91
  clear hnm hn
  go_upto_region 2 with (fail)
  have Z0 : BoxN (((w.alloc (.cells #[.int .i64 G.n, .int .i64 G.s, .slice B G.f.length b, .slice C G.a.length c] 30)).alloc (.cells #[.int .i64 0, .int .i64 0, .int .i64 0, .int .i64 0, .int .i64 0, .int .i64 0, .int .i64 0, .int .i64 0, .int .i64 0, .int .i64 0, .int .i64 0, .int .i64 0, .int .i64 0, .int .i64 0, .int .i64 0, .int .i64 0, .int .i64 0, .int .i64 0, .int .i64 0, .int .i64 0, .int .i64 0, .int .i64 0, .int .i64 0, .int .i64 0, .int .i64 0, .int .i64 0, .int .i64 0, .int .i64 0, .int .i64 0, .int .i64 0, .int .i64 0, .int .i64 0] 111)).alloc (.cells #[.int .i64 0, .int .i64 0, .int .i64 0, .int .i64 0, .int .i64 0, .int .i64 0, .int .i64 0, .int .i64 0, .int .i64 0, .int .i64 0, .int .i64 0, .int .i64 0, .int .i64 0, .int .i64 0, .int .i64 0, .int .i64 0, .int .i64 0, .int .i64 0, .int .i64 0, .int .i64 0, .int .i64 0, .int .i64 0, .int .i64 0, .int .i64 0, .int .i64 0, .int .i64 0, .int .i64 0, .int .i64 0, .int .i64 0, .int .i64 0, .int .i64 0, .int .i64 0] 111)) w.heap.size #[.int .i64 G.n, .int .i64 G.s, .slice B G.f.length b, .slice C G.a.length c] 30 := ((BoxN.at w _ _ _ rfl).alloc _).alloc _
  have R0 : ArrAt (((w.alloc (.cells #[.int .i64 G.n, .int .i64 G.s, .slice B G.f.length b, .slice C G.a.length c] 30)).alloc (.cells #[.int .i64 0, .int .i64 0, .int .i64 0, .int .i64 0, .int .i64 0, .int .i64 0, .int .i64 0, .int .i64 0, .int .i64 0, .int .i64 0, .int .i64 0, .int .i64 0, .int .i64 0, .int .i64 0, .int .i64 0, .int .i64 0, .int .i64 0, .int .i64 0, .int .i64 0, .int .i64 0, .int .i64 0, .int .i64 0, .int .i64 0, .int .i64 0, .int .i64 0, .int .i64 0, .int .i64 0, .int .i64 0, .int .i64 0, .int .i64 0, .int .i64 0, .int .i64 0] 111)).alloc (.cells #[.int .i64 0, .int .i64 0, .int .i64 0, .int .i64 0, .int .i64 0, .int .i64 0, .int .i64 0, .int .i64 0, .int .i64 0, .int .i64 0, .int .i64 0, .int .i64 0, .int .i64 0, .int .i64 0, .int .i64 0, .int .i64 0, .int .i64 0, .int .i64 0, .int .i64 0, .int .i64 0, .int .i64 0, .int .i64 0, .int .i64 0, .int .i64 0, .int .i64 0, .int .i64 0, .int .i64 0, .int .i64 0, .int .i64 0, .int .i64 0, .int .i64 0, .int .i64 0] 111)) (w.heap.size + 1) (rowF zF 32) 111 := by
    have := (ArrAt.at (w.alloc (.cells #[.int .i64 G.n, .int .i64 G.s, .slice B G.f.length b, .slice C G.a.length c] 30)) (w.heap.size + 1) (rowF zF 32) 111 (by simp)).alloc (.cells #[.int .i64 0, .int .i64 0, .int .i64 0, .int .i64 0, .int .i64 0, .int .i64 0, .int .i64 0, .int .i64 0, .int .i64 0, .int .i64 0, .int .i64 0, .int .i64 0, .int .i64 0, .int .i64 0, .int .i64 0, .int .i64 0, .int .i64 0, .int .i64 0, .int .i64 0, .int .i64 0, .int .i64 0, .int .i64 0, .int .i64 0, .int .i64 0, .int .i64 0, .int .i64 0, .int .i64 0, .int .i64 0, .int .i64 0, .int .i64 0, .int .i64 0, .int .i64 0] 111)
    rw [rowF_zero, ← zero_dist] at this
    rw [rowF_zero]
    simpa using this
  have A0 : ArrAt (((w.alloc (.cells #[.int .i64 G.n, .int .i64 G.s, .slice B G.f.length b, .slice C G.a.length c] 30)).alloc (.cells #[.int .i64 0, .int .i64 0, .int .i64 0, .int .i64 0, .int .i64 0, .int .i64 0, .int .i64 0, .int .i64 0, .int .i64 0, .int .i64 0, .int .i64 0, .int .i64 0, .int .i64 0, .int .i64 0, .int .i64 0, .int .i64 0, .int .i64 0, .int .i64 0, .int .i64 0, .int .i64 0, .int .i64 0, .int .i64 0, .int .i64 0, .int .i64 0, .int .i64 0, .int .i64 0, .int .i64 0, .int .i64 0, .int .i64 0, .int .i64 0, .int .i64 0, .int .i64 0] 111)).alloc (.cells #[.int .i64 0, .int .i64 0, .int .i64 0, .int .i64 0, .int .i64 0, .int .i64 0, .int .i64 0, .int .i64 0, .int .i64 0, .int .i64 0, .int .i64 0, .int .i64 0, .int .i64 0, .int .i64 0, .int .i64 0, .int .i64 0, .int .i64 0, .int .i64 0, .int .i64 0, .int .i64 0, .int .i64 0, .int .i64 0, .int .i64 0, .int .i64 0, .int .i64 0, .int .i64 0, .int .i64 0, .int .i64 0, .int .i64 0, .int .i64 0, .int .i64 0, .int .i64 0] 111)) (w.heap.size + 1 + 1) (rowF (dist0 G.f 0) 32) 111 := by
    have := ArrAt.at ((w.alloc (.cells #[.int .i64 G.n, .int .i64 G.s, .slice B G.f.length b, .slice C G.a.length c] 30)).alloc (.cells #[.int .i64 0, .int .i64 0, .int .i64 0, .int .i64 0, .int .i64 0, .int .i64 0, .int .i64 0, .int .i64 0, .int .i64 0, .int .i64 0, .int .i64 0, .int .i64 0, .int .i64 0, .int .i64 0, .int .i64 0, .int .i64 0, .int .i64 0, .int .i64 0, .int .i64 0, .int .i64 0, .int .i64 0, .int .i64 0, .int .i64 0, .int .i64 0, .int .i64 0, .int .i64 0, .int .i64 0, .int .i64 0, .int .i64 0, .int .i64 0, .int .i64 0, .int .i64 0] 111)) (w.heap.size + 1 + 1) (rowF zF 32) 111 (by simp)
    rw [rowF_zero, ← zero_dist] at this
    rw [dist0_zero, rowF_zero]
    simpa using this
  have B0 : Below w.heap.size w (((w.alloc (.cells #[.int .i64 G.n, .int .i64 G.s, .slice B G.f.length b, .slice C G.a.length c] 30)).alloc (.cells #[.int .i64 0, .int .i64 0, .int .i64 0, .int .i64 0, .int .i64 0, .int .i64 0, .int .i64 0, .int .i64 0, .int .i64 0, .int .i64 0, .int .i64 0, .int .i64 0, .int .i64 0, .int .i64 0, .int .i64 0, .int .i64 0, .int .i64 0, .int .i64 0, .int .i64 0, .int .i64 0, .int .i64 0, .int .i64 0, .int .i64 0, .int .i64 0, .int .i64 0, .int .i64 0, .int .i64 0, .int .i64 0, .int .i64 0, .int .i64 0, .int .i64 0, .int .i64 0] 111)).alloc (.cells #[.int .i64 0, .int .i64 0, .int .i64 0, .int .i64 0, .int .i64 0, .int .i64 0, .int .i64 0, .int .i64 0, .int .i64 0, .int .i64 0, .int .i64 0, .int .i64 0, .int .i64 0, .int .i64 0, .int .i64 0, .int .i64 0, .int .i64 0, .int .i64 0, .int .i64 0, .int .i64 0, .int .i64 0, .int .i64 0, .int .i64 0, .int .i64 0, .int .i64 0, .int .i64 0, .int .i64 0, .int .i64 0, .int .i64 0, .int .i64 0, .int .i64 0, .int .i64 0] 111)) := (((Below.refl _ _).alloc (Nat.le_refl _) _).alloc (by simp) _).alloc (by simp; omega) _
  have HF := Bx.mk i1
  have HT := Bx.mk i2
  clear i1 i2
  obtain ⟨g, hg⟩ : ∃ x, x = w.heap.size := ⟨_, rfl⟩
  have HGB := Bx.mk (show w.heap.size ≤ g by omega)
  rw [← hg] at Z0 R0 A0 ⊢
  clear hg
  generalize ((w.alloc (.cells #[.int .i64 G.n, .int .i64 G.s, .slice B G.f.length b, .slice C G.a.length c] 30)).alloc (.cells #[.int .i64 0, .int .i64 0, .int .i64 0, .int .i64 0, .int .i64 0, .int .i64 0, .int .i64 0, .int .i64 0, .int .i64 0, .int .i64 0, .int .i64 0, .int .i64 0, .int .i64 0, .int .i64 0, .int .i64 0, .int .i64 0, .int .i64 0, .int .i64 0, .int .i64 0, .int .i64 0, .int .i64 0, .int .i64 0, .int .i64 0, .int .i64 0, .int .i64 0, .int .i64 0, .int .i64 0, .int .i64 0, .int .i64 0, .int .i64 0, .int .i64 0, .int .i64 0] 111)).alloc (.cells #[.int .i64 0, .int .i64 0, .int .i64 0, .int .i64 0, .int .i64 0, .int .i64 0, .int .i64 0, .int .i64 0, .int .i64 0, .int .i64 0, .int .i64 0, .int .i64 0, .int .i64 0, .int .i64 0, .int .i64 0, .int .i64 0, .int .i64 0, .int .i64 0, .int .i64 0, .int .i64 0, .int .i64 0, .int .i64 0, .int .i64 0, .int .i64 0, .int .i64 0, .int .i64 0, .int .i64 0, .int .i64 0, .int .i64 0, .int .i64 0, .int .i64 0, .int .i64 0] 111) = W0 at *
  have B_0 := Bx.mk B0
  clear B0
  have y0 : W0.cell? ⟨g, 0, none⟩ = some (.int .i64 (m : Int)) := by rw [← HNM.out]; exact Z0.c (k := 0) rfl
  have yl := Z0.lt
  have Z_0 := Bx.mk Z0
  have R_0 := Bx.mk R0
  have A_0 := Bx.mk A0
  clear Z0 R0 A0
  go_wp2_with (fail)
  clear y0 yl
  go_loopw [9] (fun i wr => ∃ j : Nat, j ≤ m ∧ i = .int .i64 j ∧ Bx (ArrAt wr (g + 1 + 1) (rowF (dist0 G.f j) 32) 111) ∧ Bx (ArrAt wr (g + 1) (rowF zF 32) 111) ∧ Bx (BoxN wr g #[.int .i64 G.n, .int .i64 G.s, .slice B G.f.length b, .slice C G.a.length c] 30) ∧ Bx (Below w.heap.size w wr)) (fun i _ => m - (intOf i).toNat)
  case atStart => exact ⟨0, Nat.zero_le _, rfl, A_0, R_0, Z_0, B_0⟩
  case round =>
    clear A_0 R_0 Z_0 B_0
    obtain ⟨j, hj, rfl, HA, HR, HZ, HB⟩ := hrel
    by_cases hlt : j < m
    · have dlt : decide ((j : Int) < (m : Int)) = true := decide_eq_true (by omega)
      have x1 : (0 : Int) ≤ (j : Int) := by omega
      have x2 : (j : Int) < 32 := by omega
      have y0 : wr.cell? ⟨g, 0, none⟩ = some (.int .i64 (m : Int)) := by rw [← HNM.out]; exact HZ.out.c (k := 0) rfl
      have y1 := HZ.out.c (k := 1) rfl
      have y2 := HZ.out.c (k := 2) rfl
      have y3 := HZ.out.c (k := 3) rfl
      have yl := HZ.out.lt
      have hq := impl_isfinal (m : Int) G.s B b G.f (.slice C G.a.length c) (j : Int) wr (HF.out.below HB.out) mf
      have H0 := Bx.mk (dist0_hit G.f j)
      have H1 := Bx.mk (dist0_miss G.f j)
      generalize hasB G.f (j : Int) = hb at hq H0 H1
      go_wp2_with (fail)
      refine hq.mono ?_
      rintro r w4 ⟨rfl, hb4⟩
      have HA4 := Bx.mk (HA.out.below hb4)
      have HR4 := Bx.mk (HR.out.below hb4)
      have HZ4 := Bx.mk (HZ.out.below hb4)
      have HB4 := Bx.mk (HB.out.trans (hb4.mono HB.out.size))
      clear hb4 HA HR HZ HB y0 y1 y2 y3 yl hq
      cases hb
      · have a0 : w4.cell? ⟨g + 1 + 1, j, none⟩ = some (.int .i64 (dist0 G.f j j)) := (HA4.out.cell j).trans (rowF_at _ _ _ (by omega))
        have af := HA4.out.f0 j
        have al := HA4.out.lt
        have HA2 : Bx (ArrAt (w4.setCell ⟨g + 1 + 1, j, none⟩ (.int .i64 32)) (g + 1 + 1) (rowF (dist0 G.f (j + 1)) 32) 111) := Bx.mk (by
          have := HA4.out.put j (.int .i64 32)
          rw [rowF_set, H0.out rfl] at this
          exact this)
        have HR2 := Bx.mk (HR4.out.other (b := g + 1 + 1) (o := j) (by omega) (.int .i64 32))
        have HZ2 := Bx.mk (HZ4.out.other (b := g + 1 + 1) (o := j) (by omega) (.int .i64 32))
        have HB2 := Bx.mk (HB4.out.setCell (p := ⟨g + 1 + 1, j, none⟩) (by have := HGB.out; dsimp only; omega) (.int .i64 32))
        clear HA4 HR4 HZ4 HB4
        generalize dist0 G.f j j = dv at a0
        go_wp2_with (fail)
        go_roundw
        case rel => exact ⟨j + 1, by omega, by go_num, HA2, HR2, HZ2, HB2⟩
        case measure => simp [intOf]; omega
      · have HA2 : Bx (ArrAt w4 (g + 1 + 1) (rowF (dist0 G.f (j + 1)) 32) 111) := Bx.mk (by rw [← H1.out rfl]; exact HA4.out)
        clear HA4
        go_wp2_with (fail)
        go_roundw
        case rel => exact ⟨j + 1, by omega, by go_num, HA2, HR4, HZ4, HB4⟩
        case measure => simp [intOf]; omega
    · obtain rfl : j = m := by omega
      have dlt : decide ((j : Int) < (j : Int)) = false := decide_eq_false (by omega)
      have HA2 : Bx (ArrAt wr (g + 1 + 1) (rowF (distN G.f G.a j 0) 32) 111) := HA
      have y0 : wr.cell? ⟨g, 0, none⟩ = some (.int .i64 (j : Int)) := by rw [← HNM.out]; exact HZ.out.c (k := 0) rfl
      have yl := HZ.out.lt
      clear HA hlt
      go_wp2_with (fail)
      clear y0 yl
      go_loopw [21] (fun i wr => ∃ r : Nat, r ≤ j ∧ i = .int .i64 r ∧ Bx (ArrAt wr (g + 1 + 1) (rowF (distN G.f G.a j r) 32) 111) ∧ Bx (ArrAt wr (g + 1) (rowF zF 32) 111) ∧ Bx (BoxN wr g #[.int .i64 G.n, .int .i64 G.s, .slice B G.f.length b, .slice C G.a.length c] 30) ∧ Bx (Below w.heap.size w wr)) (fun i _ => j - (intOf i).toNat)
      case atStart => exact ⟨0, Nat.zero_le _, rfl, HA2, HR, HZ, HB⟩
      case round =>
        clear HA2 HR HZ HB
        obtain ⟨r, hr, rfl, HA, HR, HZ, HB⟩ := hrel
        by_cases hlr : r < j
        · have dln : decide ((r : Int) < (j : Int)) = true := decide_eq_true (by omega)
          have y3 := HZ.out.c (k := 3) rfl
          have yl := HZ.out.lt
          have HDR := Bx.mk (distN_ok (fs := G.f) HTR.out r)
          have HNX : Bx (dRound G.a (distN G.f G.a j r) = distN G.f G.a j (r + 1)) := Bx.mk rfl
          generalize distN G.f G.a j r = D at *
          go_wp2_with (fail)
          clear y3 yl
          go_loopw [26] (fun i wr => ∃ a : Nat, a ≤ G.a.length ∧ i = .int .i64 a ∧ Bx (ArrAt wr (g + 1 + 1) (rowF (dPart D G.a a) 32) 111) ∧ Bx (ArrAt wr (g + 1) (rowF zF 32) 111) ∧ Bx (BoxN wr g #[.int .i64 G.n, .int .i64 G.s, .slice B G.f.length b, .slice C G.a.length c] 30) ∧ Bx (Below w.heap.size w wr)) (fun i _ => G.a.length - (intOf i).toNat)
          case atStart => exact ⟨0, Nat.zero_le _, rfl, HA, HR, HZ, HB⟩
          case round =>
            clear HA HR HZ HB
            obtain ⟨a, ha, rfl, HA, HR, HZ, HB⟩ := hrel
            by_cases hla : a < G.a.length
            · obtain ⟨bb, oo, cc, hv, lb, hc⟩ := (HT.out.below HB.out).form (by omega)
              injection hv with hA1 _ hC1
              subst hA1 hC1
              replace hc := hc a hla
              have x1 : (0 : Int) ≤ (a : Int) := by omega
              have x2 : (a : Int) < (G.a.length : Int) := by omega
              have dla : decide ((a : Int) < (G.a.length : Int)) = true := decide_eq_true x2
              have hst := Bx.mk (dPart_succ (D := D) hla)
              have hrr := HAR.out a hla
              have hpok := dFold_ok HTR.out (G.a.take a) D (fun t ht => List.mem_of_mem_take ht) HDR.out
              have hnm2 := HNM.out
              generalize tat G.a a = p at hc hst hrr
              obtain ⟨p1, p2, p3⟩ := p
              dsimp only at hc hrr
              obtain ⟨f, rfl⟩ : ∃ f : Nat, p1 = f := ⟨p1.toNat, by omega⟩
              obtain ⟨t, rfl⟩ : ∃ t : Nat, p3 = t := ⟨p3.toNat, by omega⟩
              obtain ⟨c1, c2, c3⟩ := hc
              have hfm : f < 32 := by omega
              have htm : t < 32 := by omega
              have hdt : 0 ≤ dPart D G.a a t ∧ dPart D G.a a t ≤ 32 := ⟨(hpok t (by omega)).1, (hpok t (by omega)).2.1⟩
              have hst2 : Bx (dPart D G.a (a + 1) = upd (dPart D G.a a) f (if dPart D G.a a t + 1 < dPart D G.a a f then dPart D G.a a t + 1 else dPart D G.a a f)) := Bx.mk (by rw [ifmin]; exact hst.out)
              clear hpok hnm2 hst
              go_wp2_with (fail)
              have bA : Below wr.heap.size wr (wr.alloc (.cells #[.int .i64 (f : Int), .int .i64 p2, .int .i64 (t : Int)] 76)) := (Below.refl _ _).alloc (Nat.le_refl _) _
              have XA := BoxN.at wr wr.heap.size #[.int .i64 (f : Int), .int .i64 p2, .int .i64 (t : Int)] 76 rfl
              have HA1 := Bx.mk (HA.out.below bA)
              have HR1 := Bx.mk (HR.out.below bA)
              have HZ1 := Bx.mk (HZ.out.below bA)
              have HB1 := Bx.mk (HB.out.trans (bA.mono HB.out.size))
              clear HA HR HZ HB c1 c2 c3 bA lb
              obtain ⟨ga, hga⟩ : ∃ x, x = wr.heap.size := ⟨_, rfl⟩
              rw [← hga] at XA ⊢
              clear hga
              generalize wr.alloc (.cells #[.int .i64 (f : Int), .int .i64 p2, .int .i64 (t : Int)] 76) = W1 at *
              have u0 := XA.c (k := 0) rfl
              have u2 := XA.c (k := 2) rfl
              have ul := XA.lt
              clear XA
              have z1 : (0 : Int) ≤ (f : Int) := by omega
              have z2 : (f : Int) < 32 := by omega
              have z3 : (0 : Int) ≤ (t : Int) := by omega
              have z4 : (t : Int) < 32 := by omega
              have a0 : W1.cell? ⟨g + 1 + 1, f, none⟩ = some (.int .i64 (dPart D G.a a f)) := (HA1.out.cell _).trans (rowF_at _ _ _ hfm)
              have o0 : W1.cell? ⟨g + 1 + 1, t, none⟩ = some (.int .i64 (dPart D G.a a t)) := (HA1.out.cell _).trans (rowF_at _ _ _ htm)
              have af := HA1.out.f0 f
              have al := HA1.out.lt
              have HA2 : Bx (ArrAt (W1.setCell ⟨g + 1 + 1, f, none⟩ (.int .i64 (if dPart D G.a a t + 1 < dPart D G.a a f then dPart D G.a a t + 1 else dPart D G.a a f))).drew (g + 1 + 1) (rowF (dPart D G.a (a + 1)) 32) 111) := Bx.mk (by
                have := (HA1.out.put f (.int .i64 (if dPart D G.a a t + 1 < dPart D G.a a f then dPart D G.a a t + 1 else dPart D G.a a f))).draws 1
                rw [rowF_set] at this
                rw [hst2.out]
                exact this)
              have HR2 := Bx.mk ((HR1.out.other (b := g + 1 + 1) (o := f) (by omega) (.int .i64 (if dPart D G.a a t + 1 < dPart D G.a a f then dPart D G.a a t + 1 else dPart D G.a a f))).draws 1)
              have HZ2 := Bx.mk ((HZ1.out.other (b := g + 1 + 1) (o := f) (by omega) (.int .i64 (if dPart D G.a a t + 1 < dPart D G.a a f then dPart D G.a a t + 1 else dPart D G.a a f))).draws 1)
              have HB2 := Bx.mk ((HB1.out.setCell (p := ⟨g + 1 + 1, f, none⟩) (by have := HGB.out; dsimp only; omega) (.int .i64 (if dPart D G.a a t + 1 < dPart D G.a a f then dPart D G.a a t + 1 else dPart D G.a a f))).drew)
              have hwr : IntKind.i64.wrap (dPart D G.a a t + 1) = dPart D G.a a t + 1 := IntWalk.i64_in _ (by omega)
              generalize dPart D G.a a f = fv at a0 HA2 HR2 HZ2 HB2
              generalize hpv : dPart D G.a a t = pv at o0 HA2 HR2 HZ2 HB2 hdt hwr
              clear hst2 hrr HA1 HR1 HZ1 HB1 hpv hlr dln
              go_region
              go_wp2_with (fail)
              go_roundw
              case rel => exact ⟨a + 1, by omega, by go_num, HA2, HR2, HZ2, HB2⟩
              case measure => simp [intOf]; omega
            · obtain rfl : a = G.a.length := by omega
              have dla : decide ((G.a.length : Int) < (G.a.length : Int)) = false := decide_eq_false (by omega)
              have HA2 : Bx (ArrAt wr (g + 1 + 1) (rowF (distN G.f G.a j (r + 1)) 32) 111) := Bx.mk (by have := HA.out; rw [dPart_all, HNX.out] at this; exact this)
              clear HA
              go_wp2_with (fail)
              go_roundw
              case rel => exact ⟨r + 1, by omega, by go_num, HA2, HR, HZ, HB⟩
              case measure => simp [intOf]; omega
        · obtain rfl : r = j := by omega
          have dln : decide ((r : Int) < (r : Int)) = false := decide_eq_false (by omega)
          have hld := HA.out.load 32 2 Try.underlying111 (info_dist _)
          have hst := HR.out.store (rowF (distN G.f G.a r r) 32).toArray (info_dist _) (by simp [rowF]) (rowF_one2 _ _)
          have P := setRow_at HR.out (rowF (distN G.f G.a r r) 32).toArray
          have hB := setRow_below HB.out (show w.heap.size ≤ g + 1 by have := HGB.out; omega) (rowF (distN G.f G.a r r) 32).toArray
          have HNT : Bx (G.n.toNat = r) := Bx.mk (by rw [HNM.out]; rfl)
          clear HA HR HZ HB
          have HLL := Bx.mk (info_dist (distN G.f G.a r r))
          generalize hLd : rowF (distN G.f G.a r r) 32 = L at *
          have HLE := Bx.mk hLd
          clear hLd
          go_upto_region 16 with (fail)
          refine wp_region_lit ?_
          refine wpR_lod rfl 111 _ rfl (.pointer (some ⟨g + 1 + 1, 0, none⟩)) _ rfl hld ?_
          refine wpR_sto rfl 111 _ _ rfl (.pointer (some ⟨g + 1, 0, none⟩)) _ rfl rfl hst ?_
          refine wpList_nil ?_
          generalize wr.setRow (g + 1) L.toArray = W2 at *
          have hP : ArrAt W2 (g + 1) L 111 := by simpa using P
          clear hld hst P
          go_wp2_with (fail)
          refine bodyPost_ret (v := .agg L.toArray) ?_ rfl ⟨by rw [HNT.out, HLE.out], hB⟩
          exact results_cell_row Try.results91 _ W2 (g + 1) _ L.toArray (0, 0) _ (by simp [go_sem, Act.put]) hP Try.underlying111 rfl HLL.out
end Go.Proofs.Ytpbgjlmcafmejaa
