/- The program's table of ways. -/
import Derived.Test.YtpbgjlmcafmejaaGcM
import Derived.Test.YtpbgjlmcafmejaaGi
import Derived.BigRegion
namespace Go.Proofs.Ytpbgjlmcafmejaa
open Go.ChangeShapes Go.WideShapes Go.ChangeAt Go.RowKit
set_option linter.unusedVariables false
set_option linter.unusedSimpArgs false
set_option maxRecDepth 100000

def tab0 (P : Nat → Int) : Nat → Int := fun i => if i / 32 = 0 then P (i % 32) else 0
def tabW (G : Gr) (n : Nat) (P : Nat → Int) : Nat → Int := fun i => if i / 32 ≤ n then cntG G (i / 32) (i % 32) else if i / 32 = n + 1 then P (i % 32) else 0
def wayF (G : Gr) : Nat → Int := fun i => cntG G (i / 32) (i % 32)
theorem tab0_set (P : Nat → Int) (f : Nat) (v : Int) (h : f < 32) : (rowF (tab0 P) 416).set f (.int .i64 v) = rowF (tab0 (upd P f v)) 416 := by
  rw [rowF_set]
  refine rowF_congr (fun i hi => ?_)
  unfold tab0 upd
  try dsimp only
  by_cases e : i = f
  · subst e
    rw [if_pos rfl, if_pos (by omega), if_pos (by omega)]
  · rw [if_neg e]
    by_cases e2 : i / 32 = 0
    · rw [if_pos e2, if_pos e2, if_neg (by omega)]
    · rw [if_neg e2, if_neg e2]
theorem tabW_set (G : Gr) (n : Nat) (P : Nat → Int) (f : Nat) (v : Int) (h : f < 32) : (rowF (tabW G n P) 416).set ((n + 1) * 32 + f) (.int .i64 v) = rowF (tabW G n (upd P f v)) 416 := by
  rw [rowF_set]
  refine rowF_congr (fun i hi => ?_)
  unfold tabW upd
  try dsimp only
  by_cases e : i = (n + 1) * 32 + f
  · subst e
    rw [if_pos rfl, if_neg (by omega), if_pos (by omega), if_pos (by omega)]
  · rw [if_neg e]
    by_cases e1 : i / 32 ≤ n
    · rw [if_pos e1, if_pos e1]
    · rw [if_neg e1, if_neg e1]
      by_cases e2 : i / 32 = n + 1
      · rw [if_pos e2, if_pos e2, if_neg (by omega)]
      · rw [if_neg e2, if_neg e2]
theorem tab0_tabW (G : Gr) : rowF (tab0 (cntG G 0)) 416 = rowF (tabW G 0 zF) 416 := by
  refine rowF_congr (fun i hi => ?_)
  unfold tab0 tabW zF
  try dsimp only
  by_cases e : i / 32 = 0
  · rw [if_pos e, if_pos (by omega), e]
  · rw [if_neg e, if_neg (by omega)]; split <;> rfl
theorem tabW_next (G : Gr) (n : Nat) : rowF (tabW G n (cntG G (n + 1))) 416 = rowF (tabW G (n + 1) zF) 416 := by
  refine rowF_congr (fun i hi => ?_)
  unfold tabW zF
  try dsimp only
  by_cases e : i / 32 ≤ n
  · rw [if_pos e, if_pos (by omega)]
  · rw [if_neg e]
    by_cases e2 : i / 32 = n + 1
    · rw [if_pos e2, if_pos (by omega), e2]
    · rw [if_neg e2, if_neg (by omega)]; split <;> rfl
theorem tabW_all (G : Gr) : rowF (tabW G 12 zF) 416 = rowF (wayF G) 416 := by
  refine rowF_congr (fun i hi => ?_)
  unfold tabW wayF
  rw [if_pos (by omega)]
theorem tab0_zero : rowF (tab0 zF) 416 = List.replicate 416 (.int .i64 0) := by
  rw [← rowF_zero]
  refine rowF_congr (fun i hi => ?_)
  unfold tab0 zF
  split <;> rfl
theorem tabW_new (G : Gr) (n : Nat) (P : Nat → Int) (f : Nat) (h : f < 32) (hn : n < 12) : (rowF (tabW G n P) 416)[(n + 1) * 32 + f]? = some (.int .i64 (P f)) := by
  rw [rowF_at _ _ _ (by omega)]
  unfold tabW
  rw [if_neg (by omega), if_pos (by omega), show ((n + 1) * 32 + f) % 32 = f by omega]
theorem tabW_old (G : Gr) (n : Nat) (P : Nat → Int) (t : Nat) (h : t < 32) (hn : n < 12) : (rowF (tabW G n P) 416)[n * 32 + t]? = some (.int .i64 (cntG G n t)) := by
  rw [rowF_at _ _ _ (by omega)]
  unfold tabW
  rw [if_pos (by omega), show (n * 32 + t) / 32 = n by omega, show (n * 32 + t) % 32 = t by omega]
theorem zero_ways : Try.zeroCells107 = (List.replicate 416 (Value.int .i64 0)).toArray := by kernel_rfl
theorem info_ways (F : Nat → Int) : (Try.prog.info? 107).map (·.size) = some (rowF F 416).toArray.size := by
  have h : (Try.prog.info? 107).map (·.size) = some 416 := by kernel_rfl
  rw [h]; simp [rowF]
theorem rowF_one (F : Nat → Int) (m : Nat) : (rowF F m).toArray.all (·.oneCell') = true := by simp [rowF, Value.oneCell']
set_option maxHeartbeats 4000000 in
theorem impl_ways (v : Value) (G : Gr) (w : World) (h : GrAt w v G) (hm : SmG G) (hok : OkGr G) :
    Calls Try.prog 88 #[v] w fun e w' => e = .returned (.agg (rowF (wayF G) 416).toArray) ∧ Below w.heap.size w w' := by
  obtain ⟨B, b, C, c, rfl, i1, i2⟩ := gr_form h
  have mf := hm.f
  have ml := hok.l
  have HFR := Bx.mk (fun i hi => (hok.fr i hi : 0 ≤ G.f.getD i 0 ∧ G.f.getD i 0 < G.n))
  have HAR := Bx.mk hok.ar
  have hn := hok.n
  clear h hm hok
  go_enter Try.func88, Try.ntmps88
  go_upto_region 2 with (fail)
  have Z0 : BoxN (((w.alloc (.cells #[.int .i64 G.n, .int .i64 G.s, .slice B G.f.length b, .slice C G.a.length c] 30)).alloc (.cells Try.zeroCells107 107)).alloc (.cells Try.zeroCells107 107)) w.heap.size #[.int .i64 G.n, .int .i64 G.s, .slice B G.f.length b, .slice C G.a.length c] 30 := ((BoxN.at w _ _ _ rfl).alloc _).alloc _
  have R0 : ArrAt (((w.alloc (.cells #[.int .i64 G.n, .int .i64 G.s, .slice B G.f.length b, .slice C G.a.length c] 30)).alloc (.cells Try.zeroCells107 107)).alloc (.cells Try.zeroCells107 107)) (w.heap.size + 1) (rowF (tab0 zF) 416) 107 := by
    have := (ArrAt.at (w.alloc (.cells #[.int .i64 G.n, .int .i64 G.s, .slice B G.f.length b, .slice C G.a.length c] 30)) (w.heap.size + 1) (rowF (tab0 zF) 416) 107 (by simp)).alloc (.cells Try.zeroCells107 107)
    rw [tab0_zero, ← zero_ways] at this
    rw [tab0_zero]
    simpa using this
  have A0 : ArrAt (((w.alloc (.cells #[.int .i64 G.n, .int .i64 G.s, .slice B G.f.length b, .slice C G.a.length c] 30)).alloc (.cells Try.zeroCells107 107)).alloc (.cells Try.zeroCells107 107)) (w.heap.size + 1 + 1) (rowF (tab0 (finF (G.f.take 0))) 416) 107 := by
    have := ArrAt.at ((w.alloc (.cells #[.int .i64 G.n, .int .i64 G.s, .slice B G.f.length b, .slice C G.a.length c] 30)).alloc (.cells Try.zeroCells107 107)) (w.heap.size + 1 + 1) (rowF (tab0 zF) 416) 107 (by simp)
    rw [tab0_zero, ← zero_ways] at this
    rw [List.take_zero, show finF [] = zF from rfl, tab0_zero]
    simpa using this
  have B0 : Below w.heap.size w (((w.alloc (.cells #[.int .i64 G.n, .int .i64 G.s, .slice B G.f.length b, .slice C G.a.length c] 30)).alloc (.cells Try.zeroCells107 107)).alloc (.cells Try.zeroCells107 107)) := (((Below.refl _ _).alloc (Nat.le_refl _) _).alloc (by simp) _).alloc (by simp; omega) _
  have HF := Bx.mk i1
  have HT := Bx.mk i2
  clear i1 i2
  obtain ⟨g, hg⟩ : ∃ x, x = w.heap.size := ⟨_, rfl⟩
  have HGB := Bx.mk (show w.heap.size ≤ g by omega)
  rw [← hg] at Z0 R0 A0 ⊢
  clear hg
  generalize ((w.alloc (.cells #[.int .i64 G.n, .int .i64 G.s, .slice B G.f.length b, .slice C G.a.length c] 30)).alloc (.cells Try.zeroCells107 107)).alloc (.cells Try.zeroCells107 107) = W0 at *
  have B_0 := Bx.mk B0
  clear B0
  have y2 := Z0.c (k := 2) rfl
  have yl := Z0.lt
  have Z_0 := Bx.mk Z0
  have R_0 := Bx.mk R0
  have A_0 := Bx.mk A0
  clear Z0 R0 A0
  go_wp2_with (fail)
  clear y2 yl
  go_loopw [12] (fun i wr => ∃ j : Nat, j ≤ G.f.length ∧ i = .int .i64 j ∧ Bx (ArrAt wr (g + 1 + 1) (rowF (tab0 (finF (G.f.take j))) 416) 107) ∧ Bx (ArrAt wr (g + 1) (rowF (tab0 zF) 416) 107) ∧ Bx (BoxN wr g #[.int .i64 G.n, .int .i64 G.s, .slice B G.f.length b, .slice C G.a.length c] 30) ∧ Bx (Below w.heap.size w wr)) (fun i _ => G.f.length - (intOf i).toNat)
  case atStart => exact ⟨0, Nat.zero_le _, rfl, A_0, R_0, Z_0, B_0⟩
  case round =>
    clear A_0 R_0 Z_0 B_0
    obtain ⟨j, hj, rfl, HA, HR, HZ, HB⟩ := hrel
    by_cases hlt : j < G.f.length
    · obtain ⟨bb, oo, cc, hv, lb, hc⟩ := (HF.out.below HB.out).form (by omega)
      injection hv with hA1 _ hC1
      subst hA1 hC1
      have c1 := hc j hlt
      have x1 : (0 : Int) ≤ (j : Int) := by omega
      have x2 : (j : Int) < (G.f.length : Int) := by omega
      have dlt : decide ((j : Int) < (G.f.length : Int)) = true := decide_eq_true x2
      have hst := Bx.mk (finF_take hlt)
      have hr := HFR.out j hlt
      obtain ⟨f, hf⟩ : ∃ f : Nat, G.f.getD j 0 = f := ⟨(G.f.getD j 0).toNat, by omega⟩
      rw [hf] at c1 hst hr
      have hfm : f < 32 := by omega
      have z1 : (0 : Int) ≤ (f : Int) := by omega
      have z2 : (f : Int) < 32 := by omega
      have a0 : wr.cell? ⟨g + 1 + 1, f, none⟩ = some (.int .i64 (tab0 (finF (G.f.take j)) f)) := (HA.out.cell f).trans (rowF_at _ _ _ (by omega))
      have af := HA.out.f0 f
      have al := HA.out.lt
      have HA2 : Bx (ArrAt (wr.setCell ⟨g + 1 + 1, f, none⟩ (.int .i64 1)) (g + 1 + 1) (rowF (tab0 (finF (G.f.take (j + 1)))) 416) 107) := Bx.mk (by
        have := HA.out.put f (.int .i64 1)
        rw [tab0_set _ _ _ hfm] at this
        rw [hst.out]
        exact this)
      have HR2 := Bx.mk (HR.out.other (b := g + 1 + 1) (o := f) (by omega) (.int .i64 1))
      have HZ2 := Bx.mk (HZ.out.other (b := g + 1 + 1) (o := f) (by omega) (.int .i64 1))
      have HB2 := Bx.mk (HB.out.setCell (p := ⟨g + 1 + 1, f, none⟩) (by have := HGB.out; dsimp only; omega) (.int .i64 1))
      clear hc hst hf hr HA HR HZ HB
      go_wp2_with (fail)
      go_roundw
      case rel => exact ⟨j + 1, by omega, by go_num, HA2, HR2, HZ2, HB2⟩
      case measure => simp [intOf]; omega
    · obtain rfl : j = G.f.length := by omega
      have dlt : decide ((G.f.length : Int) < (G.f.length : Int)) = false := decide_eq_false (by omega)
      have HA2 : Bx (ArrAt wr (g + 1 + 1) (rowF (tabW G 0 zF) 416) 107) := Bx.mk (by have := HA.out; rw [List.take_length] at this; rw [← tab0_tabW]; exact this)
      clear HA hlt
      go_wp2_with (fail)
      go_loopw [20] (fun i wr => ∃ n : Nat, n ≤ 12 ∧ i = .int .i64 n ∧ Bx (ArrAt wr (g + 1 + 1) (rowF (tabW G n zF) 416) 107) ∧ Bx (ArrAt wr (g + 1) (rowF (tab0 zF) 416) 107) ∧ Bx (BoxN wr g #[.int .i64 G.n, .int .i64 G.s, .slice B G.f.length b, .slice C G.a.length c] 30) ∧ Bx (Below w.heap.size w wr)) (fun i _ => 12 - (intOf i).toNat)
      case atStart => exact ⟨0, Nat.zero_le _, rfl, HA2, HR, HZ, HB⟩
      case round =>
        clear HA2 HR HZ HB
        obtain ⟨n, hn12, rfl, HA, HR, HZ, HB⟩ := hrel
        by_cases hln : n < 12
        · have dln : decide ((n : Int) < 12) = true := decide_eq_true (by omega)
          have y3 := HZ.out.c (k := 3) rfl
          have yl := HZ.out.lt
          have HA0 : Bx (ArrAt wr (g + 1 + 1) (rowF (tabW G n (addF (cntG G n) (G.a.take 0))) 416) 107) := Bx.mk (by rw [List.take_zero]; exact HA.out)
          clear HA
          go_wp2_with (fail)
          clear y3 yl
          go_loopw [26] (fun i wr => ∃ a : Nat, a ≤ G.a.length ∧ i = .int .i64 a ∧ Bx (ArrAt wr (g + 1 + 1) (rowF (tabW G n (addF (cntG G n) (G.a.take a))) 416) 107) ∧ Bx (ArrAt wr (g + 1) (rowF (tab0 zF) 416) 107) ∧ Bx (BoxN wr g #[.int .i64 G.n, .int .i64 G.s, .slice B G.f.length b, .slice C G.a.length c] 30) ∧ Bx (Below w.heap.size w wr)) (fun i _ => G.a.length - (intOf i).toNat)
          case atStart => exact ⟨0, Nat.zero_le _, rfl, HA0, HR, HZ, HB⟩
          case round =>
            clear HA0 HR HZ HB
            obtain ⟨a, ha, rfl, HA, HR, HZ, HB⟩ := hrel
            by_cases hla : a < G.a.length
            · obtain ⟨bb, oo, cc, hv, lb, hc⟩ := (HT.out.below HB.out).form (by omega)
              injection hv with hA1 _ hC1
              subst hA1 hC1
              replace hc := hc a hla
              have x1 : (0 : Int) ≤ (a : Int) := by omega
              have x2 : (a : Int) < (G.a.length : Int) := by omega
              have dla : decide ((a : Int) < (G.a.length : Int)) = true := decide_eq_true x2
              have hst := Bx.mk (addF_take (P := cntG G n) hla)
              have hr := HAR.out a hla
              generalize tat G.a a = p at hc hst hr
              obtain ⟨p1, p2, p3⟩ := p
              dsimp only at hc hr
              obtain ⟨f, rfl⟩ : ∃ f : Nat, p1 = f := ⟨p1.toNat, by omega⟩
              obtain ⟨t, rfl⟩ : ∃ t : Nat, p3 = t := ⟨p3.toNat, by omega⟩
              obtain ⟨c1, c2, c3⟩ := hc
              have hfm : f < 32 := by omega
              have htm : t < 32 := by omega
              go_wp2_with (fail)
              have bA : Below wr.heap.size wr (wr.alloc (.cells #[.int .i64 (f : Int), .int .i64 p2, .int .i64 (t : Int)] 76)) := (Below.refl _ _).alloc (Nat.le_refl _) _
              have XA := BoxN.at wr wr.heap.size #[.int .i64 (f : Int), .int .i64 p2, .int .i64 (t : Int)] 76 rfl
              have HA1 := Bx.mk (HA.out.below bA)
              have HR1 := Bx.mk (HR.out.below bA)
              have HZ1 := Bx.mk (HZ.out.below bA)
              have HB1 := Bx.mk (HB.out.trans (bA.mono HB.out.size))
              clear HA HR HZ HB c1 c2 c3 bA lb
              obtain ⟨ga, hga⟩ : ∃ x, x = wr.heap.size := ⟨_, rfl⟩
              rw [← hga] at XA ⊢
              clear hga
              generalize wr.alloc (.cells #[.int .i64 (f : Int), .int .i64 p2, .int .i64 (t : Int)] 76) = W1 at *
              have u0 := XA.c (k := 0) rfl
              have u2 := XA.c (k := 2) rfl
              have ul := XA.lt
              clear XA
              have k0 : (0 : Int) ≤ (n : Int) := by omega
              have k1 : (n : Int) < 13 := by omega
              have k2 : (n : Int) + 1 < 13 := by omega
              have k3 : (0 : Int) ≤ (n : Int) + 1 := by omega
              have k4 : ((n : Int) + 1).toNat = n + 1 := by omega
              have z1 : (0 : Int) ≤ (f : Int) := by omega
              have z2 : (f : Int) < 32 := by omega
              have z3 : (0 : Int) ≤ (t : Int) := by omega
              have z4 : (t : Int) < 32 := by omega
              have a0 : W1.cell? ⟨g + 1 + 1, (n + 1) * 32 + f, none⟩ = some (.int .i64 (addF (cntG G n) (G.a.take a) f)) := (HA1.out.cell _).trans (tabW_new G n _ f hfm hln)
              have o0 : W1.cell? ⟨g + 1 + 1, n * 32 + t, none⟩ = some (.int .i64 (cntG G n t)) := (HA1.out.cell _).trans (tabW_old G n _ t htm hln)
              have af := HA1.out.f0 ((n + 1) * 32 + f)
              have al := HA1.out.lt
              have HA2 : Bx (ArrAt (W1.setCell ⟨g + 1 + 1, (n + 1) * 32 + f, none⟩ (.int .i64 (wrap64 (addF (cntG G n) (G.a.take a) f + cntG G n t)))).drew (g + 1 + 1) (rowF (tabW G n (addF (cntG G n) (G.a.take (a + 1)))) 416) 107) := Bx.mk (by
                have := (HA1.out.put ((n + 1) * 32 + f) (.int .i64 (wrap64 (addF (cntG G n) (G.a.take a) f + cntG G n t)))).draws 1
                rw [tabW_set G n _ _ _ hfm] at this
                rw [hst.out]
                exact this)
              have HR2 := Bx.mk ((HR1.out.other (b := g + 1 + 1) (o := (n + 1) * 32 + f) (by omega) (.int .i64 (wrap64 (addF (cntG G n) (G.a.take a) f + cntG G n t)))).draws 1)
              have HZ2 := Bx.mk ((HZ1.out.other (b := g + 1 + 1) (o := (n + 1) * 32 + f) (by omega) (.int .i64 (wrap64 (addF (cntG G n) (G.a.take a) f + cntG G n t)))).draws 1)
              have HB2 := Bx.mk ((HB1.out.setCell (p := ⟨g + 1 + 1, (n + 1) * 32 + f, none⟩) (by have := HGB.out; dsimp only; omega) (.int .i64 (wrap64 (addF (cntG G n) (G.a.take a) f + cntG G n t)))).drew)
              generalize addF (cntG G n) (G.a.take a) f = fv at a0 HA2 HR2 HZ2 HB2
              generalize hpv : cntG G n t = pv at o0 HA2 HR2 HZ2 HB2
              clear hst hr HA1 HR1 HZ1 HB1 hpv hln dln
              go_region
              go_wp2_with (fail)
              go_roundw
              case rel => exact ⟨a + 1, by omega, by go_num, HA2, HR2, HZ2, HB2⟩
              case measure => simp [intOf]; omega
            · obtain rfl : a = G.a.length := by omega
              have dla : decide ((G.a.length : Int) < (G.a.length : Int)) = false := decide_eq_false (by omega)
              have HA2 : Bx (ArrAt wr (g + 1 + 1) (rowF (tabW G (n + 1) zF) 416) 107) := Bx.mk (by have := HA.out; rw [List.take_length] at this; rw [← tabW_next]; exact this)
              clear HA
              go_wp2_with (fail)
              go_roundw
              case rel => exact ⟨n + 1, by omega, by go_num, HA2, HR, HZ, HB⟩
              case measure => simp [intOf]; omega
        · obtain rfl : n = 12 := by omega
          have dln : decide ((12 : Int) < 12) = false := by decide
          have HL : Bx (ArrAt wr (g + 1 + 1) (rowF (wayF G) 416) 107) := Bx.mk (by have := HA.out; rwa [tabW_all] at this)
          have hld := HL.out.load 13 105 Try.underlying107 (info_ways _)
          have hst := HR.out.store (rowF (wayF G) 416).toArray (info_ways _) (by simp [rowF]) (rowF_one _ _)
          have P := setRow_at HR.out (rowF (wayF G) 416).toArray
          have hB := setRow_below HB.out (show w.heap.size ≤ g + 1 by have := HGB.out; omega) (rowF (wayF G) 416).toArray
          clear HA HL HR HZ HB
          have HLL := Bx.mk (info_ways (wayF G))
          generalize hLd : rowF (wayF G) 416 = L at *
          have HLE := Bx.mk hLd
          clear hLd
          go_upto_region 16 with (fail)
          refine wp_region_lit ?_
          refine wpR_lod rfl 107 _ rfl (.pointer (some ⟨g + 1 + 1, 0, none⟩)) _ rfl hld ?_
          refine wpR_sto rfl 107 _ _ rfl (.pointer (some ⟨g + 1, 0, none⟩)) _ rfl rfl hst ?_
          refine wpList_nil ?_
          generalize wr.setRow (g + 1) L.toArray = W2 at *
          have hP : ArrAt W2 (g + 1) L 107 := by simpa using P
          clear hld hst P
          go_wp2_with (fail)
          refine bodyPost_ret (v := .agg L.toArray) ?_ rfl ⟨by rw [HLE.out], hB⟩
          exact results_cell_row Try.results88 _ W2 (g + 1) _ L.toArray (0, 0) _ (by simp [go_sem, Act.put]) hP Try.underlying107 rfl HLL.out
end Go.Proofs.Ytpbgjlmcafmejaa
