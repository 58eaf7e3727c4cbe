/- DeadStates on both sides. -/
import Derived.Test.YtpbgjlmcafmejaaGd
import Derived.Test.YtpbgjlmcafmejaaGd1
import Derived.Test.YtpbgjlmcafmejaaGv2
import Derived.Maps.AppendAt
import Derived.Deep.RegionWith
namespace Go.Proofs.Ytpbgjlmcafmejaa
open Go.ChangeShapes Go.WideShapes Go.ChangeAt Go.RowKit
set_option linter.unusedVariables false
set_option linter.unusedSimpArgs false
set_option maxRecDepth 100000

set_option maxHeartbeats 4000000 in
theorem spec_dead7 (v : Value) (G : Gr) (w : World) (h : GrAt w v G) (hm : SmG G) : Calls Try.prog 48 #[v] w (LCOut (deadE G) w) := by
  obtain ⟨i0, hi, hz0, hz1, hz2⟩ := info_parts infoI64
  obtain ⟨B, b, C, c, rfl, h1, h2⟩ := gr_form h
  have hb : Below w.heap.size w (w.alloc (.cells #[.int .i64 G.n, .int .i64 G.s, .slice B G.f.length b, .slice C G.a.length c] 30)) := (Below.refl _ _).alloc (Nat.le_refl _) _
  have hX := BoxN.at w w.heap.size #[.int .i64 G.n, .int .i64 G.s, .slice B G.f.length b, .slice C G.a.length c] 30 rfl
  have hP : PtrGr (w.alloc (.cells #[.int .i64 G.n, .int .i64 G.s, .slice B G.f.length b, .slice C G.a.length c] 30)) w.heap.size G := ⟨_, hX, _, _, rfl, h1.below hb, h2.below hb⟩
  have hk := spec_grok w.heap.size G _ hP hm
  have HO : Bx (deadE G = if okGr G = true then (deadK (aliveN G.f G.a G.n.toNat) G.n.toNat, 0) else ([], 1)) := Bx.mk rfl
  have HOK := Bx.mk (ok_of (G := G))
  have HM := Bx.mk hm
  have B_0 := Bx.mk hb
  have P_0 := Bx.mk hP
  generalize deadE G = u at *
  generalize hok : okGr G = ok at *
  clear h h1 h2 hm hb hX hP hok
  cases ok
  · have HE : Bx (u = ([], 1)) := Bx.mk HO.out
    clear HO
    go_enter Try.func48, Try.ntmps48
    go_wp2_with (fail)
    refine hk.mono ?_
    rintro r w1 ⟨rfl, hb1⟩
    have B_1 := Bx.mk (B_0.out.trans (hb1.mono B_0.out.size))
    clear hb1
    go_wp2_with (fail)
    go_returns
    exact lc_nil HE.out B_1.out
  · have hO := HOK.out rfl
    have hn := hO.n
    have HOG := Bx.mk hO
    obtain ⟨m, hm2⟩ : ∃ m : Nat, G.n.toNat = m := ⟨_, rfl⟩
    have hm32 : m ≤ 32 := by omega
    have HE : Bx (u = (deadK (aliveN G.f G.a m) m, 0)) := Bx.mk (by rw [HO.out, hm2]; rfl)
    have HM2 := Bx.mk hm2
    clear HO hO hn hm2
    go_enter Try.func48, Try.ntmps48
    go_wp2_with (fail)
    refine hk.mono ?_
    rintro r w1 ⟨rfl, hb1⟩
    have B_1 := Bx.mk (B_0.out.trans (hb1.mono B_0.out.size))
    have hq := spec_alive w.heap.size G w1 (P_0.out.below hb1) HM.out HOG.out
    rw [HM2.out] at hq
    clear hb1 hk
    go_wp2_with (fail)
    refine hq.mono ?_
    rintro r w2 ⟨b2, rfl, hA, hb2, hbw⟩
    have HA := Bx.mk hA
    have B_2 := Bx.mk (B_1.out.trans (hbw.mono B_1.out.size))
    clear hA hbw hq hb2
    generalize aliveN G.f G.a m = A at *
    go_wp2_with (fail)
    go_loopw [5, 6] (fun v i wr => ∃ k : Nat, k ≤ m ∧ i = .int .i64 k ∧ wr.ownsRow w2.heap.size 2 1 v (deadK A k).length (ints (deadK A k)) ∧ Below w2.heap.size w2 wr) (fun _ i _ => m - (intOf i).toNat)
    case atStart => exact ⟨0, Nat.zero_le _, rfl, World.ownsRow_lit _ _ _ (Nat.le_refl _) (by decide) (by decide), (Below.refl _ _).alloc (Nat.le_refl _) _⟩
    case round =>
      obtain ⟨k, hk, rfl, hown, hbw⟩ := hrel
      have HAw := HA.out.below hbw
      by_cases hlt : k < m
      · have x1 : (0 : Int) ≤ (k : Int) := by omega
        have x2 : (k : Int) < (m : Int) := by omega
        have dlt : decide ((k : Int) < (m : Int)) = true := decide_eq_true x2
        have a0 := (HAw.cell k).trans (rowB_at _ _ _ hlt)
        have al := HAw.lt
        have HL := Bx.mk (deadK_len A k)
        have hN : Bx (deadK A (k + 1) = if A k = true then deadK A k else deadK A k ++ [(k : Int)]) := Bx.mk rfl
        clear HAw
        generalize A k = ak at a0 hN
        have hsz := hbw.size
        cases ak
        · have HS : Bx (deadK A (k + 1) = deadK A k ++ [(k : Int)]) := Bx.mk hN.out
          clear hN
          go_wp2_with ((at_builtin; refine wpList_append_own _ rfl _ _ 22 rfl w2.heap.size 2 i0 (.int .i64 0) 1 8 Try.underlying22 hi hz0 hz1 hz2 rfl (by decide) _ _ _ rfl (hown.alloc _) ⟨wr.heap.size, 0, none⟩ 1 1 [.int .i64 (k : Int)] rfl rfl (cell_one_new _ _ _) (fun x hx => by simp at hx; subst hx; rfl) (by have := HL.out; unfold maxLen; omega) (by have := HL.out; omega) (by simp; omega) ?_; intro v' w3 hown' hgrow3 hnil3))
          have hown2 : w3.ownsRow w2.heap.size 2 1 v' (deadK A (k + 1)).length (ints (deadK A (k + 1))) := by
            rw [HS.out, ints_snoc', List.length_append]; exact hown'
          have hb2 : Below w2.heap.size w2 w3 := below_app' hbw hown (Nat.le_refl _) hgrow3
          clear hown' hgrow3 hnil3 hown
          go_roundw
          case rel => exact ⟨k + 1, by omega, by go_num, hown2, hb2⟩
          case measure => simp [intOf]; omega
        · have HS : Bx (deadK A (k + 1) = deadK A k) := Bx.mk hN.out
          clear hN
          go_wp2_with (fail)
          go_roundw
          case rel => exact ⟨k + 1, by omega, by go_num, by rw [HS.out]; exact hown, hbw⟩
          case measure => simp [intOf]; omega
      · obtain rfl : k = m := by omega
        have dlt : decide ((k : Int) < (k : Int)) = false := decide_eq_false (by omega)
        have HO2 := Bx.mk (owndown (b1 := w.heap.size) B_2.out.size hown)
        have B_3 := Bx.mk (B_2.out.trans (hbw.mono B_2.out.size))
        clear hown hbw HAw
        go_wp2_with (fail)
        go_returns
        exact lc_some HE.out HO2.out B_3.out
theorem impl_isdead (L : List Value) (s : Nat) (x : Int) (w : World) (hs : s < 32) (hx : L[s]? = some (.int .i64 x)) :
    Calls Try.prog 92 #[.agg L.toArray, .int .i64 s] w fun e w' => e = .returned (.bool (decide (x = 32))) ∧ Below w.heap.size w w' := by
  have hb : Below w.heap.size w (w.alloc (.cells L.toArray 111)) := (Below.refl _ _).alloc (Nat.le_refl _) _
  have hA := ArrAt.at w w.heap.size L 111 rfl
  have a0 := (hA.cell s).trans hx
  have al := hA.lt
  have HB := Bx.mk hb
  have x1 : (0 : Int) ≤ (s : Int) := by omega
  have x2 : (s : Int) < 32 := by omega
  have HD : Bx ((x == 32) = decide (x = 32)) := Bx.mk rfl
  generalize hd : decide (x = 32) = d at *
  have e1 : (x == 32) = d := HD.out
  clear hd hb hA HD
  generalize hW : w.alloc (.cells L.toArray 111) = W0 at *
  go_enter Try.func92, Try.ntmps92
  go_wp2_with (fail)
  go_ret
  exact ⟨ret_bool (by first | exact e1 | exact e1.symm | rfl | simp), HB.out⟩
set_option maxHeartbeats 4000000 in
theorem impl_wanted (D : Nat → Int) (A : Nat → Bool) (m : Nat) (z : Int) (w : World) (hz : z = (m : Int) - 1) (hm32 : m ≤ 32) (hd : Bx (∀ s, s < m → decide (D s = 32) = !A s)) :
    Calls Try.prog 97 #[.int .i64 0, .int .i64 z, .func (.func 92) #[.agg (rowF D 32).toArray] #[]] w (NewRow (deadK A m) w) := by
  obtain ⟨i0, hi, hz0, hz1, hz2⟩ := info_parts infoI64
  have hq := Bx.mk (fun s W (hs : s < m) => impl_isdead (rowF D 32) s (D s) W (by omega) (rowF_at D 32 s (by omega)))
  generalize rowF D 32 = L at *
  have HZ := Bx.mk hz
  clear hz
  go_enter Try.func97, Try.ntmps97
  go_wp2_with (fail)
  go_loopw [7, 8] (fun v i wr => ∃ k : Nat, k ≤ m ∧ i = .int .i64 k ∧ wr.ownsRow w.heap.size 2 1 v (deadK A k).length (ints (deadK A k)) ∧ Below w.heap.size w wr) (fun _ i _ => m - (intOf i).toNat)
  case atStart => exact ⟨0, Nat.zero_le _, rfl, World.ownsRow_nil _ _ _ _, Below.refl _ _⟩
  case round =>
    obtain ⟨k, hk, rfl, hown, hbw⟩ := hrel
    by_cases hlt : k < m
    · have x1 : (0 : Int) ≤ (k : Int) := by omega
      have dlt : decide ((k : Int) ≤ z) = true := decide_eq_true (by rw [HZ.out]; omega)
      have HL := Bx.mk (deadK_len A k)
      have hN : Bx (deadK A (k + 1) = if A k = true then deadK A k else deadK A k ++ [(k : Int)]) := Bx.mk rfl
      have hc := hq.out k wr hlt
      rw [hd.out k hlt] at hc
      generalize A k = ak at hc hN
      cases ak
      · have HS : Bx (deadK A (k + 1) = deadK A k ++ [(k : Int)]) := Bx.mk hN.out
        simp only [Bool.not_false] at hc
        clear hN
        go_wp2_with (fail)
        refine hc.mono ?_
        rintro r W ⟨rfl, hb4⟩
        have hown := own_below hown hb4
        have hbw := hbw.trans (hb4.mono hbw.size)
        clear hb4 hc
        have hsz := hbw.size
        go_wp2_with ((at_builtin; refine wpList_append_own _ rfl _ _ 22 rfl w.heap.size 2 i0 (.int .i64 0) 1 8 Try.underlying22 hi hz0 hz1 hz2 rfl (by decide) _ _ _ rfl (hown.alloc _) ⟨W.heap.size, 0, none⟩ 1 1 [.int .i64 (k : Int)] rfl rfl (cell_one_new _ _ _) (fun x hx => by simp at hx; subst hx; rfl) (by have := HL.out; unfold maxLen; omega) (by have := HL.out; omega) (by simp; omega) ?_; intro v' w3 hown' hgrow3 hnil3))
        have hown2 : w3.ownsRow w.heap.size 2 1 v' (deadK A (k + 1)).length (ints (deadK A (k + 1))) := by
          rw [HS.out, ints_snoc', List.length_append]; exact hown'
        have hb2 : Below w.heap.size w w3 := below_app' hbw hown (Nat.le_refl _) hgrow3
        clear hown' hgrow3 hnil3 hown
        go_roundw
        case rel => exact ⟨k + 1, by omega, by go_num, hown2, hb2⟩
        case measure => simp [intOf]; omega
      · have HS : Bx (deadK A (k + 1) = deadK A k) := Bx.mk hN.out
        simp only [Bool.not_true] at hc
        clear hN
        go_wp2_with (fail)
        refine hc.mono ?_
        rintro r W ⟨rfl, hb4⟩
        have hown := own_below hown hb4
        have hbw := hbw.trans (hb4.mono hbw.size)
        clear hb4 hc
        go_wp2_with (fail)
        go_roundw
        case rel => exact ⟨k + 1, by omega, by go_num, by rw [HS.out]; exact hown, hbw⟩
        case measure => simp [intOf]; omega
    · obtain rfl : k = m := by omega
      have dlt : decide ((k : Int) ≤ z) = false := decide_eq_false (by rw [HZ.out]; omega)
      clear hq hd
      go_wp2_with (fail)
      go_ret
      exact ⟨_, rfl, hown, hbw⟩
set_option maxHeartbeats 4000000 in
theorem impl_dead7 (v : Value) (G : Gr) (w : World) (h : GrAt w v G) (hm : SmG G) : Calls Try.prog 49 #[v] w (LCOut (deadE G) w) := by
  obtain ⟨B, b, C, c, rfl, h1, h2⟩ := gr_form h
  have hb : Below w.heap.size w (w.alloc (.cells #[.int .i64 G.n, .int .i64 G.s, .slice B G.f.length b, .slice C G.a.length c] 30)) := (Below.refl _ _).alloc (Nat.le_refl _) _
  have hX := BoxN.at w w.heap.size #[.int .i64 G.n, .int .i64 G.s, .slice B G.f.length b, .slice C G.a.length c] 30 rfl
  have G_0 := Bx.mk (h.below hb)
  have hk := impl_validgr _ G _ (h.below hb) hm
  have HM := Bx.mk hm
  have HO : Bx (deadE G = if okGr G = true then (deadK (aliveN G.f G.a G.n.toNat) G.n.toNat, 0) else ([], 1)) := Bx.mk rfl
  have HOK := Bx.mk (ok_of (G := G))
  clear h h1 h2 hm
  generalize deadE G = u at *
  generalize hok : okGr G = ok at *
  have B_0 := Bx.mk hb
  have X_0 := Bx.mk hX
  clear hb hX hok
  generalize hW : w.alloc (.cells #[.int .i64 G.n, .int .i64 G.s, .slice B G.f.length b, .slice C G.a.length c] 30) = W0 at *
  have y0 := X_0.out.c (k := 0) rfl
  have y1 := X_0.out.c (k := 1) rfl
  have y2 := X_0.out.c (k := 2) rfl
  have y3 := X_0.out.c (k := 3) rfl
  have yl := X_0.out.lt
  go_enter Try.func49, Try.ntmps49
  go_wp2_with (fail)
  clear hW
  refine hk.mono ?_
  rintro r w1 ⟨rfl, hb1⟩
  have B_1 := Bx.mk (B_0.out.trans (hb1.mono B_0.out.size))
  have X_1 := Bx.mk (X_0.out.below hb1)
  have G_1 := Bx.mk (G_0.out.below hb1)
  clear hb1 hk y0 y1 y2 y3 yl
  cases ok
  · have HE : Bx (u = ([], 1)) := Bx.mk HO.out
    clear HO
    go_wp2_with (fail)
    go_returns
    exact lc_nil HE.out B_1.out
  · have hO := HOK.out rfl
    have hn := hO.n
    have hcd := impl_dist _ G w1.drew (G_1.out.below (Below.refl w1.heap.size w1).drew) HM.out hO
    obtain ⟨m, hm2⟩ : ∃ m : Nat, G.n = m := ⟨G.n.toNat, by omega⟩
    have hmt : G.n.toNat = m := by omega
    rw [hmt] at hcd
    have HTR : ∀ t ∈ G.a, t.2.2.toNat < m := fun t ht => by
      obtain ⟨i, hi, rfl⟩ := List.mem_iff_getElem.1 ht
      have := (hO.ar i hi).2.2
      rw [tat_get hi] at this
      omega
    have HDS := Bx.mk (fun s (hs : s < m) => dead_same (fs := G.f) (by omega) (by omega) HTR hs)
    have HE : Bx (u = (deadK (aliveN G.f G.a m) m, 0)) := Bx.mk (by rw [HO.out, hmt]; rfl)
    have hw := fun W => impl_wanted (distN G.f G.a m m) (aliveN G.f G.a m) m ((m : Int) - 1) W rfl (by omega) HDS
    generalize rowF (distN G.f G.a m m) 32 = L at *
    have hsub : IntKind.i64.wrap ((m : Int) - 1) = (m : Int) - 1 := IntWalk.i64_in _ (by omega)
    have y0 : w1.cell? ⟨w.heap.size, 0, none⟩ = some (.int .i64 (m : Int)) := by rw [← hm2]; exact X_1.out.c (k := 0) rfl
    have y1 := X_1.out.c (k := 1) rfl
    have y2 := X_1.out.c (k := 2) rfl
    have y3 := X_1.out.c (k := 3) rfl
    have yl := X_1.out.lt
    rw [hm2] at hcd
    clear HO hO hn hm2 hmt HTR HDS
    go_wp2_with (fail)
    have hc2 : ∀ w4, Below w1.drew.heap.size w1.drew w4 → Below w1.heap.size w1 w4 := fun w4 h => (Below.refl w1.heap.size w1).drew.trans h
    go_region_with (first
      | (go_at_call 91; (with_reducible refine hcd.mono ?_); rintro r w4 ⟨rfl, hb4⟩; have y0' := (hb4.cell (p := ⟨w.heap.size, 0, none⟩) yl).trans y0; have yl' := Nat.lt_of_lt_of_le yl hb4.size; have B_4 := Bx.mk (B_1.out.trans ((hc2 _ hb4).mono B_1.out.size)); clear hb4)
      | (go_at_call 97; (with_reducible refine (hw _).mono ?_); rintro r w5 ⟨v5, rfl, ho, hb5⟩; have HO5 := Bx.mk (owndown (b1 := w.heap.size) B_4.out.size ho); have B_5 := Bx.mk (B_4.out.trans (hb5.mono B_4.out.size)); clear ho hb5))
    all_goals
      go_wp2_with (fail)
      go_returns
      exact lc_some HE.out HO5.out B_5.out
end Go.Proofs.Ytpbgjlmcafmejaa
