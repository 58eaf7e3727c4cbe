/- CountMelodies: the program. -/
import Derived.Test.YtpbgjlmcafmejaaGc1
import Derived.Test.YtpbgjlmcafmejaaGc2a
import Derived.Test.YtpbgjlmcafmejaaGv2
import Derived.Deep.RegionWith
namespace Go.Proofs.Ytpbgjlmcafmejaa
open Go.ChangeShapes Go.WideShapes Go.ChangeAt Go.RowKit
set_option linter.unusedVariables false
set_option linter.unusedSimpArgs false
set_option maxRecDepth 100000

theorem info_row32 : (Try.prog.info? 105).map (·.size) = some 32 := by kernel_rfl
theorem index_ways (L : List Value) (n : Nat) (hn : n < 13) (w : World) :
    (Instr.index 107 (.agg L.toArray) (.int .i64 n)).run Try.prog w = .ok (.agg (L.toArray.extract (n * 32) (n * 32 + 32))) w := by
  have h : (0 : Int) ≤ (n : Int) ∧ (n : Int) < 13 := by omega
  have e : Try.t105.size = 32 := by kernel_rfl
  simp [Instr.index, run_underlying Try.underlying107, asIntOf, h, part, isAgg, run_underlying Try.underlying105, go_sem, sizeOf, hn, e]
theorem index_row (L : Array Value) (v : Value) (s : Nat) (hs : s < 32) (h : L[s]? = some v) (w : World) :
    (Instr.index 105 (.agg L) (.int .i64 s)).run Try.prog w = .ok v w := by
  have h1 : (0 : Int) ≤ (s : Int) ∧ (s : Int) < 32 := by omega
  have e : Try.t2.size = 1 := by kernel_rfl
  simp [Instr.index, run_underlying Try.underlying105, asIntOf, h1, part, isAgg, run_underlying Try.underlying2, go_sem, sizeOf, h, hs, e]
theorem way_row (F : Nat → Int) (n s : Nat) (hn : n < 13) (hs : s < 32) : ((rowF F 416).toArray.extract (n * 32) (n * 32 + 32))[s]? = some (.int .i64 (F (n * 32 + s))) := by
  rw [Array.getElem?_extract]
  simp only [List.size_toArray, rowF_len]
  rw [if_pos (by omega)]
  simpa using rowF_at F 416 (n * 32 + s) (by omega)
set_option maxHeartbeats 4000000 in
theorem impl_countmel (v : Value) (G : Gr) (n : Int) (w : World) (h : GrAt w v G) (hm : SmG G) :
    Calls Try.prog 39 #[v, .int .i64 n] w (OutG2 (countE G n) w) := by
  obtain ⟨B, b, C, c, rfl, h1, h2⟩ := gr_form h
  have hb : Below w.heap.size w (w.alloc (.cells #[.int .i64 G.n, .int .i64 G.s, .slice B G.f.length b, .slice C G.a.length c] 30)) := (Below.refl _ _).alloc (Nat.le_refl _) _
  have hX := BoxN.at w w.heap.size #[.int .i64 G.n, .int .i64 G.s, .slice B G.f.length b, .slice C G.a.length c] 30 rfl
  have G_0 := Bx.mk (h.below hb)
  have hk := impl_validgr _ G _ (h.below hb) hm
  have hq := fun W => impl_long7 n W
  have HM := Bx.mk hm
  have HO : Bx (countE G n = if okGr G = true then (if inB n 0 12 = true then (cntG G n.toNat G.s.toNat, 0) else (0, 2)) else (0, 1)) := Bx.mk rfl
  have HOK := Bx.mk (ok_of (G := G))
  clear h h1 h2 hm
  generalize countE G n = u at *
  generalize hok : okGr G = ok at *
  have B_0 := Bx.mk hb
  have X_0 := Bx.mk hX
  clear hb hX hok
  generalize hW : w.alloc (.cells #[.int .i64 G.n, .int .i64 G.s, .slice B G.f.length b, .slice C G.a.length c] 30) = W0 at *
  have y0 := X_0.out.c (k := 0) rfl
  have y1 := X_0.out.c (k := 1) rfl
  have y2 := X_0.out.c (k := 2) rfl
  have y3 := X_0.out.c (k := 3) rfl
  have yl := X_0.out.lt
  go_enter Try.func39, Try.ntmps39
  go_wp2_with (fail)
  clear hW
  refine hk.mono ?_
  rintro r w1 ⟨rfl, hb1⟩
  have B_1 := Bx.mk (B_0.out.trans (hb1.mono B_0.out.size))
  have X_1 := Bx.mk (X_0.out.below hb1)
  have G_1 := Bx.mk (G_0.out.below hb1)
  clear hb1 hk y0 y1 y2 y3 yl
  cases ok
  · have HE : Bx (u = (0, 1)) := Bx.mk HO.out
    clear HO
    go_wp2_with (fail)
    go_ret2
    exact outg2 HE.out B_1.out
  · cases hn : inB n 0 12
    · simp only [hn] at hq
      have HE : Bx (u = (0, 2)) := Bx.mk (by rw [HO.out, hn]; rfl)
      clear HO hn
      go_wp2_with (fail)
      refine (hq _).mono ?_
      rintro r w2 ⟨rfl, rfl⟩
      go_wp2_with (fail)
      go_ret2
      exact outg2 HE.out B_1.out
    · simp only [hn] at hq
      have hnb := inB_yes hn
      obtain ⟨k, rfl⟩ : ∃ k : Nat, n = k := ⟨n.toNat, by omega⟩
      have hO := HOK.out rfl
      have hs := hO.s
      have hn2 := hO.n
      have HOG := Bx.mk hO
      clear hO
      obtain ⟨s, hs2⟩ : ∃ s : Nat, G.s = s := ⟨G.s.toNat, by omega⟩
      have HE : Bx (u = (cntG G k s, 0)) := Bx.mk (by rw [HO.out, hn, hs2]; rfl)
      have HI : Bx (wayF G (k * 32 + s) = cntG G k s) := Bx.mk (by unfold wayF; rw [show (k * 32 + s) / 32 = k by omega, show (k * 32 + s) % 32 = s by omega])
      have hi1 := fun W => index_ways (rowF (wayF G) 416) k (by omega) W
      have hi2 := fun W => index_row _ _ s (by omega) (way_row (wayF G) k s (by omega) (by omega)) W
      rw [HI.out] at hi2
      generalize (rowF (wayF G) 416).toArray.extract (k * 32) (k * 32 + 32) = L2 at *
      have hc := fun W (hW : Below w1.heap.size w1 W) => impl_ways _ G W (G_1.out.below hW) HM.out HOG.out
      generalize rowF (wayF G) 416 = L at *
      have y0 := X_1.out.c (k := 0) rfl
      have y1 : w1.cell? ⟨w.heap.size, 1, none⟩ = some (.int .i64 (s : Int)) := by rw [← hs2]; exact X_1.out.c (k := 1) rfl
      have y2 := X_1.out.c (k := 2) rfl
      have y3 := X_1.out.c (k := 3) rfl
      have yl := X_1.out.lt
      rw [hs2] at hc
      clear HO hn hs hs2 hn2 HI
      go_wp2_with (fail)
      refine (hq _).mono ?_
      rintro r w2 ⟨rfl, rfl⟩
      go_wp2_with (fail)
      have hcd := hc w1.drew (Below.refl w1.heap.size w1).drew
      have hc2 : ∀ w4, Below w1.drew.heap.size w1.drew w4 → Below w1.heap.size w1 w4 := fun w4 h => (Below.refl w1.heap.size w1).drew.trans h
      clear hc
      go_region_with (go_at_call 88; (with_reducible refine hcd.mono ?_); rintro r w4 ⟨rfl, hb4⟩; have y1' := (hb4.cell (p := ⟨w.heap.size, 1, none⟩) yl).trans y1; have yl' := Nat.lt_of_lt_of_le yl hb4.size; have B_4 := Bx.mk (B_1.out.trans ((hc2 _ hb4).mono B_1.out.size)); clear hb4)
      all_goals
        go_wp2_with (fail)
        go_ret2
        exact outg2 HE.out B_4.out
end Go.Proofs.Ytpbgjlmcafmejaa
