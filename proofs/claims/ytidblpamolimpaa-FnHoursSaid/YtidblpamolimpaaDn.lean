/- What the hours' law draws: an item or a list, a minute and a season. -/
import Derived.Test.YtidblpamolimpaaDl
import Derived.Test.YtidblpamolimpaaB10
namespace Go.Proofs.Ytidblpamolimpaa
open Go.ChangeShapes Go.WideShapes Go.ChangeAt Go.RowKit
set_option linter.unusedVariables false
set_option linter.unusedSimpArgs false
set_option maxRecDepth 100000

def FitDraw (w : World) (e : Ending) (w' : World) : Prop := ∃ u l mi se, e = .returned (.tuple #[u, .int .i64 mi, .int .i64 se]) ∧ l.length ≤ 13 ∧ (∀ x ∈ l, Dr x) ∧ ItsAt w' u l ∧ (-10 ≤ mi ∧ mi ≤ 2000) ∧ (-10 ≤ se ∧ se ≤ 2000) ∧ Below w.heap.size w w'
theorem draw_fit (v : Value) (n : Nat) (w : World) (h : BytesAt w v n) (hn : n ≤ 281474976710656) : Calls Try.prog 10 #[v] w (FitDraw w) := by
  have H := Bx.mk h
  clear h
  go_enter Try.func10, Try.ntmps10
  go_wp2_with (fail)
  refine (src_from v n w H.out hn).mono ?_
  rintro e w1 ⟨g, rfl, hs, hb, hg⟩
  have HB := Bx.mk hb
  have HG := Bx.mk hg
  have hz1 := hb.size
  have HS := Bx.mk hs
  clear hs hb
  go_wp2_with (fail)
  refine (draw_list g 0 w1 HS.out (by omega)).mono ?_
  rintro e w2 ⟨u, l, rfl, hl, hL⟩
  have HL := Bx.mk hL
  have HLn := Bx.mk hl
  obtain ⟨A, c, rfl⟩ := own_lenD hL.own
  clear HS hL
  go_wp2_with (fail)
  refine (draw_min g (0 + 100) w2 HL.out.st.src (by omega)).mono ?_
  rintro e w3 ⟨mi, hmi, rfl, hs, hg3⟩
  have HL3 := Bx.mk (HL.out.draw hs hg3)
  have HM := Bx.mk hmi
  clear HL hs hg3 hmi
  go_wp2_with (fail)
  refine (draw_sea g (0 + 100 + 4) w3 HL3.out.st.src (by omega)).mono ?_
  rintro e w4 ⟨se, hse, rfl, hs, hg4⟩
  have HL4 := Bx.mk (HL3.out.draw hs hg4)
  have HE := Bx.mk hse
  clear HL3 hs hg4 hse
  go_wp2_with (fail)
  go_ret3
  exact ⟨_, l, mi, se, rfl, HLn.out, HL4.out.dr, ItsAt.own HL4.out.own, HM.out, HE.out, HB.out.trans (only_below HL4.out.st.gr HG.out HB.out.size)⟩
theorem results_cell3 {P : Program} {fn : Func} {p t u : Tmp} {ty : TypeId} (h : fn.results = #[.cell p ty, .tmp t, .tmp u]) (tmps : Array Value) (w : World) (g : Nat) (tt : TypeId) (cs : Array Value) (fr : Nat × Nat) (d : TypeDesc) (a b : Value)
    (hp : tmps.getD p undef = .pointer (some ⟨g, 0, none⟩)) (ha : tmps.getD t undef = a) (hb : tmps.getD u undef = b) (hg : w.heap[g]? = some (.cells cs tt fr))
    (hu : P.underlying ty = some d) (hd : (match d with | .struct _ | .array _ _ => true | _ => false) = true) (hi : (P.info? ty).map (·.size) = some cs.size) :
    (results fn tmps).run P w = .ok (.tuple #[.agg cs, a, b]) w := by
  have hp' : tmps[p]?.getD undef = .pointer (some ⟨g, 0, none⟩) := by simpa using hp
  have ha' : tmps[t]?.getD undef = a := by simpa using ha
  have hb' : tmps[u]?.getD undef = b := by simpa using hb
  simp [results, h, hp', ha', hb', asAddr, run_loadVar_row w g tt ty cs fr d hg hu hd hi]
def NextDraw (w : World) (e : Ending) (w' : World) : Prop := ∃ x mi se, e = .returned (.tuple #[itV x, .int .i64 mi, .int .i64 se]) ∧ Dr x ∧ (-10 ≤ mi ∧ mi ≤ 2000) ∧ (-10 ≤ se ∧ se ≤ 2000) ∧ Below w.heap.size w w'
theorem BytesAt.alloc {w : World} {v : Value} {n : Nat} (h : BytesAt w v n) (o : Obj) : BytesAt (w.alloc o) v n := BytesAt.below h ((Below.refl _ _).alloc (Nat.le_refl _) _)
set_option maxHeartbeats 4000000 in
theorem draw_next (v : Value) (n : Nat) (w : World) (h : BytesAt w v n) (hn : n ≤ 281474976710656) : Calls Try.prog 5 #[v] w (NextDraw w) := by
  have H := Bx.mk (BytesAt.alloc h (.cells #[.string ⟨#[]⟩, .int .i64 0, .int .i64 0, .int .i64 0, .int .i64 0, .int .i64 0] 25))
  have R0 := BoxN.at w w.heap.size #[.string ⟨#[]⟩, .int .i64 0, .int .i64 0, .int .i64 0, .int .i64 0, .int .i64 0] 25 rfl
  have B0 := (Below.refl w.heap.size w).alloc (Nat.le_refl _) (.cells #[.string ⟨#[]⟩, .int .i64 0, .int .i64 0, .int .i64 0, .int .i64 0, .int .i64 0] 25)
  generalize hW : w.alloc (.cells #[.string ⟨#[]⟩, .int .i64 0, .int .i64 0, .int .i64 0, .int .i64 0, .int .i64 0] 25) = W0 at H R0 B0
  have R0 := Bx.mk R0
  have B0 := Bx.mk B0
  have HWW := Bx.mk hW
  clear h hW
  go_enter Try.func5, Try.ntmps5
  go_wp2_with (fail)
  rw [HWW.out]
  clear HWW
  refine (src_from v n W0 H.out hn).mono ?_
  rintro e w1 ⟨g, rfl, hs, hb, hg⟩
  have hr0 := R0.out.lt
  have S1 := Bx.mk (St.start hs)
  have R1 := Bx.mk (R0.out.below hb)
  have B1 := Bx.mk (B0.out.trans (hb.mono B0.out.size))
  have hgr : w.heap.size < g := by omega
  have hw1 := B1.out.size
  clear hs hb H R0 B0 hg hr0
  go_wp2_with (fail)
  refine (draw_one g 0 ⟨#[121, 97, 109, 97, 110]⟩ w1 S1.out.src (by omega) (by decide)).mono ?_
  rintro e w2 ⟨x0, rfl, hx0, hs, hg⟩
  have S2 := Bx.mk (S1.out.next hs hg)
  have R2 := Bx.mk (R1.out.pick hg (by omega))
  have HX0 := Bx.mk hx0
  clear hs hg hx0 S1 R1
  go_wp2_with (fail)
  refine (draw_bend g (0 + 10) x0 w2 S2.out.src (by omega) HX0.out).mono ?_
  rintro e w3 ⟨x, rfl, hx, hs, hg⟩
  have S3 := Bx.mk (S2.out.next hs hg)
  have R3 := Bx.mk (R2.out.pick hg (by omega))
  have HX := Bx.mk hx
  clear hs hg hx S2 R2 HX0
  unfold itV
  go_wp2_with (fail)
  have X4 := Bx.mk (BoxN.at w3 w3.heap.size #[.string x.nm, .int .i64 x.f, .int .i64 x.u, .int .i64 x.s, .int .i64 x.m, .int .i64 x.p] 25 rfl)
  have S4 := Bx.mk (S3.out.alloc (.cells #[.string x.nm, .int .i64 x.f, .int .i64 x.u, .int .i64 x.s, .int .i64 x.m, .int .i64 x.p] 25))
  have R4 := Bx.mk (R3.out.alloc (.cells #[.string x.nm, .int .i64 x.f, .int .i64 x.u, .int .i64 x.s, .int .i64 x.m, .int .i64 x.p] 25))
  have hgl : g < w3.heap.size := srcD_lt S3.out.src
  generalize w3.alloc (.cells #[.string x.nm, .int .i64 x.f, .int .i64 x.u, .int .i64 x.s, .int .i64 x.m, .int .i64 x.p] 25) = w4 at X4 S4 R4 ⊢
  obtain ⟨b, hb⟩ : ∃ b, b = w3.heap.size := ⟨_, rfl⟩
  rw [← hb] at X4 hgl ⊢
  clear hb S3 R3
  refine (draw_min g (0 + 10 + 4) w4 S4.out.src (by omega)).mono ?_
  rintro e w5 ⟨mi, hmi, rfl, hs, hg⟩
  have S5 := Bx.mk (S4.out.next hs hg)
  have R5 := Bx.mk (R4.out.pick hg (by omega))
  have X5 := Bx.mk (X4.out.pick hg (by omega))
  have HM := Bx.mk hmi
  clear hs hg hmi S4 R4 X4
  go_upto_region 4 with (fail)
  have S5s : Src w5.drew g (0 + 10 + 4 + 4) := S5.out.src
  have X5s : BoxN w5.drew b #[.string x.nm, .int .i64 x.f, .int .i64 x.u, .int .i64 x.s, .int .i64 x.m, .int .i64 x.p] 25 := X5.out
  have y0 := X5.out.c (k := 0) rfl
  have y1 := X5.out.c (k := 1) rfl
  have y2 := X5.out.c (k := 2) rfl
  have y3 := X5.out.c (k := 3) rfl
  have y4 := X5.out.c (k := 4) rfl
  have y5 := X5.out.c (k := 5) rfl
  have hbl := X5.out.lt
  have hrl := R5.out.lt
  go_region_with ((go_at_call 18; (with_reducible refine (draw_sea g (0 + 10 + 4 + 4) _ S5s (by omega)).mono ?_); rintro e w6 ⟨se, hse, rfl, hs, hg⟩; replace hg : w5.grownBy w6 (some g) := ⟨hg.os, hg.tape, hg.output, hg.size, hg.block⟩; have S6 := Bx.mk (S5.out.next hs hg); have R6 := Bx.mk (R5.out.pick hg (by omega)); have X6 := Bx.mk (X5.out.pick hg (by omega)); have HE := Bx.mk hse; have z0 := X6.out.c (k := 0) rfl; have z1 := X6.out.c (k := 1) rfl; have z2 := X6.out.c (k := 2) rfl; have z3 := X6.out.c (k := 3) rfl; have z4 := X6.out.c (k := 4) rfl; have z5 := X6.out.c (k := 5) rfl; have zl := X6.out.lt; have f0 := R6.out.fr 0; have f1 := R6.out.fr 1; have f2 := R6.out.fr 2; have f3 := R6.out.fr 3; have f4 := R6.out.fr 4; have f5 := R6.out.fr 5; have fl := R6.out.lt; have r0 := R6.out.c (k := 0) rfl; have r1 := R6.out.c (k := 1) rfl; have r2 := R6.out.c (k := 2) rfl; have r3 := R6.out.c (k := 3) rfl; have r4 := R6.out.c (k := 4) rfl; have r5 := R6.out.c (k := 5) rfl; clear hs hg hse))
  all_goals
    have P1 := (((((R6.out.put 0 (.string x.nm)).put 1 (.int .i64 x.f)).put 2 (.int .i64 x.u)).put 3 (.int .i64 x.s)).put 4 (.int .i64 x.m)).put 5 (.int .i64 x.p)
    have B6 := Bx.mk (B1.out.trans (only_below S6.out.gr (by omega) hw1))
    have B7 := (((((only_below (gb_cell w6 w.heap.size 0 (.string x.nm)) (Nat.le_refl _) B6.out.size).trans (only_below (gb_cell _ w.heap.size 1 (.int .i64 x.f)) (Nat.le_refl _) (by simpa using B6.out.size))).trans (only_below (gb_cell _ w.heap.size 2 (.int .i64 x.u)) (Nat.le_refl _) (by simpa using B6.out.size))).trans (only_below (gb_cell _ w.heap.size 3 (.int .i64 x.s)) (Nat.le_refl _) (by simpa using B6.out.size))).trans (only_below (gb_cell _ w.heap.size 4 (.int .i64 x.m)) (Nat.le_refl _) (by simpa using B6.out.size))).trans (only_below (gb_cell _ w.heap.size 5 (.int .i64 x.p)) (Nat.le_refl _) (by simpa using B6.out.size))
    have B8 := Bx.mk (B6.out.trans B7)
    clear B7 B6
    generalize (((((w6.setCell ⟨w.heap.size, 0, none⟩ (.string x.nm)).setCell ⟨w.heap.size, 1, none⟩ (.int .i64 x.f)).setCell ⟨w.heap.size, 2, none⟩ (.int .i64 x.u)).setCell ⟨w.heap.size, 3, none⟩ (.int .i64 x.s)).setCell ⟨w.heap.size, 4, none⟩ (.int .i64 x.m)).setCell ⟨w.heap.size, 5, none⟩ (.int .i64 x.p) = W7 at P1 B8 ⊢
    have P1 := Bx.mk P1
    go_wp2_with (fail)
    refine bodyPost_ret (v := .tuple #[.agg #[.string x.nm, .int .i64 x.f, .int .i64 x.u, .int .i64 x.s, .int .i64 x.m, .int .i64 x.p], .int .i64 mi, .int .i64 se]) ?_ rfl ⟨x, mi, se, rfl, HX.out, HM.out, HE.out, B8.out⟩
    exact results_cell3 Try.results5 _ W7 w.heap.size _ #[.string x.nm, .int .i64 x.f, .int .i64 x.u, .int .i64 x.s, .int .i64 x.m, .int .i64 x.p] (0, 0) _ (.int .i64 mi) (.int .i64 se) (by simp [go_sem, Act.put]) (by simp [go_sem, Act.put]) (by simp [go_sem, Act.put]) P1.out Try.underlying25 rfl info_item
end Go.Proofs.Ytidblpamolimpaa
