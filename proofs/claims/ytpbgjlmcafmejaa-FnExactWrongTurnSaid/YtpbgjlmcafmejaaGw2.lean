/- WrongTurn, by the program. -/
import Derived.Test.YtpbgjlmcafmejaaAf1
import Derived.Test.YtpbgjlmcafmejaaGw
namespace Go.Proofs.Ytpbgjlmcafmejaa
open Go.ChangeShapes Go.WideShapes Go.ChangeAt Go.RowKit Go.Shelf
set_option linter.unusedVariables false
set_option linter.unusedSimpArgs false
set_option maxRecDepth 100000
attribute [local go_sem] Oper.semAt_some

def ppl (pre : List (Int × Int × Int)) : List Int := pre.map fun p => p.2.1
theorem ppl_snoc (pre : List (Int × Int × Int)) (x : Int × Int × Int) : ppl (pre ++ [x]) = ppl pre ++ [x.2.1] := by simp [ppl]
theorem boxn_kept {w0 : Nat} {X Y : World} {row : Option Nat} {g : Nat} {xs : Array Value} {t : TypeId} (h : BoxN X g xs t) (hg : X.grownBy Y row) (hr : ∀ r, row = some r → w0 ≤ r ∧ ∃ o : Obj, X.heap[r]? = some o ∧ o.isCells = false) : BoxN Y g xs t := by
  have e := hg.block g h.lt (fun e => by
    obtain ⟨o, ho, hc⟩ := (hr g e.symm).2
    unfold BoxN at h
    rw [h] at ho
    cases ho
    cases hc)
  unfold BoxN at h ⊢
  rw [e, h]
set_option maxHeartbeats 1000000 in
theorem impl_arcsfrom (n s0 : Int) (f a : Value) (s : Int) (w : World) :
    Calls Try.prog 84 #[.agg #[.int .i64 n, .int .i64 s0, f, a], .int .i64 s] w fun e w' => e = .returned (.func (.func 133) #[] #[.pointer (some ⟨w.heap.size, 0, none⟩), .pointer (some ⟨w.heap.size + 1, 0, none⟩)]) ∧ w' = (w.alloc (.cells #[.int .i64 n, .int .i64 s0, f, a] 30)).alloc (.cells #[.int .i64 s] 2) := by
  go_enter Try.func84, Try.ntmps84
  go_wp2
  go_ret
  exact ⟨rfl, rfl⟩
set_option maxRecDepth 100000 in
set_option maxHeartbeats 4000000 in
theorem impl_wrong3 (B : Option Addr) (b : Nat) (C : Option Addr) (c : Nat) (u : Value) (G : Gr) (zs : List Int) (w : World) (h : GrAt w (.agg #[.int .i64 G.n, .int .i64 G.s, .slice B G.f.length b, .slice C G.a.length c]) G) (h2 : TrsAt w (.slice C G.a.length c) G.a) (hm : SmG G) (hz : IntsAt w u zs) (hl : zs.length ≤ 1048576) (hcap : G.a.length ≤ c)
    (hok : okGr G = true) (hac : accB G zs = false) :
    Calls Try.prog 35 #[.agg #[.int .i64 G.n, .int .i64 G.s, .slice B G.f.length b, .slice C G.a.length c], u] w (WOut (((runG G.a G.s zs).1 : Nat), pitF G.a (runG G.a G.s zs).2, 0) w) := by
  obtain ⟨i0, hi, hz0, hz1, hz2⟩ := info_parts infoI64
  have hO := ok_of hok
  have hb : Below w.heap.size w (w.alloc (.cells #[.int .i64 G.n, .int .i64 G.s, .slice B G.f.length b, .slice C G.a.length c] 30)) := (Below.refl _ _).alloc (Nat.le_refl _) _
  have hX := BoxN.at w w.heap.size #[.int .i64 G.n, .int .i64 G.s, .slice B G.f.length b, .slice C G.a.length c] 30 rfl
  have hk := impl_validgr _ G _ (h.below hb) hm
  rw [hok] at hk
  have HM := Bx.mk hm
  have HO := Bx.mk hO
  have HA := Bx.mk h2
  have HG := Bx.mk h
  have HZ := Bx.mk hz
  have hle := hO.l
  have B_0 := Bx.mk hb
  have X_0 := Bx.mk hX
  have y0 := X_0.out.c (k := 0) rfl
  have y1 := X_0.out.c (k := 1) rfl
  have y2 := X_0.out.c (k := 2) rfl
  have y3 := X_0.out.c (k := 3) rfl
  have yl := X_0.out.lt
  clear h h2 hm hz hO hb hX
  refine (callsIn_wide (n := 3)).1 ?_
  refine callsIn_of_wp_marks Try.func35 rfl trivial ?_ rfl
  simp only [Try.ntmps35, List.size_toArray, List.length_cons, List.length_nil, Nat.reduceAdd, Nat.reduceSub, Array.replicate_succ, Array.replicate_zero, List.push_toArray, List.append_toArray, List.nil_append, List.cons_append]
  gi_wp2_with (fail)
  refine ⟨trivial, ?_⟩
  gi_at_call 18
  refine (callsIn_wide.2 hk).mono ?_
  rintro e w1 ⟨rfl, hb1⟩
  have B_1 := Bx.mk (B_0.out.trans (hb1.mono B_0.out.size))
  have X_1 := Bx.mk (X_0.out.below hb1)
  have hq := impl_acc7 _ G _ zs w1 (HG.out.below B_1.out) HM.out HO.out (HZ.out.below B_1.out) hl
  rw [hac] at hq
  clear hb1 hk y0 y1 y2 y3 yl
  have y0 := X_1.out.c (k := 0) rfl
  have y1 := X_1.out.c (k := 1) rfl
  have y2 := X_1.out.c (k := 2) rfl
  have y3 := X_1.out.c (k := 3) rfl
  have yl := X_1.out.lt
  gi_wp2_with (fail)
  refine ⟨trivial, ?_⟩
  gi_at_call 81
  refine (callsIn_wide.2 hq).mono ?_
  rintro e w2 ⟨rfl, hb1⟩
  have B_2 := Bx.mk (B_1.out.trans (hb1.mono B_1.out.size))
  have X_2 := Bx.mk (X_1.out.below hb1)
  have hr := impl_follow _ G _ zs w2 (HG.out.below B_2.out) HM.out HO.out (HZ.out.below B_2.out) hl
  clear hb1 hq y0 y1 y2 y3 yl
  have y0 := X_2.out.c (k := 0) rfl
  have y1 := X_2.out.c (k := 1) rfl
  have y2 := X_2.out.c (k := 2) rfl
  have y3 := X_2.out.c (k := 3) rfl
  have yl := X_2.out.lt
  generalize runG G.a G.s zs = rr at *
  obtain ⟨r1, r2⟩ := rr
  dsimp only at hr ⊢
  gi_wp2_with (fail)
  refine ⟨trivial, ?_⟩
  gi_at_call 83
  refine (callsIn_wide.2 hr).mono ?_
  rintro e w3 ⟨rfl, hb1⟩
  have B_3 := Bx.mk (B_2.out.trans (hb1.mono B_2.out.size))
  have X_3 := Bx.mk (X_2.out.below hb1)
  clear hb1 hr y0 y1 y2 y3 yl
  have X_4 := Bx.mk (X_3.out.alloc (.cells #[.slice none 0 0] 22))
  have y0 := X_4.out.c (k := 0) rfl
  have y1 := X_4.out.c (k := 1) rfl
  have y2 := X_4.out.c (k := 2) rfl
  have y3 := X_4.out.c (k := 3) rfl
  have yl := X_4.out.lt
  have ha := impl_arcsfrom G.n G.s (.slice B G.f.length b) (.slice C G.a.length c) r2 (w3.alloc (.cells #[.slice none 0 0] 22))
  gi_wp2_with (fail)
  refine ⟨trivial, ?_⟩
  gi_at_call 84
  refine (callsIn_wide.2 ha).mono ?_
  rintro e w5 ⟨rfl, hw5⟩
  have hs5 : w5.heap.size = w3.heap.size + 1 + 1 + 1 := by rw [hw5]; simp
  have hb5 : Below w.heap.size w w5 := by
    have hsz := B_3.out.size
    rw [hw5]
    exact ((B_3.out.alloc B_3.out.size _).alloc (by simp; omega) _).alloc (by simp; omega) _
  have hbn : Boxed w5 w3.heap.size 22 (.slice none 0 0) := by rw [hw5]; exact ((Boxed.new w3 _ _).alloc _).alloc _
  have hxg : BoxN w5 (w3.heap.size + 1) #[.int .i64 G.n, .int .i64 G.s, .slice B G.f.length b, .slice C G.a.length c] 30 := by
    rw [hw5]
    exact (BoxN.at (w3.alloc (.cells #[.slice none 0 0] 22)) (w3.heap.size + 1) #[.int .i64 G.n, .int .i64 G.s, .slice B G.f.length b, .slice C G.a.length c] 30 (by simp)).alloc _
  have hxf : w5.cell? ⟨w3.heap.size + 1 + 1, 0, none⟩ = some (.int .i64 r2) := by
    rw [hw5]
    exact (BoxN.at ((w3.alloc (.cells #[.slice none 0 0] 22)).alloc (.cells #[.int .i64 G.n, .int .i64 G.s, .slice B G.f.length b, .slice C G.a.length c] 30)) (w3.heap.size + 1 + 1) #[.int .i64 r2] 2 (by simp)).c (k := 0) rfl
  have hst := arcs_stops 2 (by decide) (w3.heap.size + 1) (w3.heap.size + 1 + 1) G.n G.s (.slice B G.f.length b) C c G.a r2 w w5 (by omega) (by omega) hb5 hxg hxf HA.out HM.out.a hcap HO.out.ao (fun i hi => (HO.out.ar i hi).2.1.1)
  clear ha hw5 hxg hxf y0 y1 y2 y3 yl X_4
  unfold arcV at hst
  have HS5 := Bx.mk hs5
  have hsB := B_3.out.size
  have hn1 : w.heap.size ≤ w5.heap.size := by omega
  have hn2 : w3.heap.size + 1 + 1 < w5.heap.size := by omega
  clear hs5
  gi_wp2_with (fail)
  refine wpIn_rangeFunc_ownH rfl (by decide) (gf := 133) (lb := #[.pointer (some ⟨w3.heap.size + 1, 0, none⟩), .pointer (some ⟨w3.heap.size + 1 + 1, 0, none⟩)]) rfl trivial (enters_of Try.func133 (by kernel_rfl) rfl)
    hst kpA_t (kpA_b hn1 hn2) (Below.refl _ _) (fun _ => rfl)
    (fun pre W => (∃ v, Boxed W w3.heap.size 22 v ∧ W.ownsRow w5.heap.size 2 1 v (ppl pre).length (ints (ppl pre)) ∧ True) ∧ (Below w.heap.size w W ∧ w5.heap.size ≤ W.heap.size))
    (fun _ _ _ => False)
    (OwnFrom.and (Own.from (holdsRow_own w5.heap.size w3.heap.size 22 2 1 (fun pre => (ppl pre).length) (fun pre => ints (ppl pre)) (fun _ _ => True)) _) (OwnFrom.and (ownFrom_below (Nat.le_refl _) (by omega)) (fun _ _ _ _ hs hg _ => Nat.le_trans hs hg.size)))
    (fun _ _ _ _ _ hs _ _ => hs)
    ⟨⟨_, hbn, World.ownsRow_nil _ _ _ _, trivial⟩, hb5, Nat.le_refl _⟩
    (fun x a' W => ∃ Bx, BoxN W Bx #[.int .i64 x.1, .int .i64 x.2.1, .int .i64 x.2.2] 76 ∧ a' = { tmps := #[.agg #[.int .i64 G.n, .int .i64 G.s, .slice B G.f.length b, .slice C G.a.length c], u, .pointer (some ⟨w.heap.size, 0, none⟩), undef, .int .i64 0, .slice none 0 0, .int .i64 0, .int .i64 (r1 : Int), .int .i64 r2, .pointer (some ⟨w3.heap.size, 0, none⟩), .pointer (some ⟨Bx, 0, none⟩), .bool false, .agg #[.int .i64 G.n, .int .i64 G.s, .slice B G.f.length b, .slice C G.a.length c], .bool true, .bool false, .bool false, .agg #[.int .i64 G.n, .int .i64 G.s, .slice B G.f.length b, .slice C G.a.length c], u, .bool false, .tuple #[.int .i64 (r1 : Int), .int .i64 r2], .agg #[.int .i64 G.n, .int .i64 G.s, .slice B G.f.length b, .slice C G.a.length c], u, .tuple #[.int .i64 (r1 : Int), .int .i64 r2], .int .i64 (r1 : Int), .int .i64 r2, .agg #[.int .i64 G.n, .int .i64 G.s, .slice B G.f.length b, .slice C G.a.length c], .int .i64 r2, .func (.func 133) #[] #[.pointer (some ⟨w3.heap.size + 1, 0, none⟩), .pointer (some ⟨w3.heap.size + 1 + 1, 0, none⟩)], .agg #[.int .i64 x.1, .int .i64 x.2.1, .int .i64 x.2.2], undef, undef, undef, undef, undef, undef, undef], defers := [] })
    (fun x a' _ X Y row hs hg hr => by obtain ⟨Bx, h1, h3⟩ := hs; exact ⟨Bx, boxn_kept h1 hg hr, h3⟩)
    ?assign ?body ?done ?stop
  case assign =>
    rintro l pre ⟨p1, p2, p3⟩ W K ⟨⟨v, hv, hrow, _⟩, hB, hs⟩ hK
    dsimp only
    gi_wp2
    have hba : Below W.heap.size W (W.alloc (.cells #[.int .i64 p1, .int .i64 p2, .int .i64 p3] 76)) := (Below.refl _ _).alloc (Nat.le_refl _) _
    exact hK _ _ ((KeepsOthers.alloc _ _).from _) ⟨hba.mono (by omega), hba.block _ (by omega)⟩ ⟨⟨v, hv.alloc _, hrow.alloc _, trivial⟩, hB.trans (hba.mono hB.size), Nat.le_trans hs hba.size⟩ ⟨W.heap.size, BoxN.at W _ _ _ rfl, rfl⟩
  case body =>
    rintro l pre ⟨p1, p2, p3⟩ a' W hl ⟨r, hr⟩ ⟨⟨v, hv, hrow, _⟩, hB, hs⟩ ⟨Bx, hBx, rfl⟩ hlt
    have hc := hv.cell
    have c1 := hBx.c (k := 1) rfl
    have bxl := hBx.lt
    have hpl : (ppl pre).length ≤ 256 := by unfold ppl; rw [List.length_map]; omega
    dsimp only
    gi_wp2_with (gi_at_builtin; refine wpListIn_append_own _ rfl _ _ 22 rfl w5.heap.size 2 i0 (.int .i64 0) 1 8 Try.underlying22 hi hz0 hz1 hz2 rfl (by decide) _ _ _ rfl (hrow.alloc _) ⟨W.heap.size, 0, none⟩ 1 1 [.int .i64 p2] rfl rfl (cell_one_new _ _ _) (by simp [Value.oneCell']) (by unfold maxLen; omega) (by omega) (by simp; omega) ?_; intro v' w1 hown' hgrow _; obtain ⟨g', cap', rfl⟩ := ownsRow_succ hown'; have hv1 := (hv.alloc (.cells #[.int .i64 p2] 2)).kept hgrow (hv.not_row (by decide) hrow); have hc1 := hv1.cell; have hf1 := hv1.frozen)
    have hgrow : (W.alloc (.cells #[.int .i64 p2] 2)).grownBy w1 v.ownBlock := hgrow
    obtain ⟨_, _, _, hko, _⟩ := hv.appended (e := 2) (by decide) (owndown (b1 := 0) (Nat.zero_le _) hrow) (Nat.zero_le _) (Nat.zero_le _) (owndown (b1 := 0) (Nat.zero_le _) hown') hgrow
    have hba : Below W.heap.size W (W.alloc (.cells #[.int .i64 p2] 2)) := (Below.refl _ _).alloc (Nat.le_refl _) _
    have hlo := own_lo hrow
    have hbw1 : Below w.heap.size W w1 := ((Below.refl w.heap.size W).alloc (Nat.le_trans hn1 hs) (.cells #[.int .i64 p2] 2)).grown hgrow (by simp; omega) (fun k e => Nat.le_trans hn1 (hlo k e))
    have hbw := hbw1.setCell (p := ⟨w3.heap.size, 0, none⟩) (by dsimp only; omega) (.slice (some ⟨g', 0, none⟩) ((ppl pre).length + 1) cap')
    have hs1 := hbw1.size
    have hblk : (w1.setCell ⟨w3.heap.size, 0, none⟩ (.slice (some ⟨g', 0, none⟩) ((ppl pre).length + 1) cap')).heap[w3.heap.size + 1 + 1]? = W.heap[w3.heap.size + 1 + 1]? :=
      ((grownBy_setCell' w1 w3.heap.size _).block (w3.heap.size + 1 + 1) (by omega) (fun e => by have := Option.some.inj e; omega)).trans ((hgrow.block (w3.heap.size + 1 + 1) (by simp; omega) (fun e => by have := hlo _ e.symm; omega)).trans (hba.block (w3.heap.size + 1 + 1) (by omega)))
    have hrw : (w1.setCell ⟨w3.heap.size, 0, none⟩ (.slice (some ⟨g', 0, none⟩) ((ppl pre).length + 1) cap')).ownsRow w5.heap.size 2 1 (.slice (some ⟨g', 0, none⟩) ((ppl pre).length + 1) cap') (ppl (pre ++ [(p1, p2, p3)])).length (ints (ppl (pre ++ [(p1, p2, p3)]))) := by
      rw [ppl_snoc, ints_snocW, List.length_append]
      exact hown'.kept (grownBy_setCell' w1 _ _) (.inr (hv1.not_row (by decide) hown').symm)
    have hsz : w5.heap.size ≤ (w1.setCell ⟨w3.heap.size, 0, none⟩ (.slice (some ⟨g', 0, none⟩) ((ppl pre).length + 1) cap')).heap.size := by have := hbw.size; omega
    exact ⟨hko.from _, ⟨hbw, hblk⟩, ⟨_, hv1.set _, hrw⟩, hB.trans hbw, hsz⟩
  case done =>
    rintro D ys W hD rfl ⟨⟨v, hv, hrow, _⟩, hB, hs⟩ hK
    have hc := hv.cell
    have hmx : Try.prog.follows .mixedOrders = true := by kernel_rfl
    gi_wp2
    gi_region
    all_goals gi_wp2
    have hrow0 : W.drew.ownsRow w.heap.size 2 1 v (pitF G.a r2).length (ints (pitF G.a r2)) := owndown hn1 hrow
    refine ⟨by simp, .inl ⟨_, _, rfl, run_takeDeferred hK, ?_⟩⟩
    refine ⟨.tuple #[.int .i64 (r1 : Int), v, .int .i64 0], by simp [results, Try.results35, go_sem], ?_⟩
    exact w_some rfl (ownsRow_putObj hrow0 _ hK rfl) (hB.drew.trans (belowK_b (w := w) (Nat.le_refl _) W.drew D _ _ (Nat.le_trans hn1 hD) hK rfl rfl))
  case stop =>
    rintro D c pre W _ _ h _
    exact h.elim
end Go.Proofs.Ytpbgjlmcafmejaa
