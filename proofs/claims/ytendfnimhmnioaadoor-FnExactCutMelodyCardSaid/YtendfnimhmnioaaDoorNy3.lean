/- CutMelody: the program. -/
import Derived.Test.YtendfnimhmnioaaDoorNy2
namespace Go.Proofs.YtendfnimhmnioaaDoor
open Go.ChangeShapes Go.WideShapes Go.ChangeAt Go.RowKit Go.Shelf
set_option linter.unusedVariables false
set_option linter.unusedSimpArgs false
set_option maxRecDepth 100000
attribute [local go_sem] Oper.semAt_some

theorem rs_kept {w0 : Nat} {X Y : World} {row : Option Nat} {v : Value} {q : Option Addr} (h : RsAt X v q) (hg : X.grownBy Y row) (hr : ∀ r, row = some r → w0 ≤ r ∧ ∃ o : Obj, X.heap[r]? = some o ∧ o.isCells = false) : RsAt Y v q := by
  cases q with
  | none => exact h
  | some x =>
    obtain ⟨j, e, k, c, cs, h1, h2, h3⟩ := h
    exact ⟨j, e, k, c, cs, boxn_keptN h1 hg hr, boxn_keptN h2 hg hr, h3⟩
theorem own_keptN {w0 : Nat} {X Y : World} {row : Option Nat} {base e size n : Nat} {v : Value} {xs : List Value} (h : X.ownsRow base e size v n xs) (hg : X.grownBy Y row) (hr : ∀ r, row = some r → w0 ≤ r ∧ ∃ o : Obj, X.heap[r]? = some o ∧ o.isCells = false) : Y.ownsRow base e size v n xs := by
  refine h.kept hg ?_
  rcases h.2 with ⟨rfl, _⟩ | ⟨g, cap, cur, rfl, _, hgb, _⟩
  · exact .inl rfl
  · refine .inr fun e' => ?_
    obtain ⟨_, o, ho, hc⟩ := hr g e'.symm
    rw [hgb] at ho
    cases ho
    cases hc
theorem WrAt.kept {w0 : Nat} {X Y : World} {row : Option Nat} {g base : Nat} {l : List (Int × Int)} {q : Option Addr} (h : WrAt X g base l q) (hg : X.grownBy Y row) (hr : ∀ r, row = some r → w0 ≤ r ∧ ∃ o : Obj, X.heap[r]? = some o ∧ o.isCells = false) : WrAt Y g base l q := by
  obtain ⟨sl, r, h1, h2, h3⟩ := h.ex
  exact ⟨sl, r, boxn_keptN h1 hg hr, own_keptN h2 hg hr, rs_kept h3 hg hr⟩
/-- a note that is cut out is a note -/
theorem cut_okN {f u tt p1 p2 : Int} (x1 : 0 ≤ tt ∧ tt ≤ 3072) (x3 : -12 ≤ p1 ∧ p1 ≤ 23) (x5 : 1 ≤ p2 ∧ p2 ≤ 64) (h : max tt f < min (tt + p2) u) : okN (p1, min (tt + p2) u - max tt f) = true := by
  have e1 : min (tt + p2) u ≤ tt + p2 := Int.min_le_left _ _
  have e2 : tt ≤ max tt f := Int.le_max_left _ _
  generalize min (tt + p2) u = aa at *
  generalize max tt f = bb at *
  simp only [okN, inB, Bool.and_eq_true, decide_eq_true_eq]
  omega
/-- a note was written: what is kept -/
theorem cut_step {w W V : World} {g : Nat} {f u : Int} {l : List (Int × Int)} (hC : CuI w.heap.size f u W) (hB : Below w.heap.size w W) (hg : w.heap.size + 1 < g) (h : WrAt V g (g + 1) l none) (hs : Stp g (g + 1) W V) :
    KpX w.heap.size (some g) W V ∧ WrAt V g (g + 1) l none ∧ CuI w.heap.size f u V ∧ Below w.heap.size w V ∧ W.heap.size ≤ V.heap.size := by
  have h1 := (hs.kp g (Nat.le_refl _) (Nat.le_succ _)).below
  have h2 := hs.kp w.heap.size (by omega) (by omega)
  exact ⟨h2, h, ⟨(h1.block _ (by omega)).trans hC.f, (h1.block _ (by omega)).trans hC.u⟩, hB.trans h2.below, h1.size⟩
set_option maxRecDepth 100000 in
set_option maxHeartbeats 4000000 in
theorem impl_cut_yes (v : Value) (l : List (Int × Int)) (f u : Int) (a b : Addr) (w : World) (h : PrsAt w v l) (hm : l.length ≤ 1048576) (he : Er w a b) (hok : okM l = true) (hf : ¬ f < 0) (hu : ¬ u < f) (hd : ¬ durL l < u) :
    Calls Tryd.prog 25 #[v, .int .i64 f, .int .i64 u] w (NtOut (cutK f u (sndK l l.length)) (.int .i64 0) w) := by
  have hq := fun W h => impl_validmelody v l W h hm
  have hdq := fun W hW => impl_dur v l W hW hok
  rw [hok] at hq
  have h' := h
  obtain ⟨A, c, rfl⟩ := prs_len h'
  have hdl := durN_rng hok l.length (Nat.le_refl _)
  have h48 := (okM_yes hok).1
  have hub : u ≤ 3072 := by unfold durL at hd; omega
  have P0 := CuI.start w f u
  have B0 : Below w.heap.size w ((w.alloc (.cells #[.int .i64 f] 2)).alloc (.cells #[.int .i64 u] 2)) := ((Below.refl _ _).alloc (Nat.le_refl _) _).alloc (by simp) _
  generalize hW : (w.alloc (.cells #[.int .i64 f] 2)).alloc (.cells #[.int .i64 u] 2) = W0 at P0 B0
  have HI := Bx.mk (h.below B0)
  have HIw := Bx.mk h
  have HE := Bx.mk he
  have HOK := Bx.mk hok
  have hdq : ∀ W, Below w.heap.size w W → Calls Tryd.prog 53 #[.slice A l.length c] W fun e w' => e = .returned (.int .i64 (durL l)) ∧ Below W.heap.size W w' := fun W hB => hdq W (h.below hB)
  have P0 := Bx.mk P0
  have B0 := Bx.mk B0
  have d1 : decide (f < 0) = false := decide_eq_false hf
  have d2 : decide (u < f) = false := decide_eq_false hu
  have d3 : decide (durL l < u) = false := decide_eq_false hd
  clear h hm h' hok hdl he
  rename_i hdq0
  clear hdq0
  generalize durL l = d at *
  refine (callsIn_wide (n := 3)).1 ?_
  refine callsIn_of_wp_marks Tryd.func25 rfl trivial ?_ rfl
  simp only [Tryd.ntmps25, List.size_toArray, List.length_cons, List.length_nil, Nat.reduceAdd, Nat.reduceSub, Array.replicate_succ, Array.replicate_zero, List.push_toArray, List.append_toArray, List.nil_append, List.cons_append]
  gi_wp2_with (fail)
  try rw [hW]
  try clear hW
  refine ⟨trivial, ?_⟩
  gi_at_call 37
  refine (callsIn_wide.2 (hq _ HI.out)).mono ?_
  rintro e w1 ⟨rfl, hb1⟩
  have B1 := Bx.mk (B0.out.trans (hb1.mono B0.out.size))
  have P1 := Bx.mk (P0.out.below hb1)
  clear hb1 hq HI P0 B0
  have HS0 : Bx (w1.cell? ⟨w.heap.size, 0, none⟩ = some (.int .i64 f) ∧ w1.cell? ⟨w.heap.size + 1, 0, none⟩ = some (.int .i64 u) ∧ w.heap.size < w1.heap.size ∧ w.heap.size + 1 < w1.heap.size ∧ Below w.heap.size w w1 ∧ CuI w.heap.size f u w1) := Bx.mk ⟨P1.out.f.c (k := 0) rfl, P1.out.u.c (k := 0) rfl, P1.out.f.lt, P1.out.u.lt, B1.out, P1.out⟩
  gi_wp2_with (fail)
  refine wpIn_wide.2 ?_
  go_wp2_with (fail)
  go_region_held3 (fun W => W.cell? ⟨w.heap.size, 0, none⟩ = some (.int .i64 f) ∧ W.cell? ⟨w.heap.size + 1, 0, none⟩ = some (.int .i64 u) ∧ w.heap.size < W.heap.size ∧ w.heap.size + 1 < W.heap.size ∧ Below w.heap.size w W ∧ CuI w.heap.size f u W)
    (first | (with_reducible exact keepC (by assumption) hb4) | (with_reducible exact keepC (by assumption) (Below.refl _ _).drew) | exact keepC HS0.out (Below.refl _ _).drew)
    ((go_at_call 53; (with_reducible refine (hdq _ (by assumption : _ ∧ _ ∧ _ ∧ _ ∧ _ ∧ _).2.2.2.2.1).mono ?_); rintro r w4 ⟨rfl, hb4⟩; have hS0 := keepC (w := w) (by assumption) hb4))
  have HS4 : Bx (_ ∧ _ ∧ _ ∧ _ ∧ Below w.heap.size w w4 ∧ CuI w.heap.size f u w4) := Bx.mk (by assumption)
  have B4 := Bx.mk HS4.out.2.2.2.2.1
  have P4 := Bx.mk HS4.out.2.2.2.2.2
  clear hdq HS4 HS0 hS0 hb4 P1 B1 d1 d2 d3
  gi_wp2_with (fail)
  have hba0 : Below w4.heap.size w4 (w4.alloc (.cells #[.slice none 0 0, .nilIface] 55)) := (Below.refl _ _).alloc (Nat.le_refl _) _
  have WA := Bx.mk (WrAt.start w4)
  have BA := Bx.mk (B4.out.trans (hba0.mono B4.out.size))
  have PA := Bx.mk (P4.out.below hba0)
  have hgs : w.heap.size + 1 < w4.heap.size := P4.out.u.lt
  clear hba0 P4 B4
  generalize w4.alloc (.cells #[.slice none 0 0, .nilIface] 55) = W4 at *
  generalize w4.heap.size = g at *
  refine ⟨trivial, ?_⟩
  gi_at_call 54
  refine (callsIn_wide.2 (impl_sounding A l.length c W4)).mono ?_
  rintro e w2 ⟨rfl, hw2⟩
  have hba : Below W4.heap.size W4 w2 := by rw [hw2]; exact (Below.refl _ _).alloc (Nat.le_refl _) _
  have B2 := Bx.mk (BA.out.trans (hba.mono BA.out.size))
  have P2 := Bx.mk (PA.out.below hba)
  have W2 := Bx.mk (WA.out.below hba)
  have hmb : w2.cell? ⟨W4.heap.size, 0, none⟩ = some (.slice A l.length c) := by rw [hw2]; exact (BoxN.at W4 W4.heap.size #[.slice A l.length c] 51 rfl).c (k := 0) rfl
  have hs2 : W4.heap.size < w2.heap.size := by rw [hw2]; simp
  have hgl : g < w2.heap.size := W2.out.lt
  have hqg : ∀ j, some g = some j → j < w2.heap.size := fun j hj => by injection hj with hj; omega
  have hst := sound_stops 2 (by decide) (some g) W4.heap.size A c l w w2 hs2 B2.out hmb HIw.out HOK.out hqg (fun k hk => W2.out.xb k hk)
  unfold nt at hst
  have hn1 : w.heap.size ≤ w2.heap.size := B2.out.size
  clear hw2 hba hmb WA BA PA
  gi_wp2_with (fail)
  refine wpIn_rangeFunc_ownH rfl (by decide) (gf := 69) (lb := #[.pointer (some ⟨W4.heap.size, 0, none⟩)]) rfl trivial (enters_of Tryd.func69 (by kernel_rfl) rfl)
    hst kpX_t (kpX_b hn1 hqg) (Below.refl _ _) (fun _ => rfl)
    (fun pre W => WrAt W g (g + 1) (cutK f u (sv pre)) none ∧ CuI w.heap.size f u W ∧ (Below w.heap.size w W ∧ w2.heap.size ≤ W.heap.size))
    (fun cd pre W => False)
    (fun _ _ _ _ hs hg hr => ⟨hs.1.kept hg hr, hs.2.1.kept hg hr, (ownFrom_below (β := Unit) (Nat.le_refl _) hn1) () _ _ _ hs.2.2.1 hg hr, Nat.le_trans hs.2.2.2 hg.size⟩)
    (fun cd _ _ _ _ hs hg hr => hs)
    ⟨W2.out, P2.out, B2.out, Nat.le_refl _⟩
    (fun x a' W => ∃ Bx, BoxN W Bx #[.int .i64 x.1.2.1, .int .i64 x.1.2.2] 45 ∧ a' = { tmps := #[.slice A l.length c, .int .i64 f, .int .i64 u, undef, .pointer (some ⟨w.heap.size, 0, none⟩), .pointer (some ⟨w.heap.size + 1, 0, none⟩), .slice none 0 0, .int .i64 0, .pointer (some ⟨g, 0, none⟩), .int .i64 x.1.1, .pointer (some ⟨Bx, 0, none⟩), undef, .bool false, .slice A l.length c, .bool true, .bool false, .bool false, .int .i64 f, .bool false, .bool false, .int .i64 u, .int .i64 f, .bool false, .bool false, .bool false, .int .i64 u, .slice A l.length c, .int .i64 d, .bool false, .bool false, .slice A l.length c, .func (.func 69) #[] #[.pointer (some ⟨W4.heap.size, 0, none⟩)], .int .i64 x.1.1, .agg #[.int .i64 x.1.2.1, .int .i64 x.1.2.2], undef, undef, undef, undef, undef, undef, undef, undef, undef, undef, undef, undef, undef, undef, undef, undef, undef, undef, undef, undef], defers := [] })
    (fun x a' _ X Y row hs hg hr => by obtain ⟨Bx, h1, h3⟩ := hs; exact ⟨Bx, boxn_keptN h1 hg hr, h3⟩)
    ?assign ?body ?done ?stop
  case assign =>
    rintro lp pre ⟨⟨tt, p1, p2⟩, hx⟩ W K ⟨hP, hC, hB, hs⟩ hK
    dsimp only
    gi_wp2
    have hba : Below W.heap.size W (W.alloc (.cells #[.int .i64 p1, .int .i64 p2] 45)) := (Below.refl _ _).alloc (Nat.le_refl _) _
    exact hK _ _ ((KeepsOthers.alloc _ _).from _) (kpX_alloc (by omega) (fun j hj => by injection hj with hj; omega) _) ⟨hP.below hba, hC.below hba, hB.trans (hba.mono hB.size), Nat.le_trans hs hba.size⟩ ⟨W.heap.size, BoxN.at W _ _ _ rfl, rfl⟩
  case body =>
    rintro lp pre ⟨⟨tt, p1, p2⟩, hx⟩ a' W hl ⟨r, hr⟩ ⟨hP, hC, hB, hs⟩ ⟨Bn, hBx, rfl⟩ hlt
    obtain ⟨⟨x1, x2⟩, ⟨x3, x4⟩, x5, x6⟩ := hx
    have yf := hC.f.c (k := 0) rfl
    have yu := hC.u.c (k := 0) rfl
    have lf := hC.f.lt
    have lu := hC.u.lt
    have n0 := hBx.c (k := 0) rfl
    have n1 := hBx.c (k := 1) rfl
    have nl := hBx.lt
    have HP := Bx.mk hP
    have HC := Bx.mk hC
    have HBB := Bx.mk hB
    dsimp only at x1 x2 x3 x4 x5 x6
    have y0 : IntKind.i64.wrap (tt + p2) = tt + p2 := IntWalk.i64_in _ (by omega)
    clear hP hBx hB hC hr
    dsimp only
    have HX : Bx (cutX f u (tt, p1, p2) = if max tt f < min (tt + p2) u then [(p1, min (tt + p2) u - max tt f)] else []) := Bx.mk rfl
    have hmx : (tt < f ∧ max tt f = f) ∨ (¬ tt < f ∧ max tt f = tt) := by
      rcases Int.lt_or_le tt f with h | h
      · exact .inl ⟨h, Int.max_eq_right (Int.le_of_lt h)⟩
      · exact .inr ⟨by omega, Int.max_eq_left h⟩
    have hmn : (u < tt + p2 ∧ min (tt + p2) u = u) ∨ (¬ u < tt + p2 ∧ min (tt + p2) u = tt + p2) := by
      rcases Int.lt_or_le u (tt + p2) with h | h
      · exact .inl ⟨h, Int.min_eq_right (Int.le_of_lt h)⟩
      · exact .inr ⟨by omega, Int.min_eq_left h⟩
    rcases hmx with ⟨ha, e1⟩ | ⟨ha, e1⟩
    · rcases hmn with ⟨hb, e2⟩ | ⟨hb, e2⟩
      · rw [e1, e2] at HX
        clear e1 e2
        by_cases hcut : f < u
        · have HX2 := Bx.mk (HX.out.trans (if_pos hcut))
          have y1 : IntKind.i64.wrap (u - f) = u - f := IntWalk.i64_in _ (by omega)
          have d2 : decide (0 < u - f) = true := decide_eq_true (by omega)
          have hw := write_ok g (g + 1) (cutK f u (sv pre)) none p1 (u - f) W HP.out (by omega) (by simp only [okN, inB, Bool.and_eq_true, decide_eq_true_eq]; omega) (by have h := cutK_len f u (sv pre); rw [sv_len] at h; omega)
          unfold nt at hw
          clear HX
          gi_wp2_with (fail)
          refine ⟨trivial, ?_⟩
          gi_at_call 47
          refine (CallsIn.inRound lp (callsIn_wide.2 hw)).mono ?_
          rintro e V2 ⟨⟨v2, rfl⟩, hw2, hs2'⟩
          have RES := Bx.mk (cut_step HC.out HBB.out hgs hw2 hs2')
          clear hw hw2 yf yu n0 n1
          gi_wp2_with (fail)
          exact ⟨hs2'.ko.from _, RES.out.1, by rw [sv_snoc, cutK_snoc, HX2.out]; exact RES.out.2.1, RES.out.2.2.1, RES.out.2.2.2.1, by have := RES.out.2.2.2.2; omega⟩
        · have HX2 := Bx.mk (HX.out.trans (if_neg hcut))
          have y1 : IntKind.i64.wrap (u - f) = u - f := IntWalk.i64_in _ (by omega)
          have d2 : decide (0 < u - f) = false := decide_eq_false (by omega)
          clear HX
          gi_wp2_with (fail)
          exact ⟨(KeepsOthers.refl _).from _, kpX_r _ _ _, by rw [sv_snoc, cutK_snoc, HX2.out, List.append_nil]; exact HP.out, HC.out, HBB.out, hs⟩
      · rw [e1, e2] at HX
        clear e1 e2
        by_cases hcut : f < (tt + p2)
        · have HX2 := Bx.mk (HX.out.trans (if_pos hcut))
          have y1 : IntKind.i64.wrap ((tt + p2) - f) = (tt + p2) - f := IntWalk.i64_in _ (by omega)
          have d2 : decide (0 < (tt + p2) - f) = true := decide_eq_true (by omega)
          have hw := write_ok g (g + 1) (cutK f u (sv pre)) none p1 ((tt + p2) - f) W HP.out (by omega) (by simp only [okN, inB, Bool.and_eq_true, decide_eq_true_eq]; omega) (by have h := cutK_len f u (sv pre); rw [sv_len] at h; omega)
          unfold nt at hw
          clear HX
          gi_wp2_with (fail)
          refine ⟨trivial, ?_⟩
          gi_at_call 47
          refine (CallsIn.inRound lp (callsIn_wide.2 hw)).mono ?_
          rintro e V2 ⟨⟨v2, rfl⟩, hw2, hs2'⟩
          have RES := Bx.mk (cut_step HC.out HBB.out hgs hw2 hs2')
          clear hw hw2 yf yu n0 n1
          gi_wp2_with (fail)
          exact ⟨hs2'.ko.from _, RES.out.1, by rw [sv_snoc, cutK_snoc, HX2.out]; exact RES.out.2.1, RES.out.2.2.1, RES.out.2.2.2.1, by have := RES.out.2.2.2.2; omega⟩
        · have HX2 := Bx.mk (HX.out.trans (if_neg hcut))
          have y1 : IntKind.i64.wrap ((tt + p2) - f) = (tt + p2) - f := IntWalk.i64_in _ (by omega)
          have d2 : decide (0 < (tt + p2) - f) = false := decide_eq_false (by omega)
          clear HX
          gi_wp2_with (fail)
          exact ⟨(KeepsOthers.refl _).from _, kpX_r _ _ _, by rw [sv_snoc, cutK_snoc, HX2.out, List.append_nil]; exact HP.out, HC.out, HBB.out, hs⟩
    · rcases hmn with ⟨hb, e2⟩ | ⟨hb, e2⟩
      · rw [e1, e2] at HX
        clear e1 e2
        by_cases hcut : tt < u
        · have HX2 := Bx.mk (HX.out.trans (if_pos hcut))
          have y1 : IntKind.i64.wrap (u - tt) = u - tt := IntWalk.i64_in _ (by omega)
          have d2 : decide (0 < u - tt) = true := decide_eq_true (by omega)
          have hw := write_ok g (g + 1) (cutK f u (sv pre)) none p1 (u - tt) W HP.out (by omega) (by simp only [okN, inB, Bool.and_eq_true, decide_eq_true_eq]; omega) (by have h := cutK_len f u (sv pre); rw [sv_len] at h; omega)
          unfold nt at hw
          clear HX
          gi_wp2_with (fail)
          refine ⟨trivial, ?_⟩
          gi_at_call 47
          refine (CallsIn.inRound lp (callsIn_wide.2 hw)).mono ?_
          rintro e V2 ⟨⟨v2, rfl⟩, hw2, hs2'⟩
          have RES := Bx.mk (cut_step HC.out HBB.out hgs hw2 hs2')
          clear hw hw2 yf yu n0 n1
          gi_wp2_with (fail)
          exact ⟨hs2'.ko.from _, RES.out.1, by rw [sv_snoc, cutK_snoc, HX2.out]; exact RES.out.2.1, RES.out.2.2.1, RES.out.2.2.2.1, by have := RES.out.2.2.2.2; omega⟩
        · have HX2 := Bx.mk (HX.out.trans (if_neg hcut))
          have y1 : IntKind.i64.wrap (u - tt) = u - tt := IntWalk.i64_in _ (by omega)
          have d2 : decide (0 < u - tt) = false := decide_eq_false (by omega)
          clear HX
          gi_wp2_with (fail)
          exact ⟨(KeepsOthers.refl _).from _, kpX_r _ _ _, by rw [sv_snoc, cutK_snoc, HX2.out, List.append_nil]; exact HP.out, HC.out, HBB.out, hs⟩
      · rw [e1, e2] at HX
        clear e1 e2
        by_cases hcut : tt < (tt + p2)
        · have HX2 := Bx.mk (HX.out.trans (if_pos hcut))
          have y1 : IntKind.i64.wrap ((tt + p2) - tt) = (tt + p2) - tt := IntWalk.i64_in _ (by omega)
          have d2 : decide (0 < (tt + p2) - tt) = true := decide_eq_true (by omega)
          have hw := write_ok g (g + 1) (cutK f u (sv pre)) none p1 ((tt + p2) - tt) W HP.out (by omega) (by simp only [okN, inB, Bool.and_eq_true, decide_eq_true_eq]; omega) (by have h := cutK_len f u (sv pre); rw [sv_len] at h; omega)
          unfold nt at hw
          clear HX
          gi_wp2_with (fail)
          refine ⟨trivial, ?_⟩
          gi_at_call 47
          refine (CallsIn.inRound lp (callsIn_wide.2 hw)).mono ?_
          rintro e V2 ⟨⟨v2, rfl⟩, hw2, hs2'⟩
          have RES := Bx.mk (cut_step HC.out HBB.out hgs hw2 hs2')
          clear hw hw2 yf yu n0 n1
          gi_wp2_with (fail)
          exact ⟨hs2'.ko.from _, RES.out.1, by rw [sv_snoc, cutK_snoc, HX2.out]; exact RES.out.2.1, RES.out.2.2.1, RES.out.2.2.2.1, by have := RES.out.2.2.2.2; omega⟩
        · exact absurd (show tt < tt + p2 by omega) hcut
  case done =>
    rintro D ys W hD hys ⟨hP, hC, hB, hs⟩ hK
    rw [hys] at hP
    have HE2 := HE.out.below hB
    have hwr := impl_written g (g + 1) _ none a b W hP HE2 (.inl rfl)
    simp only [wrE] at hwr
    have HB := Bx.mk hB
    clear hP hC HE2 hys
    gi_wp2_with (fail)
    refine ⟨trivial, ?_⟩
    gi_at_call 48
    refine (callsIn_wide.2 hwr).mono ?_
    rintro e V2 ⟨v2, rfl, ho, hb2⟩
    have hK' := (hb2.block D (Array.getElem?_eq_some_iff.1 hK).1).trans hK
    have HO := Bx.mk (own_downP (b1 := w.heap.size) (by omega) (ownsRow_putObj ho (.deferred none) hK' rfl))
    have HB2 := Bx.mk ((HB.out.trans (hb2.mono HB.out.size)).trans (belowK_b (w := w) (Nat.le_refl _) _ D _ (.deferred none) (by omega) hK' rfl rfl))
    clear ho hb2 hwr HB
    gi_wp2_with (fail)
    refine ⟨by simp, .inl ⟨_, _, rfl, run_takeDeferred hK', ?_⟩⟩
    refine ⟨.tuple #[v2, .int .i64 0], by simp [results, Tryd.results25, go_sem], _, rfl, HO.out, HB2.out⟩
  case stop =>
    rintro D cd pre W hD hpx hh hK
    exact hh.elim
theorem impl_cut (v : Value) (l : List (Int × Int)) (f u : Int) (a b : Addr) (w : World) (h : PrsAt w v l) (he : Er w a b) (hm : l.length ≤ 1048576) :
    Calls Tryd.prog 25 #[v, .int .i64 f, .int .i64 u] w (NtOut (cutE l f u).1 (.int .i64 (cutE l f u).2) w) := by
  unfold cutE
  cases hok : okM l
  · exact impl_cut_bad v l f u w h hm hok
  · by_cases hin : (inB f 0 (durL l) && inB u f (durL l)) = true
    · rw [if_pos rfl, if_pos hin]
      simp only [inB, Bool.and_eq_true, decide_eq_true_eq] at hin
      exact impl_cut_yes v l f u a b w h hm he hok (by omega) (by omega) (by omega)
    · rw [if_pos rfl, if_neg hin]
      by_cases hf : f < 0
      · exact impl_cut_low v l f u w h hm hok hf
      · by_cases hu : u < f
        · exact impl_cut_turn v l f u w h hm hok hf hu
        · refine impl_cut_long v l f u w h hm hok hf hu ?_
          simp only [inB, Bool.and_eq_true, decide_eq_true_eq] at hin
          omega
end Go.Proofs.YtendfnimhmnioaaDoor
