/- PitchAt: the program. -/
import Derived.Test.YtendfnimhmnioaaNs
namespace Go.Proofs.Ytendfnimhmnioaa
open Go.ChangeShapes Go.WideShapes Go.ChangeAt Go.RowKit Go.Shelf
set_option linter.unusedVariables false
set_option linter.unusedSimpArgs false
set_option maxRecDepth 100000
attribute [local go_sem] Oper.semAt_some

theorem boxn_keptN {w0 : Nat} {X Y : World} {row : Option Nat} {g : Nat} {xs : Array Value} {t : TypeId} (h : BoxN X g xs t) (hg : X.grownBy Y row) (hr : ∀ r, row = some r → w0 ≤ r ∧ ∃ o : Obj, X.heap[r]? = some o ∧ o.isCells = false) : BoxN Y g xs t := by
  have e := hg.block g h.lt (fun e => by
    obtain ⟨o, ho, hc⟩ := (hr g e.symm).2
    unfold BoxN at h
    rw [h] at ho
    cases ho
    cases hc)
  unfold BoxN at h ⊢
  rw [e, h]
theorem impl_sounding (A : Option Addr) (n c : Nat) (w : World) :
    Calls Try.prog 67 #[.slice A n c] w fun e w' => e = .returned (.func (.func 88) #[] #[.pointer (some ⟨w.heap.size, 0, none⟩)]) ∧ w' = w.alloc (.cells #[.slice A n c] 82) := by
  go_enter Try.func67, Try.ntmps67
  go_wp2
  go_ret
  exact ⟨rfl, rfl⟩
/-- the boxes of PitchAt: the time, the two results -/
structure PaI (g : Nat) (t r1 r2 : Int) (W : World) : Prop where
  t : BoxN W g #[.int .i64 t] 2
  a : BoxN W (g + 1) #[.int .i64 r1] 2
  b : BoxN W (g + 1 + 1) #[.int .i64 r2] 2
theorem PaI.below {g : Nat} {t r1 r2 : Int} {W W' : World} (h : PaI g t r1 r2 W) (hb : Below W.heap.size W W') : PaI g t r1 r2 W' := ⟨h.t.below hb, h.a.below hb, h.b.below hb⟩
theorem PaI.kept {w0 g : Nat} {t r1 r2 : Int} {X Y : World} {row : Option Nat} (h : PaI g t r1 r2 X) (hg : X.grownBy Y row) (hr : ∀ r, row = some r → w0 ≤ r ∧ ∃ o : Obj, X.heap[r]? = some o ∧ o.isCells = false) : PaI g t r1 r2 Y :=
  ⟨boxn_keptN h.t hg hr, boxn_keptN h.a hg hr, boxn_keptN h.b hg hr⟩
theorem PaI.put {g : Nat} {t r1 r2 : Int} {W : World} (h : PaI g t r1 r2 W) (x y : Int) : PaI g t x y ((W.setCell ⟨g + 1, 0, none⟩ (.int .i64 x)).setCell ⟨g + 1 + 1, 0, none⟩ (.int .i64 y)) :=
  ⟨(h.t.other (by omega) _).other (by omega) _, (h.a.put 0 _).other (by omega) _, ((h.b.other (by omega) _).put 0 _)⟩
theorem PaI.start (w : World) (t : Int) : PaI w.heap.size t 0 0 (((w.alloc (.cells #[.int .i64 t] 2)).alloc (.cells #[.int .i64 0] 2)).alloc (.cells #[.int .i64 0] 2)) :=
  ⟨((BoxN.at w w.heap.size #[.int .i64 t] 2 rfl).alloc _).alloc _, (BoxN.at (w.alloc (.cells #[.int .i64 t] 2)) (w.heap.size + 1) #[.int .i64 0] 2 (by simp)).alloc _, BoxN.at ((w.alloc (.cells #[.int .i64 t] 2)).alloc (.cells #[.int .i64 0] 2)) (w.heap.size + 1 + 1) #[.int .i64 0] 2 (by simp)⟩
/-- no note sounds at a time -/
def Late (t : Int) (xs : List (Int × Int × Int)) : Prop := ∀ x ∈ xs, x.1 + x.2.2 ≤ t
/-- the last note is the first one that ends behind a time -/
def Hits (g : Nat) (t : Int) (ys : List (Int × Int × Int)) (W : World) : Prop := ∃ pre x, ys = pre ++ [x] ∧ PaI g t x.2.1 0 W ∧ Late t pre ∧ t < x.1 + x.2.2
theorem sndK_of {l : List (Int × Int)} {ys : List (Int × Int × Int)} {n : Nat} (h : ys <+: sndK l n) : ys.length ≤ n ∧ ys = sndK l ys.length := by
  have hl := h.length_le
  rw [sndK_len] at hl
  refine ⟨hl, ?_⟩
  have h2 := sndK_pre l ys.length n hl
  exact List.IsPrefix.eq_of_length (List.prefix_of_prefix_length_le h h2 (by rw [sndK_len]; exact Nat.le_refl _)) (by rw [sndK_len])
theorem late_dur {l : List (Int × Int)} {t : Int} (h0 : 0 ≤ t) : ∀ k, Late t (sndK l k) → durN l k ≤ t := by
  intro k
  cases k with
  | zero => intro _; simpa [durN] using h0
  | succ k =>
    intro h
    have := h (durN l k, pat l k) (by rw [sndK_succ]; simp)
    simpa [durN] using this
theorem hits_ix {l : List (Int × Int)} {t : Int} {pre : List (Int × Int × Int)} {x : Int × Int × Int} (hok : okM l = true) (h0 : 0 ≤ t) (h : pre ++ [x] <+: sndK l l.length) (hp : Late t pre) (hx : t < x.1 + x.2.2) : pitAtE l t = (x.2.1, 0) := by
  obtain ⟨hl, he⟩ := sndK_of h
  rw [List.length_append, List.length_singleton] at hl he
  rw [sndK_succ] at he
  have h1 := List.append_inj he (by rw [sndK_len])
  obtain ⟨e1, e2⟩ := h1
  rw [List.cons.injEq] at e2
  have e2 := e2.1
  subst e2
  have hd := late_dur h0 pre.length (by rw [← e1]; exact hp)
  dsimp only at hx ⊢
  have hix := ixM_eq hok (show pre.length < l.length by omega) hd (by simpa [durN] using hx)
  have hm := durN_mono hok (pre.length + 1) l.length (by omega) (Nat.le_refl _)
  unfold pitAtE
  rw [if_pos hok, if_pos ⟨h0, by unfold durL; simp only [durN] at hm; omega⟩, hix]
theorem late_all {l : List (Int × Int)} {t : Int} (hok : okM l = true) (h0 : 0 ≤ t) (h : Late t (sndK l l.length)) : pitAtE l t = (0, 2) := by
  have hd := late_dur h0 _ h
  unfold pitAtE
  rw [if_pos hok, if_neg (by unfold durL; omega)]
theorem Late.snoc {t : Int} {xs : List (Int × Int × Int)} {x : Int × Int × Int} (h : Late t xs) (hx : x.1 + x.2.2 ≤ t) : Late t (xs ++ [x]) := by
  intro y hy
  rcases List.mem_append.1 hy with h1 | h1
  · exact h y h1
  · rw [List.mem_singleton] at h1; subst h1; exact hx
set_option maxRecDepth 100000 in
set_option maxHeartbeats 4000000 in
theorem impl_pitchat (v : Value) (l : List (Int × Int)) (t : Int) (w : World) (h : PrsAt w v l) (hm : l.length ≤ 1048576) :
    Calls Try.prog 41 #[v, .int .i64 t] w fun e w' => e = .returned (.tuple #[.int .i64 (pitAtE l t).1, .int .i64 (pitAtE l t).2]) ∧ Below w.heap.size w w' := by
  have hq := fun W h => impl_validmelody v l W h hm
  have h' := h
  obtain ⟨A, c, rfl⟩ := prs_len h'
  have P0 := PaI.start w t
  have B0 : Below w.heap.size w (((w.alloc (.cells #[.int .i64 t] 2)).alloc (.cells #[.int .i64 0] 2)).alloc (.cells #[.int .i64 0] 2)) := (((Below.refl _ _).alloc (Nat.le_refl _) _).alloc (by simp) _).alloc (by simp; omega) _
  generalize hW : ((w.alloc (.cells #[.int .i64 t] 2)).alloc (.cells #[.int .i64 0] 2)).alloc (.cells #[.int .i64 0] 2) = W0 at P0 B0
  have HI := Bx.mk (h.below B0)
  have HIw := Bx.mk h
  have P0 := Bx.mk P0
  have B0 := Bx.mk B0
  clear h hm h'
  cases hok : okM l
  · have HE : Bx (pitAtE l t = (0, 1)) := Bx.mk (by simp [pitAtE, hok])
    rw [hok] at hq
    rw [HE.out]
    clear hok HIw
    go_enter Try.func41, Try.ntmps41
    go_wp2_with (fail)
    try rw [hW]
    try clear hW
    refine (hq _ HI.out).mono ?_
    rintro r w1 ⟨rfl, hb1⟩
    have B1 := Bx.mk (B0.out.trans (hb1.mono B0.out.size))
    have P1 := Bx.mk (P0.out.below hb1)
    clear hb1 hq HI P0 B0
    have y0 := P1.out.a.c (k := 0) rfl
    have y1 := P1.out.b.c (k := 0) rfl
    have f0 := P1.out.a.fr 0
    have f1 := P1.out.b.fr 0
    have l0 := P1.out.a.lt
    have l1 := P1.out.b.lt
    have P2 := P1.out.put 0 1
    have B2 := Bx.mk ((B1.out.setCell (p := ⟨w.heap.size + 1, 0, none⟩) (by dsimp only; omega) (.int .i64 0)).setCell (p := ⟨w.heap.size + 1 + 1, 0, none⟩) (by dsimp only; omega) (.int .i64 1))
    have c0 := P2.a.c (k := 0) rfl
    have c1 := P2.b.c (k := 0) rfl
    go_wp2_with (fail)
    refine bodyPost_ret (v := .tuple #[.int .i64 0, .int .i64 1]) (by simp [results, Try.results41, go_sem, c0, c1]) rfl ⟨rfl, B2.out⟩
  · rw [hok] at hq
    by_cases ht : t < 0
    · have HE : Bx (pitAtE l t = (0, 2)) := Bx.mk (by unfold pitAtE; rw [if_pos hok, if_neg (by omega)])
      rw [HE.out]
      have d1 : decide (t < 0) = true := decide_eq_true ht
      clear hok HIw
      go_enter Try.func41, Try.ntmps41
      go_wp2_with (fail)
      try rw [hW]
      try clear hW
      refine (hq _ HI.out).mono ?_
      rintro r w1 ⟨rfl, hb1⟩
      have B1 := Bx.mk (B0.out.trans (hb1.mono B0.out.size))
      have P1 := Bx.mk (P0.out.below hb1)
      clear hb1 hq HI P0 B0
      have yt := P1.out.t.c (k := 0) rfl
      have lt := P1.out.t.lt
      have y0 := P1.out.a.c (k := 0) rfl
      have y1 := P1.out.b.c (k := 0) rfl
      have f0 := P1.out.a.fr 0
      have f1 := P1.out.b.fr 0
      have l0 := P1.out.a.lt
      have l1 := P1.out.b.lt
      have P2 := P1.out.put 0 2
      have B2 := Bx.mk ((B1.out.setCell (p := ⟨w.heap.size + 1, 0, none⟩) (by dsimp only; omega) (.int .i64 0)).setCell (p := ⟨w.heap.size + 1 + 1, 0, none⟩) (by dsimp only; omega) (.int .i64 2))
      have c0 := P2.a.c (k := 0) rfl
      have c1 := P2.b.c (k := 0) rfl
      go_wp2_with (fail)
      refine bodyPost_ret (v := .tuple #[.int .i64 0, .int .i64 2]) (by simp [results, Try.results41, go_sem, c0, c1]) rfl ⟨rfl, B2.out⟩
    · have d1 : decide (t < 0) = false := decide_eq_false ht
      have h48 := (okM_yes hok).1
      have HOK := Bx.mk hok
      have HT := Bx.mk ht
      clear hok
      refine (callsIn_wide (n := 3)).1 ?_
      refine callsIn_of_wp_marks Try.func41 rfl trivial ?_ rfl
      simp only [Try.ntmps41, List.size_toArray, List.length_cons, List.length_nil, Nat.reduceAdd, Nat.reduceSub, Array.replicate_succ, Array.replicate_zero, List.push_toArray, List.append_toArray, List.nil_append, List.cons_append]
      gi_wp2_with (fail)
      try rw [hW]
      try clear hW
      refine ⟨trivial, ?_⟩
      gi_at_call 27
      refine (callsIn_wide.2 (hq _ HI.out)).mono ?_
      rintro e w1 ⟨rfl, hb1⟩
      have B1 := Bx.mk (B0.out.trans (hb1.mono B0.out.size))
      have P1 := Bx.mk (P0.out.below hb1)
      clear hb1 hq HI P0 B0
      have yt := P1.out.t.c (k := 0) rfl
      have lt := P1.out.t.lt
      have hsd := impl_sounding A l.length c w1
      gi_wp2_with (fail)
      refine ⟨trivial, ?_⟩
      gi_at_call 67
      refine (callsIn_wide.2 hsd).mono ?_
      rintro e w2 ⟨rfl, hw2⟩
      have hba : Below w1.heap.size w1 w2 := by rw [hw2]; exact (Below.refl _ _).alloc (Nat.le_refl _) _
      have B2 := Bx.mk (B1.out.trans (hba.mono B1.out.size))
      have P2 := Bx.mk (P1.out.below hba)
      have hmb : w2.cell? ⟨w1.heap.size, 0, none⟩ = some (.slice A l.length c) := by rw [hw2]; exact (BoxN.at w1 w1.heap.size #[.slice A l.length c] 82 rfl).c (k := 0) rfl
      have hs2 : w1.heap.size < w2.heap.size := by rw [hw2]; simp
      have hst := sound_stops 2 (by decide) none w1.heap.size A c l w w2 hs2 B2.out hmb HIw.out HOK.out (fun g hg => by cases hg) (fun k hk => hk.elim)
      unfold nt at hst
      have hl1 := P1.out.b.lt
      have hn1 : w.heap.size ≤ w2.heap.size := B2.out.size
      have hn2 : w.heap.size + 1 + 1 < w2.heap.size := by omega
      clear hsd hw2 hba hmb yt lt P1 B1
      gi_wp2_with (fail)
      refine wpIn_rangeFunc_ownH rfl (by decide) (gf := 88) (lb := #[.pointer (some ⟨w1.heap.size, 0, none⟩)]) rfl trivial (enters_of Try.func88 (by kernel_rfl) rfl)
        hst kpX_t (kpX_b hn1 (fun g hg => by cases hg)) (Below.refl _ _) (fun _ => rfl)
        (fun pre W => PaI w.heap.size t 0 0 W ∧ Late t (sv pre) ∧ (Below w.heap.size w W ∧ w2.heap.size ≤ W.heap.size))
        (fun cd pre W => cd = .ret ∧ Hits w.heap.size t (sv pre) W ∧ (Below w.heap.size w W ∧ w2.heap.size ≤ W.heap.size))
        (fun _ _ _ _ hs hg hr => ⟨hs.1.kept hg hr, hs.2.1, (ownFrom_below (β := Unit) (Nat.le_refl _) hn1) () _ _ _ hs.2.2.1 hg hr, Nat.le_trans hs.2.2.2 hg.size⟩)
        (fun cd _ _ _ _ hs hg hr => by
          obtain ⟨h1, ⟨pre', x, e1, e2, e3⟩, h3⟩ := hs
          exact ⟨h1, ⟨pre', x, e1, e2.kept hg hr, e3⟩, (ownFrom_below (β := Unit) (Nat.le_refl _) hn1) () _ _ _ h3.1 hg hr, Nat.le_trans h3.2 hg.size⟩)
        ⟨P2.out, fun x hx => (by cases hx), B2.out, Nat.le_refl _⟩
        (fun x a' W => ∃ Bx, BoxN W Bx #[.int .i64 x.1.2.1, .int .i64 x.1.2.2] 76 ∧ a' = { tmps := #[.slice A l.length c, .int .i64 t, undef, .pointer (some ⟨w.heap.size, 0, none⟩), .pointer (some ⟨w.heap.size + 1, 0, none⟩), .pointer (some ⟨w.heap.size + 1 + 1, 0, none⟩), .int .i64 x.1.1, .pointer (some ⟨Bx, 0, none⟩), .bool false, .slice A l.length c, .bool true, .bool false, .bool false, .int .i64 t, .bool false, .slice A l.length c, .func (.func 88) #[] #[.pointer (some ⟨w1.heap.size, 0, none⟩)], .int .i64 x.1.1, .agg #[.int .i64 x.1.2.1, .int .i64 x.1.2.2], undef, undef, undef, undef, undef, undef, undef, undef], defers := [] })
        (fun x a' _ X Y row hs hg hr => by obtain ⟨Bx, h1, h3⟩ := hs; exact ⟨Bx, boxn_keptN h1 hg hr, h3⟩)
        ?assign ?body ?done ?stop
      case assign =>
        rintro lp pre ⟨⟨tt, p1, p2⟩, hx⟩ W K ⟨hP, hpre, hB, hs⟩ hK
        dsimp only
        gi_wp2
        have hba : Below W.heap.size W (W.alloc (.cells #[.int .i64 p1, .int .i64 p2] 76)) := (Below.refl _ _).alloc (Nat.le_refl _) _
        exact hK _ _ ((KeepsOthers.alloc _ _).from _) (kpX_alloc (by omega) (fun g hg => by cases hg) _) ⟨hP.below hba, hpre, hB.trans (hba.mono hB.size), Nat.le_trans hs hba.size⟩ ⟨W.heap.size, BoxN.at W _ _ _ rfl, rfl⟩
      case body =>
        rintro lp pre ⟨⟨tt, p1, p2⟩, hx⟩ a' W hl ⟨r, hr⟩ ⟨hP, hpre, hB, hs⟩ ⟨Bn, hBx, rfl⟩ hlt
        obtain ⟨⟨x1, x2⟩, ⟨x3, x4⟩, x5, x6⟩ := hx
        have yt := hP.t.c (k := 0) rfl
        have lt := hP.t.lt
        have n0 := hBx.c (k := 0) rfl
        have n1 := hBx.c (k := 1) rfl
        have nl := hBx.lt
        have HP := Bx.mk hP
        have HBB := Bx.mk hB
        have HPRE := Bx.mk hpre
        dsimp only at x1 x2 x3 x4 x5 x6
        have y0 : IntKind.i64.wrap (tt + p2) = tt + p2 := IntWalk.i64_in _ (by omega)
        by_cases hc : t < tt + p2
        · have d2 : decide (t < tt + p2) = true := decide_eq_true hc
          have z0 := hP.a.c (k := 0) rfl
          have z1 := hP.b.c (k := 0) rfl
          have f0 := hP.a.fr 0
          have f1 := hP.b.fr 0
          have l0 := hP.a.lt
          have l1 := hP.b.lt
          have P2 := Bx.mk (hP.put p1 0)
          have B2 := Bx.mk ((hB.setCell (p := ⟨w.heap.size + 1, 0, none⟩) (by dsimp only; omega) (.int .i64 p1)).setCell (p := ⟨w.heap.size + 1 + 1, 0, none⟩) (by dsimp only; omega) (.int .i64 0))
          clear hP hBx hB hpre hr
          dsimp only
          gi_wp2
          exact ⟨((KeepsOthers.setCell _ _ _).trans (KeepsOthers.setCell _ _ _)).from _, rfl, ⟨sv pre, (tt, p1, p2), by rw [sv_snoc], P2.out, HPRE.out, hc⟩, B2.out, by have := B2.out.size; simp at this ⊢; omega⟩
        · have d2 : decide (t < tt + p2) = false := decide_eq_false hc
          clear hP hBx hB hpre hr
          dsimp only
          gi_wp2
          exact ⟨(KeepsOthers.refl _).from _, kpX_r _ _ _, HP.out, by rw [sv_snoc]; exact HPRE.out.snoc (by dsimp only; omega), HBB.out, hs⟩
      case done =>
        rintro D ys W hD hys ⟨hP, hpre, hB, hs⟩ hK
        rw [hys] at hpre
        have HE := Bx.mk (late_all HOK.out HT.out hpre)
        have z0 := hP.a.c (k := 0) rfl
        have z1 := hP.b.c (k := 0) rfl
        have f0 := hP.a.fr 0
        have f1 := hP.b.fr 0
        have l0 := hP.a.lt
        have l1 := hP.b.lt
        have P2 := hP.put 0 2
        have B2 := Bx.mk ((hB.setCell (p := ⟨w.heap.size + 1, 0, none⟩) (by dsimp only; omega) (.int .i64 0)).setCell (p := ⟨w.heap.size + 1 + 1, 0, none⟩) (by dsimp only; omega) (.int .i64 2))
        have hK' := ((KeepsOthers.setCell W ⟨w.heap.size + 1, 0, none⟩ (.int .i64 0)).trans (KeepsOthers.setCell _ ⟨w.heap.size + 1 + 1, 0, none⟩ (.int .i64 2))).same D _ hK rfl
        have P3 := P2.kept (w0 := 0) (grownBy_putObj' _ D (.deferred none)) (fun r e => by cases e; exact ⟨Nat.zero_le _, _, hK', rfl⟩)
        have c0 := P3.a.c (k := 0) rfl
        have c1 := P3.b.c (k := 0) rfl
        clear hP hB hpre hys P2 P3
        gi_wp2
        refine ⟨by simp, .inl ⟨_, _, rfl, run_takeDeferred hK', ?_⟩⟩
        refine ⟨.tuple #[.int .i64 0, .int .i64 2], by simp [results, Try.results41, go_sem, c0, c1], by rw [HE.out], B2.out.trans (belowK_b (w := w) (Nat.le_refl _) _ D _ _ (by omega) hK' rfl rfl)⟩
      case stop =>
        rintro D cd pre W hD hpx ⟨rfl, ⟨pre', x, e1, hP, hpre, hx⟩, hB, hs⟩ hK
        rw [e1] at hpx
        have HE := Bx.mk (hits_ix HOK.out HT.out hpx hpre hx)
        have P3 := hP.kept (w0 := 0) (grownBy_putObj' W D (.deferred none)) (fun r e => by cases e; exact ⟨Nat.zero_le _, _, hK, rfl⟩)
        have c0 := P3.a.c (k := 0) rfl
        have c1 := P3.b.c (k := 0) rfl
        have B2 := Bx.mk hB
        clear hP hB hpre hpx hx P3 e1
        gi_wp2
        refine ⟨by simp, .inl ⟨_, _, rfl, run_takeDeferred hK, ?_⟩⟩
        refine ⟨.tuple #[.int .i64 x.2.1, .int .i64 0], by simp [results, Try.results41, go_sem, c0, c1], by rw [HE.out], B2.out.trans (belowK_b (w := w) (Nat.le_refl _) W D _ _ (by omega) hK rfl rfl)⟩
end Go.Proofs.Ytendfnimhmnioaa
