/- The laws' own copies of arcs and grammars. -/
import Derived.Test.YtpbgjlmcafmejaaGr2
namespace Go.Proofs.Ytpbgjlmcafmejaa
open Go.ChangeShapes Go.WideShapes Go.ChangeAt Go.RowKit
set_option linter.unusedVariables false
set_option linter.unusedSimpArgs false
set_option maxRecDepth 100000

theorem law_toarc (a b c : Int) (w : World) :
    Calls Try.prog 111 #[arcV a b c] w fun e w' => e = .returned (arcV a b c) ∧ Below w.heap.size w w' := by
  unfold arcV
  go_enter Try.func111, Try.ntmps111
  go_wp2
  refine bodyPost_ret (v := .agg #[.int .i64 a, .int .i64 b, .int .i64 c]) (by simp [results, Try.results111, go_sem]) rfl ⟨rfl, ?_⟩
  exact (((Below.refl _ _).alloc (Nat.le_refl _) _).alloc (by simp) _).alloc (by simp; omega) _
theorem infoArcL : (Try.prog.info? 76).map (fun i => (i.zero, i.size, i.bytes)) = some (some (.agg #[.int .i64 0, .int .i64 0, .int .i64 0]), 3, 24) := by kernel_rfl
theorem made_three (n : Nat) : (madeCells #[.int .i64 0, .int .i64 0, .int .i64 0] (n * 3)).toList = tcl (List.replicate n (0, 0, 0)) := by
  have h : (madeCells #[.int .i64 0, .int .i64 0, .int .i64 0] (n * 3)).toList = List.replicate (n * 3) (.int .i64 0) := by
    apply List.ext_getElem?
    intro j
    by_cases hj : j < n * 3
    · have h3 : j % 3 = 0 ∨ j % 3 = 1 ∨ j % 3 = 2 := by omega
      rcases h3 with e | e | e <;> simp [madeCells, hj, e]
    · simp [madeCells, hj]
  rw [h]
  clear h
  induction n with
  | zero => rfl
  | succ n ih => rw [show (n + 1) * 3 = n * 3 + 1 + 1 + 1 by omega, List.replicate_succ, List.replicate_succ, List.replicate_succ, ih, List.replicate_succ, tcl_cons]
theorem zero_trow (w : World) (n : Nat) (hn : n ≤ 1048576) : (Instr.makeSlice 28 (.int .i64 (n : Int)) (.int .i64 (n : Int))).run Try.prog w = .ok (.slice (some ⟨w.heap.size, 0, none⟩) n n) (w.alloc (.cells (madeCells #[.int .i64 0, .int .i64 0, .int .i64 0] (n * 3)) 76)) := by
  obtain ⟨i0, hi, hz0, hz1, hz2⟩ := info_parts infoArcL
  have := run_make (P := Try.prog) w 28 76 i0 (.agg #[.int .i64 0, .int .i64 0, .int .i64 0]) Try.underlying28 hi hz0 .i64 .i64 (n : Int) (n : Int) (by omega) (by omega) (by rw [hz2]; omega) (by omega)
  rw [this, hz1]
  simp [Value.cells]
def tfil (l : List (Int × Int × Int)) (i : Nat) : List (Int × Int × Int) := l.take i ++ List.replicate (l.length - i) (0, 0, 0)
theorem tfil_len (l : List (Int × Int × Int)) (i : Nat) (h : i ≤ l.length) : (tfil l i).length = l.length := by simp [tfil]; omega
theorem tfil_zero (l : List (Int × Int × Int)) : tfil l 0 = List.replicate l.length (0, 0, 0) := by simp [tfil]
theorem tfil_all (l : List (Int × Int × Int)) : tfil l l.length = l := by simp [tfil]
theorem tfil_step (l : List (Int × Int × Int)) (i : Nat) (h : i < l.length) : (tfil l i).set i (tat l i) = tfil l (i + 1) := by
  unfold tfil
  rw [show l.length - i = (l.length - (i + 1)) + 1 by omega, List.replicate_succ, List.set_append_right _ _ (by rw [List.length_take]; omega), show i - (l.take i).length = 0 by rw [List.length_take]; omega, List.set_cons_zero, tat_get h, List.take_succ_eq_append_getElem h, List.append_assoc]
  rfl
set_option maxHeartbeats 1000000 in
theorem copy_trs (v : Value) (l : List (Int × Int × Int)) (w : World) (h : TrsAt w v l) (hn : l.length ≤ 1048576) :
    Calls Try.prog 55 #[v] w fun e w' => ∃ u, e = .returned u ∧ w'.ownsRow w.heap.size 76 3 u l.length (tcl l) ∧ Below w.heap.size w w' := by
  rcases h with ⟨rfl, A, c, rfl⟩ | ⟨b, o, c, rfl, hb, h1⟩
  · have hm0 : ∀ W : World, (Instr.makeSlice 28 (.int .i64 0) (.int .i64 0)).run Try.prog W = .ok (.slice (some ⟨W.heap.size, 0, none⟩) 0 0) (W.alloc (.cells #[] 76)) := fun _ => by kernel_rfl
    have hmw := hm0 w
    clear hm0
    go_enter Try.func55, Try.ntmps55
    go_wp2
    refine wp_loop_rounds 1 ?_
    rw [rounds_succ]
    go_wp2
    go_ret
    exact ⟨_, rfl, World.ownsRow_lit _ _ _ (Nat.le_refl _) (by decide) (by decide), (Below.refl _ _).alloc (Nat.le_refl _) _⟩
  · have hmk0 := zero_trow w l.length (by omega)
    have H1 := Bx.mk h1
    clear h1
    go_enter Try.func55, Try.ntmps55
    go_wp2
    go_loopw [4] (fun i wr => ∃ j : Nat, j ≤ l.length ∧ i = .int .i64 j ∧ Bx (wr.ownsRow w.heap.size 76 3 (.slice (some ⟨w.heap.size, 0, none⟩) l.length l.length) l.length (tcl (tfil l j)) ∧ Below w.heap.size w wr)) (fun i _ => l.length - (intOf i).toNat)
    case atStart =>
      refine ⟨0, Nat.zero_le _, rfl, Bx.mk ⟨?_, (Below.refl _ _).alloc (Nat.le_refl _) _⟩⟩
      have := World.ownsRow_lit (base := w.heap.size) (e := 76) (size := 3) w (madeCells #[.int .i64 0, .int .i64 0, .int .i64 0] (l.length * 3)) l.length (Nat.le_refl _) (by unfold maxLen; omega) (by rw [size_madeCells])
      rw [made_three, ← tfil_zero] at this
      exact this
    case round =>
      obtain ⟨j, hj, rfl, HB⟩ := hrel
      by_cases hlt : j < l.length
      · have hml := tfil_len l j hj
        have h1 := (HB.out.2.cell (p := ⟨b, o + j * 3, none⟩) hb).trans (H1.out j hlt).1
        have h2 := (HB.out.2.cell (p := ⟨b, o + j * 3 + 1, none⟩) hb).trans (H1.out j hlt).2.1
        have h3 := (HB.out.2.cell (p := ⟨b, o + j * 3 + 2, none⟩) hb).trans (H1.out j hlt).2.2
        have HP := Bx.mk (tfil_step l j hlt)
        generalize tat l j = p at h1 h2 h3 HP
        obtain ⟨p1, p2, p3⟩ := p
        have hq := fun W => law_toarc p1 p2 p3 W
        unfold arcV at hq
        go_wp2_with (fail)
        refine (hq _).mono ?_
        rintro r w1 ⟨rfl, hb1⟩
        have HO : Bx (w1.ownsRow w.heap.size 76 3 (.slice (some ⟨w.heap.size, 0, none⟩) l.length l.length) l.length (tcl (tfil l j)) ∧ Below w.heap.size w w1) := Bx.mk ⟨own_below HB.out.1 hb1, HB.out.2.trans (hb1.mono HB.out.2.size)⟩
        clear HB hb1 h1 h2 h3
        have hc : w1.cell? ⟨w.heap.size, j * 3, none⟩ = some (.int .i64 (tat (tfil l j) j).1) := (HO.out.1.cellAt (j * 3) (by omega)).trans (tcl_at0 _ j (by omega))
        have hc1 : w1.cell? ⟨w.heap.size, j * 3 + 1, none⟩ = some (.int .i64 (tat (tfil l j) j).2.1) := (HO.out.1.cellAt (j * 3 + 1) (by omega)).trans (tcl_at1 _ j (by omega))
        have hc2 : w1.cell? ⟨w.heap.size, j * 3 + 2, none⟩ = some (.int .i64 (tat (tfil l j) j).2.2) := (HO.out.1.cellAt (j * 3 + 2) (by omega)).trans (tcl_at2 _ j (by omega))
        have hf := HO.out.1.frozenAt (j * 3)
        have hf1 := HO.out.1.frozenAt (j * 3 + 1)
        have hf2 := HO.out.1.frozenAt (j * 3 + 2)
        have HS : Bx ((((w1.setCell ⟨w.heap.size, j * 3, none⟩ (.int .i64 p1)).setCell ⟨w.heap.size, j * 3 + 1, none⟩ (.int .i64 p2)).setCell ⟨w.heap.size, j * 3 + 2, none⟩ (.int .i64 p3)).ownsRow w.heap.size 76 3 (.slice (some ⟨w.heap.size, 0, none⟩) l.length l.length) l.length (tcl (tfil l (j + 1))) ∧ Below w.heap.size w (((w1.setCell ⟨w.heap.size, j * 3, none⟩ (.int .i64 p1)).setCell ⟨w.heap.size, j * 3 + 1, none⟩ (.int .i64 p2)).setCell ⟨w.heap.size, j * 3 + 2, none⟩ (.int .i64 p3))) := Bx.mk (by
          have hs := HO.out.1.stored (j * 3) (.int .i64 p1)
          have hs2 := hs.1.stored (j * 3 + 1) (.int .i64 p2)
          have hs3 := hs2.1.stored (j * 3 + 2) (.int .i64 p3)
          rw [tcl_set _ j (p1, p2, p3) (by omega), HP.out] at hs3
          exact ⟨hs3.1, ((HO.out.2.setCell (Nat.le_refl _) _).setCell (Nat.le_refl _) _).setCell (Nat.le_refl _) _⟩)
        generalize (tat (tfil l j) j).1 = u0 at hc
        generalize (tat (tfil l j) j).2.1 = u1 at hc1
        generalize (tat (tfil l j) j).2.2 = u2 at hc2
        clear HO hml HP hq
        go_wp2_with (fail)
        go_roundw
        case rel => exact ⟨j + 1, by omega, by go_num, HS⟩
        case measure => simp [intOf]; omega
      · obtain rfl : j = l.length := by omega
        have HE := HB.out
        rw [tfil_all] at HE
        have HE := Bx.mk HE
        clear HB
        go_wp2
        go_ret
        exact ⟨_, rfl, HE.out.1, HE.out.2⟩
set_option maxHeartbeats 2000000 in
theorem copy_gr (v : Value) (G : Gr) (w : World) (h : GrAt w v G) (hm : SmG G) :
    Calls Try.prog 17 #[v] w fun e w' => ∃ f a, e = .returned (grV G.n G.s f a) ∧ w'.ownsRow w.heap.size 2 1 f G.f.length (ints G.f) ∧ w'.ownsRow w.heap.size 76 3 a G.a.length (tcl G.a) ∧
      (∀ g, f.ownBlock = some g → a.ownBlock ≠ some g) ∧ Below w.heap.size w w' := by
  obtain ⟨B, b, C, c, rfl, i1, i2⟩ := gr_form h
  have q1 := fun W (h : Below w.heap.size w W) => copy_ints _ G.f W (i1.below h) (Nat.le_trans hm.f (by decide))
  have q2 := fun W (h : Below w.heap.size w W) => copy_trs _ G.a W (i2.below h) hm.a
  clear h i1 i2 hm
  go_enter Try.func17, Try.ntmps17
  go_wp2_with (fail)
  have P0 := ((BoxN.at w w.heap.size #[.int .i64 G.n, .int .i64 G.s, .slice B G.f.length b, .slice C G.a.length c] 25 rfl).alloc (.cells #[.int .i64 0, .int .i64 0, .slice none 0 0, .slice none 0 0] 30)).alloc (.cells #[.int .i64 G.n, .int .i64 G.s, .slice none 0 0, .slice none 0 0] 30)
  have Z0 := (BoxN.at (w.alloc (.cells #[.int .i64 G.n, .int .i64 G.s, .slice B G.f.length b, .slice C G.a.length c] 25)) (w.heap.size + 1) #[.int .i64 0, .int .i64 0, .slice none 0 0, .slice none 0 0] 30 (by simp)).alloc (.cells #[.int .i64 G.n, .int .i64 G.s, .slice none 0 0, .slice none 0 0] 30)
  have K0 := BoxN.at ((w.alloc (.cells #[.int .i64 G.n, .int .i64 G.s, .slice B G.f.length b, .slice C G.a.length c] 25)).alloc (.cells #[.int .i64 0, .int .i64 0, .slice none 0 0, .slice none 0 0] 30)) (w.heap.size + 1 + 1) #[.int .i64 G.n, .int .i64 G.s, .slice none 0 0, .slice none 0 0] 30 (by simp)
  have B0 : Below w.heap.size w (((w.alloc (.cells #[.int .i64 G.n, .int .i64 G.s, .slice B G.f.length b, .slice C G.a.length c] 25)).alloc (.cells #[.int .i64 0, .int .i64 0, .slice none 0 0, .slice none 0 0] 30)).alloc (.cells #[.int .i64 G.n, .int .i64 G.s, .slice none 0 0, .slice none 0 0] 30)) := (((Below.refl _ _).alloc (Nat.le_refl _) _).alloc (by simp) _).alloc (by simp; omega) _
  have S0 : (((w.alloc (.cells #[.int .i64 G.n, .int .i64 G.s, .slice B G.f.length b, .slice C G.a.length c] 25)).alloc (.cells #[.int .i64 0, .int .i64 0, .slice none 0 0, .slice none 0 0] 30)).alloc (.cells #[.int .i64 G.n, .int .i64 G.s, .slice none 0 0, .slice none 0 0] 30)).heap.size = w.heap.size + 1 + 1 + 1 := by simp
  generalize hW : ((w.alloc (.cells #[.int .i64 G.n, .int .i64 G.s, .slice B G.f.length b, .slice C G.a.length c] 25)).alloc (.cells #[.int .i64 0, .int .i64 0, .slice none 0 0, .slice none 0 0] 30)).alloc (.cells #[.int .i64 G.n, .int .i64 G.s, .slice none 0 0, .slice none 0 0] 30) = W0 at *
  clear hW
  refine (q1 _ B0).mono ?_
  rintro r w1 ⟨f, rfl, ho, hb⟩
  obtain ⟨Af, cf, rfl⟩ := own_len ho
  have B1 := Bx.mk (B0.trans (hb.mono B0.size))
  have HU := Bx.mk (S0 ▸ ho)
  have P1 := Bx.mk (P0.below hb)
  have Z1 := Bx.mk (Z0.below hb)
  have K1 := Bx.mk (K0.below hb)
  clear P0 Z0 K0 B0 q1 ho hb S0
  have p3 := P1.out.c (k := 3) rfl
  have k2 := K1.out.c (k := 2) rfl
  have kf := K1.out.fr 2
  have kl := K1.out.lt
  go_wp2_with (fail)
  have K1 : Bx (BoxN (w1.setCell ⟨w.heap.size + 1 + 1, 2, none⟩ (.slice Af G.f.length cf)) (w.heap.size + 1 + 1) #[.int .i64 G.n, .int .i64 G.s, .slice Af G.f.length cf, .slice none 0 0] 30) := Bx.mk (K1.out.put 2 (.slice Af G.f.length cf))
  have P1 := Bx.mk (P1.out.other (b := w.heap.size + 1 + 1) (o := 2) (by omega) (.slice Af G.f.length cf))
  have Z1 := Bx.mk (Z1.out.other (b := w.heap.size + 1 + 1) (o := 2) (by omega) (.slice Af G.f.length cf))
  have HU := Bx.mk (ownset HU.out (b := w.heap.size + 1 + 1) (by omega) 2 (.slice Af G.f.length cf))
  have B1 := Bx.mk (B1.out.setCell (p := ⟨w.heap.size + 1 + 1, 2, none⟩) (by dsimp only; omega) (.slice Af G.f.length cf))
  clear p3 k2 kf kl
  generalize hW : w1.setCell ⟨w.heap.size + 1 + 1, 2, none⟩ (.slice Af G.f.length cf) = W1 at *
  clear hW
  refine (q2 _ B1.out).mono ?_
  rintro r w2 ⟨a, rfl, ho, hb⟩
  obtain ⟨Aa, ca, rfl⟩ := own_len ho
  have N1 : Bx (∀ g, (.slice Af G.f.length cf : Value).ownBlock = some g → (.slice Aa G.a.length ca : Value).ownBlock ≠ some g) := Bx.mk (fun g h1 h2 => by
    have := own_hi HU.out g h1
    have := own_lo ho g h2
    omega)
  have L1 := K1.out.lt
  have B2 := Bx.mk (B1.out.trans (hb.mono B1.out.size))
  have HD := Bx.mk (owndown (b1 := w.heap.size + 1 + 1 + 1) (by omega) ho)
  have HU := Bx.mk (own_below HU.out hb)
  have Z2 := Bx.mk (Z1.out.below hb)
  have K2 := Bx.mk (K1.out.below hb)
  clear P1 Z1 K1 B1 q2 ho hb L1
  have k0 := K2.out.c (k := 0) rfl
  have k1 := K2.out.c (k := 1) rfl
  have k2 := K2.out.c (k := 2) rfl
  have k3 := K2.out.c (k := 3) rfl
  have kf3 := K2.out.fr 3
  have kl := K2.out.lt
  have z0 := Z2.out.c (k := 0) rfl
  have zf0 := Z2.out.fr 0
  have z1 := Z2.out.c (k := 1) rfl
  have zf1 := Z2.out.fr 1
  have z2 := Z2.out.c (k := 2) rfl
  have zf2 := Z2.out.fr 2
  have z3 := Z2.out.c (k := 3) rfl
  have zf3 := Z2.out.fr 3
  have zl := Z2.out.lt
  go_wp2_with (fail)
  have P : BoxN (((((w2.setCell ⟨w.heap.size + 1 + 1, 3, none⟩ (.slice Aa G.a.length ca)).setCell ⟨w.heap.size + 1, 0, none⟩ (.int .i64 G.n)).setCell ⟨w.heap.size + 1, 1, none⟩ (.int .i64 G.s)).setCell ⟨w.heap.size + 1, 2, none⟩ (.slice Af G.f.length cf)).setCell ⟨w.heap.size + 1, 3, none⟩ (.slice Aa G.a.length ca)) (w.heap.size + 1) #[.int .i64 G.n, .int .i64 G.s, .slice Af G.f.length cf, .slice Aa G.a.length ca] 30 := (((((Z2.out.other (b := w.heap.size + 1 + 1) (o := 3) (by omega) (.slice Aa G.a.length ca)).put 0 (.int .i64 G.n)).put 1 (.int .i64 G.s)).put 2 (.slice Af G.f.length cf)).put 3 (.slice Aa G.a.length ca))
  have p0 := P.c (k := 0) rfl
  have p1 := P.c (k := 1) rfl
  have p2 := P.c (k := 2) rfl
  have p3 := P.c (k := 3) rfl
  refine bodyPost_ret (v := grV G.n G.s (.slice Af G.f.length cf) (.slice Aa G.a.length ca)) (by simp [results, Try.results17, go_sem, grV, p0, p1, p2, p3]) rfl ?_
  have hU := (ownset (ownset (ownset (ownset (ownset HU.out (b := w.heap.size + 1 + 1) (by omega) 3 (.slice Aa G.a.length ca)) (b := w.heap.size + 1) (by omega) 0 (.int .i64 G.n)) (b := w.heap.size + 1) (by omega) 1 (.int .i64 G.s)) (b := w.heap.size + 1) (by omega) 2 (.slice Af G.f.length cf)) (b := w.heap.size + 1) (by omega) 3 (.slice Aa G.a.length ca))
  have hD := (ownset (ownset (ownset (ownset (ownset HD.out (b := w.heap.size + 1 + 1) (by omega) 3 (.slice Aa G.a.length ca)) (b := w.heap.size + 1) (by omega) 0 (.int .i64 G.n)) (b := w.heap.size + 1) (by omega) 1 (.int .i64 G.s)) (b := w.heap.size + 1) (by omega) 2 (.slice Af G.f.length cf)) (b := w.heap.size + 1) (by omega) 3 (.slice Aa G.a.length ca))
  exact ⟨_, _, rfl, owndown (by omega) hU, owndown (by omega) hD, N1.out, (((((B2.out.setCell (p := ⟨w.heap.size + 1 + 1, 3, none⟩) (by dsimp only; omega) (.slice Aa G.a.length ca)).setCell (p := ⟨w.heap.size + 1, 0, none⟩) (by dsimp only; omega) (.int .i64 G.n)).setCell (p := ⟨w.heap.size + 1, 1, none⟩) (by dsimp only; omega) (.int .i64 G.s)).setCell (p := ⟨w.heap.size + 1, 2, none⟩) (by dsimp only; omega) (.slice Af G.f.length cf)).setCell (p := ⟨w.heap.size + 1, 3, none⟩) (by dsimp only; omega) (.slice Aa G.a.length ca))⟩
theorem gr_copy (v : Value) (G : Gr) (w : World) (h : GrAt w v G) (hm : SmG G) :
    Calls Try.prog 17 #[v] w fun e w' => ∃ v', e = .returned v' ∧ GrAt w' v' G ∧ Below w.heap.size w w' :=
  (copy_gr v G w h hm).mono fun e w' ⟨f, a, he, hf, ha, _, hb⟩ => ⟨_, he, ⟨f, a, rfl, IntsAt.own hf, TrsAt.own ha⟩, hb⟩
end Go.Proofs.Ytpbgjlmcafmejaa
