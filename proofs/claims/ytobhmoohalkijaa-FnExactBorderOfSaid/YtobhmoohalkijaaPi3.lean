/- Phrases, by the program: BorderOf, MovePhrase; MovePhrase by the model. -/
import Derived.Test.YtobhmoohalkijaaPi2
namespace Go.Proofs.Ytobhmoohalkijaa
open Go.ChangeShapes Go.WideShapes Go.ChangeAt Go.RowKit
set_option linter.unusedVariables false
set_option linter.unusedSimpArgs false
set_option maxRecDepth 100000

theorem list8 {T : List Int} (h : T.length = 8) : ∃ a b c d e f g i, T = [a, b, c, d, e, f, g, i] := by
  match T, h with
  | [a, b, c, d, e, f, g, i], _ => exact ⟨a, b, c, d, e, f, g, i, rfl⟩
theorem idx8 (T : List Int) (h : T.length = 8) (i : Nat) (hi : i < 8) (w : World) : (Instr.index 68 (.agg (ints T).toArray) (.int .i64 (i : Int))).run Try.prog w = .ok (.int .i64 (T.getD i 0)) w := by
  obtain ⟨a, b, c, d, e, f, g, j, rfl⟩ := list8 h
  rcases (show i = 0 ∨ i = 1 ∨ i = 2 ∨ i = 3 ∨ i = 4 ∨ i = 5 ∨ i = 6 ∨ i = 7 by omega) with rfl | rfl | rfl | rfl | rfl | rfl | rfl | rfl
  all_goals kernel_rfl
set_option maxHeartbeats 2000000 in
theorem impl_border (v : Value) (zs : List Int) (w : World) (h : IntsAt w v zs) (h1 : zs.length ≤ 1048576) :
    Calls Try.prog 32 #[v] w fun e w' => e = .returned (.tuple #[.int .i64 (borderE zs).1, .int .i64 (borderE zs).2]) ∧ Below w.heap.size w w' := by
  have q1 := impl_isphrase _ zs w h h1
  have HO : Bx (borderE zs = if phB zs = true then (((brdZ zs : Nat) : Int), (0 : Int)) else (0, 1)) := Bx.mk rfl
  have HQ := Bx.mk (fun h1 h8 => impl_borders v zs w h h1 h8)
  obtain ⟨A, c, rfl⟩ := ints_form h
  clear h
  generalize borderE zs = u at HO ⊢
  obtain ⟨u1, u2⟩ := u
  cases hph : phB zs
  · have HE : Bx ((u1, u2) = ((0 : Int), (1 : Int))) := Bx.mk (by rw [HO.out, hph]; rfl)
    rw [hph] at q1
    clear HO hph
    go_enter Try.func32, Try.ntmps32
    go_wp2_with (fail)
    refine q1.mono ?_
    rintro r w1 ⟨rfl, rfl⟩
    go_wp2_with (fail)
    go_returns
    exact ⟨pairR HE.out, Below.refl _ _⟩
  · have HE : Bx ((u1, u2) = (((brdZ zs : Nat) : Int), (0 : Int))) := Bx.mk (by rw [HO.out, hph]; rfl)
    obtain ⟨_, l2, l3⟩ := ph_yes hph
    have q2 := HQ.out (by omega) l3
    rw [hph] at q1
    clear HO hph HQ
    have y0 : IntKind.i64.wrap ((zs.length : Int) - 1) = ((zs.length - 1 : Nat) : Int) := by rw [IntWalk.i64_in _ (by omega)]; omega
    go_enter Try.func32, Try.ntmps32
    go_wp2_with (fail)
    refine q1.mono ?_
    rintro r w1 ⟨rfl, rfl⟩
    go_wp2_with (fail)
    refine q2.mono ?_
    rintro r w2 ⟨T, rfl, hT8, hT, hb⟩
    obtain ⟨x, e1, e2⟩ := hT (zs.length - 1) (by omega)
    rw [show zs.length - 1 + 1 = zs.length by omega] at e2
    have hidx := fun W => idx8 T hT8 (zs.length - 1) (by omega) W
    rw [e1] at hidx
    have HX : Bx (x = brdZ zs) := Bx.mk (e2.uniq (brdZ_brd (by omega)))
    clear hT e1 e2 q2
    generalize (ints T).toArray = arr at *
    go_wp2_with (fail)
    go_returns
    exact ⟨pairR (HE.out.trans (by rw [HX.out])), hb⟩
theorem make_cap (w : World) (n : Nat) (hn : n ≤ 17592186044416) : (Instr.makeSlice 27 (.int .i64 0) (.int .i64 (n : Int))).run Try.prog w = .ok (.slice (some ⟨w.heap.size, 0, none⟩) 0 n) (w.alloc (.cells (madeCells #[.int .i64 0] n) 2)) := by
  obtain ⟨i0, hi, hz0, hz1, hz2⟩ := info_parts infoI64
  have := run_make (P := Try.prog) w 27 2 i0 (.int .i64 0) Try.underlying27 hi hz0 .i64 .i64 0 (n : Int) (by omega) (by omega) (by rw [hz2]; omega) (by omega)
  rw [this, hz1]
  simp [Value.cells]
theorem own_cap (w : World) (n : Nat) (hn : n ≤ maxLen) : (w.alloc (.cells (madeCells #[.int .i64 0] n) 2)).ownsRow w.heap.size 2 1 (.slice (some ⟨w.heap.size, 0, none⟩) 0 n) 0 [] :=
  ⟨rfl, .inr ⟨w.heap.size, n, _, rfl, Nat.le_refl _, heap_alloc_new w _, Nat.zero_le _, hn, by rw [size_madeCells]; simp, by simp⟩⟩
set_option maxHeartbeats 4000000 in
theorem impl_move (v : Value) (zs : List Int) (d : Int) (w : World) (h : IntsAt w v zs) (h1 : zs.length ≤ 1048576) :
    Calls Try.prog 41 #[v, .int .i64 d] w (LCOut (moveE zs d) w) := by
  obtain ⟨i0, hi, hz0, hz1, hz2⟩ := info_parts infoI64
  have q1 := impl_isphrase _ zs w h h1
  have HI := Bx.mk h
  obtain ⟨A, c, rfl⟩ := ints_form h
  clear h
  cases hph : phB zs
  · have HE := Bx.mk (move_no1 (d := d) hph)
    rw [hph] at q1
    clear hph
    go_enter Try.func41, Try.ntmps41
    go_wp2_with (fail)
    refine q1.mono ?_
    rintro r w1 ⟨rfl, rfl⟩
    go_wp2_with (fail)
    go_returns
    exact lc_nil HE.out (Below.refl _ _)
  · obtain ⟨hpt, l2, l3⟩ := ph_yes hph
    have HPT := Bx.mk (pit_yes hpt).2
    have q1' := q1
    rw [hph] at q1'
    by_cases hd : -36 ≤ d ∧ d ≤ 36
    · obtain ⟨hd1, hd2⟩ := hd
      have d1 : decide (d < -36) = false := decide_eq_false (by omega)
      have d2 : decide (d > 36) = false := decide_eq_false (by omega)
      have HEy := Bx.mk (fun hp => move_yes (zs := zs) hph ⟨hd1, hd2⟩ hp)
      have HEn := Bx.mk (fun hp => move_no3 (zs := zs) hph ⟨hd1, hd2⟩ hp)
      have hmk := make_cap w zs.length (by omega)
      clear hph q1 hpt
      go_enter Try.func41, Try.ntmps41
      go_wp2_with (fail)
      refine q1'.mono ?_
      rintro r w1 ⟨rfl, rfl⟩
      go_wp2_with (fail)
      clear d1 d2 hmk q1'
      go_loopw [6, 25] (fun v i wr => ∃ k : Nat, k ≤ zs.length ∧ i = .int .i64 k ∧ wr.ownsRow w.heap.size 2 1 v (mvK zs d k).length (ints (mvK zs d k)) ∧ Below w.heap.size w wr) (fun _ i _ => zs.length - (intOf i).toNat)
      case atStart => exact ⟨0, Nat.zero_le _, rfl, own_cap w zs.length (by unfold maxLen; omega), (Below.refl _ _).alloc (Nat.le_refl _) _⟩
      case round =>
        obtain ⟨k, hk, rfl, hown, hbw⟩ := hrel
        have hsz := hbw.size
        have hll := mvK_len zs d k
        by_cases hlt : k < zs.length
        · obtain ⟨b, o, cc, hv, lb, hc⟩ := HI.out.form (by omega)
          injection hv with hA _ hC
          subst hA hC
          have x1 : wr.cell? ⟨b, o + k, none⟩ = some (.int .i64 (zs.getD k 0)) := (hbw.cell (p := ⟨b, o + k, none⟩) lb).trans (hc k hlt)
          have HS := Bx.mk (mvK_succ zs d k)
          obtain ⟨r1, r2⟩ := HPT.out k hlt
          have k1 : (0 : Int) ≤ (k : Int) := by omega
          have k2 : (k : Int) < (zs.length : Int) := by omega
          have d1 : decide ((k : Int) < (zs.length : Int)) = true := decide_eq_true k2
          clear hc lb HPT HI
          generalize zs.getD k 0 = x at *
          have y0 : IntKind.i64.wrap (x + d) = x + d := IntWalk.i64_in _ (by omega)
          go_wp2_with ((at_builtin; refine wpList_append_own _ rfl _ _ 27 rfl w.heap.size 2 i0 (.int .i64 0) 1 8 Try.underlying27 hi hz0 hz1 hz2 rfl (by decide) _ _ _ rfl (hown.alloc _) ⟨wr.heap.size, 0, none⟩ 1 1 [.int .i64 (x + d)] rfl rfl (cell_one_new _ _ _) (fun x hx => by simp at hx; subst hx; rfl) (by unfold maxLen; omega) (by omega) (by simp; omega) ?_; intro v' w3 hown' hgrow3 hnil3))
          have hown2 : w3.ownsRow w.heap.size 2 1 v' (mvK zs d (k + 1)).length (ints (mvK zs d (k + 1))) := by
            rw [HS.out, ints_snoc', List.length_append]; exact hown'
          have hb2 : Below w.heap.size w w3 := below_app' hbw hown (Nat.le_refl _) hgrow3
          clear hown' hgrow3 hnil3 hown
          go_roundw
          case rel => exact ⟨k + 1, by omega, by go_num, hown2, hb2⟩
          case measure => simp [intOf]; omega
        · obtain rfl : k = zs.length := by omega
          have d1 : decide ((zs.length : Int) < (zs.length : Int)) = false := decide_eq_false (by omega)
          have hq := impl_pits _ (mvK zs d zs.length) wr (IntsAt.own hown) (by omega)
          have HOW := Bx.mk hown
          obtain ⟨A3, c3, rfl⟩ := own_len hown
          clear hown
          have hmk8 : Bx ((mvK zs d zs.length).length ≤ 8) := Bx.mk (by omega)
          clear hll HPT HI hsz
          generalize mvK zs d zs.length = M at *
          cases hp : pitB M
          · have HE := Bx.mk (HEn.out hp)
            rw [hp] at hq
            clear hp HEy HEn
            go_wp2_with (fail)
            refine hq.mono ?_
            rintro r w1 ⟨rfl, rfl⟩
            go_wp2_with (fail)
            go_returns
            exact lc_nil HE.out hbw
          · have HE := Bx.mk (HEy.out hp)
            rw [hp] at hq
            clear hp HEy HEn
            go_wp2_with (fail)
            refine hq.mono ?_
            rintro r w1 ⟨rfl, rfl⟩
            go_wp2_with (fail)
            go_returns
            exact lc_some HE.out HOW.out hbw
    · have HE := Bx.mk (move_no2 hph hd)
      clear hph q1
      by_cases h36 : d < -36
      · have d1 : decide (d < -36) = true := decide_eq_true h36
        clear hd h36
        go_enter Try.func41, Try.ntmps41
        go_wp2_with (fail)
        refine q1'.mono ?_
        rintro r w1 ⟨rfl, rfl⟩
        go_wp2_with (fail)
        go_returns
        exact lc_nil HE.out (Below.refl _ _)
      · have d1 : decide (d < -36) = false := decide_eq_false h36
        have d2 : decide (d > 36) = true := decide_eq_true (by omega)
        clear hd h36
        go_enter Try.func41, Try.ntmps41
        go_wp2_with (fail)
        refine q1'.mono ?_
        rintro r w1 ⟨rfl, rfl⟩
        go_wp2_with (fail)
        go_returns
        exact lc_nil HE.out (Below.refl _ _)
set_option maxHeartbeats 4000000 in
theorem spec_move (v : Value) (zs : List Int) (d : Int) (w : World) (h : IntsAt w v zs) (h1 : zs.length ≤ 1048576) :
    Calls Try.prog 40 #[v, .int .i64 d] w (LCOut (moveE zs d) w) := by
  obtain ⟨i0, hi, hz0, hz1, hz2⟩ := info_parts infoI64
  have q1 := spec_phrase _ zs w h h1
  have qi := fun W => in_any d (-36) 36 W
  have HI := Bx.mk h
  obtain ⟨A, c, rfl⟩ := ints_form h
  clear h
  cases hph : phB zs
  · have HE := Bx.mk (move_no1 (d := d) hph)
    rw [hph] at q1
    clear hph
    go_enter Try.func40, Try.ntmps40
    go_wp2_with (fail)
    refine q1.mono ?_
    rintro r w1 ⟨rfl, rfl⟩
    go_wp2_with (fail)
    go_returns
    exact lc_nil HE.out (Below.refl _ _)
  · obtain ⟨hpt, l2, l3⟩ := ph_yes hph
    have HPT := Bx.mk (pit_yes hpt).2
    have q1' := q1
    rw [hph] at q1'
    by_cases hd : -36 ≤ d ∧ d ≤ 36
    · rw [inB_mk hd] at qi
      have HEy := Bx.mk (fun hp => move_yes (zs := zs) hph hd hp)
      have HEn := Bx.mk (fun hp => move_no3 (zs := zs) hph hd hp)
      obtain ⟨hd1, hd2⟩ := hd
      clear hph q1 hpt
      go_enter Try.func40, Try.ntmps40
      go_wp2_with (fail)
      refine q1'.mono ?_
      rintro r w1 ⟨rfl, rfl⟩
      go_wp2_with (fail)
      refine (qi _).mono ?_
      rintro r w1 ⟨rfl, rfl⟩
      go_wp2_with (fail)
      clear qi q1'
      go_loopw [6, 7] (fun v i wr => ∃ k : Nat, k ≤ zs.length ∧ i = .int .i64 k ∧ Bx (∀ i, i < k → inB (zs.getD i 0 + d) (-12) 23 = true) ∧ wr.ownsRow w.heap.size 2 1 v (mvK zs d k).length (ints (mvK zs d k)) ∧ Below w.heap.size w wr) (fun _ i _ => zs.length - (intOf i).toNat)
      case atStart => exact ⟨0, Nat.zero_le _, rfl, Bx.mk (fun i hi => absurd hi (Nat.not_lt_zero _)), World.ownsRow_lit _ _ _ (Nat.le_refl _) (by decide) (by decide), (Below.refl _ _).alloc (Nat.le_refl _) _⟩
      case round =>
        obtain ⟨k, hk, rfl, HK, hown, hbw⟩ := hrel
        have hsz := hbw.size
        have hll := mvK_len zs d k
        by_cases hlt : k < zs.length
        · obtain ⟨b, o, cc, hv, lb, hc⟩ := HI.out.form (by omega)
          injection hv with hA _ hC
          subst hA hC
          have x1 : wr.cell? ⟨b, o + k, none⟩ = some (.int .i64 (zs.getD k 0)) := (hbw.cell (p := ⟨b, o + k, none⟩) lb).trans (hc k hlt)
          have HS := Bx.mk (mvK_succ zs d k)
          have qp := fun W => spec_pitch (zs.getD k 0 + d) W
          obtain ⟨r1, r2⟩ := HPT.out k hlt
          have k1 : (0 : Int) ≤ (k : Int) := by omega
          have k2 : (k : Int) < (zs.length : Int) := by omega
          have d1 : decide ((k : Int) < (zs.length : Int)) = true := decide_eq_true k2
          cases hp : inB (zs.getD k 0 + d) (-12) 23
          · have HE := Bx.mk (HEn.out (move_at k hlt hp))
            rw [hp] at qp
            clear hc lb HPT HI hp HK HS hown
            generalize zs.getD k 0 = x at *
            have y0 : IntKind.i64.wrap (x + d) = x + d := IntWalk.i64_in _ (by omega)
            go_wp2_with (fail)
            refine (qp _).mono ?_
            rintro r w1 ⟨rfl, rfl⟩
            go_wp2_with (fail)
            go_returns
            exact lc_nil HE.out hbw
          · have HK2 : Bx (∀ i, i < k + 1 → inB (zs.getD i 0 + d) (-12) 23 = true) := Bx.mk (fun i hi => by
              by_cases hik : i = k
              · subst hik; exact hp
              · exact HK.out i (by omega))
            rw [hp] at qp
            clear hc lb HPT HI hp HK HEy HEn
            generalize hx : zs.getD k 0 = x at x1 qp HS r1 r2
            clear hx
            have y0 : IntKind.i64.wrap (x + d) = x + d := IntWalk.i64_in _ (by omega)
            go_wp2_with (fail)
            refine (qp _).mono ?_
            rintro r w1 ⟨rfl, rfl⟩
            go_wp2_with ((at_builtin; refine wpList_append_own _ rfl _ _ 27 rfl w.heap.size 2 i0 (.int .i64 0) 1 8 Try.underlying27 hi hz0 hz1 hz2 rfl (by decide) _ _ _ rfl (hown.alloc _) ⟨wr.heap.size, 0, none⟩ 1 1 [.int .i64 (x + d)] rfl rfl (cell_one_new _ _ _) (fun x hx => by simp at hx; subst hx; rfl) (by unfold maxLen; omega) (by omega) (by simp; omega) ?_; intro v' w3 hown' hgrow3 hnil3))
            have hown2 : w3.ownsRow w.heap.size 2 1 v' (mvK zs d (k + 1)).length (ints (mvK zs d (k + 1))) := by
              rw [HS.out, ints_snoc', List.length_append]; exact hown'
            have hb2 : Below w.heap.size w w3 := below_app' hbw hown (Nat.le_refl _) hgrow3
            clear hown' hgrow3 hnil3 hown
            go_roundw
            case rel => exact ⟨k + 1, by omega, by go_num, HK2, hown2, hb2⟩
            case measure => simp [intOf]; omega
        · obtain rfl : k = zs.length := by omega
          have d1 : decide ((zs.length : Int) < (zs.length : Int)) = false := decide_eq_false (by omega)
          have HE := Bx.mk (HEy.out (move_all l3 HK.out))
          have HOW := Bx.mk hown
          obtain ⟨A3, c3, rfl⟩ := own_len hown
          clear hown HEy HEn HK HI HPT
          go_wp2_with (fail)
          go_returns
          exact lc_some HE.out HOW.out hbw
    · have HE := Bx.mk (move_no2 hph hd)
      have hn : inB d (-36) 36 = false := by
        apply Bool.eq_false_iff.2
        intro h
        exact hd (inB_yes h)
      rw [hn] at qi
      clear hph q1 hn hd
      go_enter Try.func40, Try.ntmps40
      go_wp2_with (fail)
      refine q1'.mono ?_
      rintro r w1 ⟨rfl, rfl⟩
      go_wp2_with (fail)
      refine (qi _).mono ?_
      rintro r w1 ⟨rfl, rfl⟩
      go_wp2_with (fail)
      go_returns
      exact lc_nil HE.out (Below.refl _ _)
end Go.Proofs.Ytobhmoohalkijaa
