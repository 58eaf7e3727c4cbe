/- The program's WorstFifth. -/
import Derived.Test.YtbnhcacjlkmfeaaDoorTi2
import Derived.Test.YtbnhcacjlkmfeaaDoorTu12
namespace Go.Proofs.YtbnhcacjlkmfeaaDoor
open Go.ChangeShapes Go.WideShapes Go.ChangeAt Go.RowKit
set_option linter.unusedVariables false
set_option linter.unusedSimpArgs false
set_option maxRecDepth 100000

theorem bel5 {q W : World} {a b c d : Prop} (h : a ∧ b ∧ c ∧ d ∧ Below q.heap.size q W) : Below q.heap.size q W := h.2.2.2.2
theorem tab5 {q W : World} {a b c : Prop} (h : a ∧ b ∧ c ∧ Bx (StepTab W) ∧ Below q.heap.size q W) : StepTab W := h.2.2.2.1.out
set_option maxHeartbeats 2000000 in
theorem impl_fifth (s : ByteArray) (v : Value) (l : List (Int × Int)) (k : Int) (w : World) (h : PrsAt w v l) (ht : tunB s.data.toList l = true) (hk : 0 ≤ k ∧ k ≤ 11) (hT : StepTab w) :
    Calls Tryd.prog 45 #[tun s v, .int .i64 k] w fun e w' => e = .returned (.int .i64 (fifT l k)) ∧ Below w.heap.size w w' := by
  have h1 := fun W hW hT => impl_tcents s v l (k + 7) W hW ht (by omega) hT
  have h2 := fun W hW hT => impl_tcents s v l k W hW ht (by omega) hT
  have c1 := centsT_bd ht (p := k + 7) (by omega)
  have c2 := centsT_bd ht (p := k) (by omega)
  have HE : Bx (fifT l k = centsT l (k + 7) - centsT l k - 70196) := Bx.mk rfl
  obtain ⟨k1, k2⟩ := hk
  have E1 : IntKind.i64.wrap (k + 7) = k + 7 := IntWalk.i64_in _ (by omega)
  have E2 : IntKind.i64.wrap (centsT l (k + 7) - centsT l k) = centsT l (k + 7) - centsT l k := IntWalk.i64_in _ (by omega)
  have E3 : IntKind.i64.wrap (centsT l (k + 7) - centsT l k - 70196) = centsT l (k + 7) - centsT l k - 70196 := IntWalk.i64_in _ (by omega)
  rw [HE.out]
  generalize centsT l (k + 7) = x at *
  generalize centsT l k = y at *
  have HI := Bx.mk h
  have HT := Bx.mk hT
  obtain ⟨A, c, rfl⟩ := prs_len h
  simp only [tun] at *
  clear ht h hT HE
  have HS0 : Bx ((w.alloc (.cells #[.string s, .slice A l.length c] 30)).cell? ⟨w.heap.size, 0, none⟩ = some (.string s) ∧ (w.alloc (.cells #[.string s, .slice A l.length c] 30)).cell? ⟨w.heap.size, 1, none⟩ = some (.slice A l.length c) ∧ w.heap.size < (w.alloc (.cells #[.string s, .slice A l.length c] 30)).heap.size ∧ Bx (StepTab (w.alloc (.cells #[.string s, .slice A l.length c] 30))) ∧ Below w.heap.size w (w.alloc (.cells #[.string s, .slice A l.length c] 30))) := Bx.mk ⟨(BoxAt.at _ _ _ _ _ rfl).c0, (BoxAt.at _ _ _ _ _ rfl).c1, (BoxAt.at _ _ _ _ _ rfl).lt, Bx.mk (HT.out.alloc _), (Below.refl _ _).alloc (Nat.le_refl _) _⟩
  go_enter Tryd.func45, Tryd.ntmps45
  go_wp2_with (fail)
  go_region_held3 (fun W => W.cell? ⟨w.heap.size, 0, none⟩ = some (.string s) ∧ W.cell? ⟨w.heap.size, 1, none⟩ = some (.slice A l.length c) ∧ w.heap.size < W.heap.size ∧ Bx (StepTab W) ∧ Below w.heap.size w W)
    (first | (with_reducible exact keepH (by assumption) hb4) | (with_reducible exact keepH (by assumption) (Below.refl _ _)) | (with_reducible exact keepH (by assumption) (Below.refl _ _).drew) | exact keepH HS0.out (Below.refl _ _).drew)
    (first | (go_at_call 36; (with_reducible refine (h1 _ (HI.out.below (bel5 (by assumption))) (tab5 (by assumption))).mono ?_); rintro r w4 ⟨rfl, hb4⟩; have hS0 := keepH (w := w) (by assumption) hb4) | (go_at_call 36; (with_reducible refine (h2 _ (HI.out.below (bel5 (by assumption))) (tab5 (by assumption))).mono ?_); rintro r w4 ⟨rfl, hb4⟩; have hS0 := keepH (w := w) (by assumption) hb4))
  all_goals
    go_wp2_with (fail)
    go_ret
    exact ⟨rfl, bel5 (by assumption)⟩
theorem fifT_bd {s : List UInt8} {l : List (Int × Int)} (ht : tunB s l = true) {k : Int} (hk : 0 ≤ k ∧ k ≤ 11) : -2000000000000 ≤ fifT l k ∧ fifT l k ≤ 2000000000000 := by
  have a := centsT_bd ht (p := k) (by omega)
  have b := centsT_bd ht (p := k + 7) (by omega)
  unfold fifT; omega
theorem nA_max (x : Int) : nA x = max x (-x) := by unfold nA; omega
set_option maxHeartbeats 4000000 in
theorem impl_worst (s : ByteArray) (v : Value) (l : List (Int × Int)) (w : World) (h : PrsAt w v l) (hs : s.size ≤ maxLen) (hm : l.length ≤ 281474976710656) (hT : StepTab w) :
    Calls Tryd.prog 23 #[tun s v] w (ThreeOut (woE s.data.toList l) w) := by
  have hk := fun W hW => impl_validtuning s v l W hW hs hm
  have HI := Bx.mk h
  have HT := Bx.mk hT
  obtain ⟨A, c, rfl⟩ := prs_len h
  simp only [tun] at *
  cases ht : tunB s.data.toList l
  · have HE : Bx (woE s.data.toList l = (0, 0, 1)) := Bx.mk (by simp [woE, ht])
    rw [ht] at hk
    clear ht h hs hm hT
    go_enter Tryd.func23, Tryd.ntmps23
    go_wp2_with (fail)
    refine (hk _ (HI.out.below ((Below.refl _ _).alloc (Nat.le_refl _) _))).mono ?_
    rintro e w1 ⟨rfl, hb1⟩
    have B1 : Bx (Below w.heap.size w w1) := Bx.mk (((Below.refl _ _).alloc (Nat.le_refl _) _).trans (hb1.mono (by go_size)))
    clear hb1
    go_wp2_with (fail)
    go_returns
    rw [ThreeOut, HE.out]
    exact ⟨rfl, B1.out⟩
  · have hfi := fun k hk W hW hT => impl_fifth s (.slice A l.length c) l k W hW ht hk hT
    simp only [tun] at hfi
    have hfb := Bx.mk (fun k (hk : 0 ≤ k ∧ k ≤ 11) => fifT_bd (k := k) ht hk)
    have HE : Bx (woE s.data.toList l = ((worT l 12).1, (worT l 12).2, 0)) := Bx.mk (by simp [woE, ht])
    have hwb := Bx.mk (fun k hk => worT_bd (k := k) ht hk)
    have hf0 := hfi 0 (by omega)
    rw [ht] at hk
    clear ht h hs hm hT
    go_enter Tryd.func23, Tryd.ntmps23
    go_wp2_with (fail)
    refine (hk _ (HI.out.below ((Below.refl _ _).alloc (Nat.le_refl _) _))).mono ?_
    rintro e w1 ⟨rfl, hb1⟩
    have B1 : Bx (Below w.heap.size w w1) := Bx.mk (((Below.refl _ _).alloc (Nat.le_refl _) _).trans (hb1.mono (by go_size)))
    have K1 : Bx (BoxAt w1 w.heap.size (.string s) (.slice A l.length c) 30) := Bx.mk (BoxAt.below (BoxAt.at _ _ _ _ _ rfl) hb1)
    clear hb1 hk
    have k10 := K1.out.c0
    have k11 := K1.out.c1
    have k1l := K1.out.lt
    go_wp2_with (fail)
    refine (hf0 _ (HI.out.below B1.out) (HT.out.below B1.out)).mono ?_
    rintro e w2 ⟨rfl, hb2⟩
    have B2 : Bx (Below w.heap.size w w2) := Bx.mk (B1.out.trans (hb2.mono B1.out.size))
    have K2 : Bx (BoxAt w2 w.heap.size (.string s) (.slice A l.length c) 30) := Bx.mk (K1.out.below hb2)
    clear hb2 K1 B1 k10 k11 k1l hf0
    go_wp2_with (fail)
    go_loopw [5, 6, 7] (fun x y z wr => ∃ k : Nat, k ≤ 11 ∧ x = .int .i64 (worT l (k + 1)).1 ∧ y = .int .i64 (worT l (k + 1)).2 ∧ z = .int .i64 (1 + (k : Int)) ∧ Bx (BoxAt wr w.heap.size (.string s) (.slice A l.length c) 30) ∧ Bx (Below w.heap.size w wr)) (fun _ _ z _ => (12 - intOf z).toNat)
    case atStart => exact ⟨0, by omega, by simp [worT], by simp [worT], rfl, K2, B2⟩
    case round =>
      clear K2 B2
      obtain ⟨k, hk, rfl, rfl, rfl, K1, B1⟩ := hrel
      by_cases hlt : k < 11
      · have hf1 := hfi (1 + (k : Int)) (by omega)
        obtain ⟨r1, r2⟩ := hfb.out (1 + (k : Int)) (by omega)
        obtain ⟨q1, q2⟩ := hwb.out (k + 1) (by omega)
        have HN : Bx (worT l (k + 1 + 1) = if nA (worT l (k + 1)).2 < nA (fifT l (1 + (k : Int))) then (1 + (k : Int), fifT l (1 + (k : Int))) else worT l (k + 1)) := Bx.mk (by
          rw [worT, nA_max, nA_max, show (((k + 1 : Nat) : Int)) = 1 + (k : Int) by omega]
          simp)
        have x1 : decide (1 + (k : Int) < 12) = true := decide_eq_true (by omega)
        have m1 := fun W => mag (fifT l (1 + (k : Int))) W (by omega) (by omega)
        have m2 := fun W => mag (worT l (k + 1)).2 W (by omega) (by omega)
        have k10 := K1.out.c0
        have k11 := K1.out.c1
        have k1l := K1.out.lt
        clear hfi hfb hwb
        generalize fifT l (1 + (k : Int)) = z at *
        generalize hX : nA z = X at *
        generalize hY : nA (worT l (k + 1)).2 = Y at *
        clear hX hY
        by_cases hab : Y < X
        · have HN2 := Bx.mk (HN.out.trans (if_pos hab))
          have y1 : decide (X > Y) = true := decide_eq_true hab
          have y2 : decide (Y < X) = true := decide_eq_true hab
          clear HN hab
          go_wp2_with (fail)
          refine (hf1 _ (HI.out.below B1.out) (HT.out.below B1.out)).mono ?_
          rintro e w2 ⟨rfl, hb2⟩
          have K2 : Bx (BoxAt w2 w.heap.size (.string s) (.slice A l.length c) 30) := Bx.mk (K1.out.below hb2)
          have B2 : Bx (Below w.heap.size w w2) := Bx.mk (B1.out.trans (hb2.mono B1.out.size))
          clear hb2 K1 B1 k10 k11 k1l
          go_wp2_with (first | (go_at_call 46; (with_reducible refine (m1 _).mono ?_); rintro r w6 ⟨rfl, rfl⟩) | (go_at_call 46; (with_reducible refine (m2 _).mono ?_); rintro r w6 ⟨rfl, rfl⟩))
          go_roundw
          case rel => exact ⟨k + 1, by omega, by rw [HN2.out], by rw [HN2.out], by go_num, K2, B2⟩
          case measure => simp [intOf]; omega
        · have HN2 := Bx.mk (HN.out.trans (if_neg hab))
          have y1 : decide (X > Y) = false := decide_eq_false hab
          have y2 : decide (Y < X) = false := decide_eq_false hab
          clear HN hab
          go_wp2_with (fail)
          refine (hf1 _ (HI.out.below B1.out) (HT.out.below B1.out)).mono ?_
          rintro e w2 ⟨rfl, hb2⟩
          have K2 : Bx (BoxAt w2 w.heap.size (.string s) (.slice A l.length c) 30) := Bx.mk (K1.out.below hb2)
          have B2 : Bx (Below w.heap.size w w2) := Bx.mk (B1.out.trans (hb2.mono B1.out.size))
          clear hb2 K1 B1 k10 k11 k1l
          go_wp2_with (first | (go_at_call 46; (with_reducible refine (m1 _).mono ?_); rintro r w6 ⟨rfl, rfl⟩) | (go_at_call 46; (with_reducible refine (m2 _).mono ?_); rintro r w6 ⟨rfl, rfl⟩))
          go_roundw
          case rel => exact ⟨k + 1, by omega, by rw [HN2.out], by rw [HN2.out], by go_num, K2, B2⟩
          case measure => simp [intOf]; omega
      · obtain rfl : k = 11 := by omega
        have x1 : decide (1 + ((11 : Nat) : Int) < 12) = false := decide_eq_false (by omega)
        go_wp2_with (fail)
        go_returns
        rw [ThreeOut, HE.out]
        exact ⟨rfl, B1.out⟩
end Go.Proofs.YtbnhcacjlkmfeaaDoor
