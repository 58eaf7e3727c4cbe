/- The model's WorstFifth. -/
import Derived.Test.YtbnhcacjlkmfeaaDoorTu11
namespace Go.Proofs.YtbnhcacjlkmfeaaDoor
open Go.ChangeShapes Go.WideShapes Go.ChangeAt Go.RowKit
set_option linter.unusedVariables false
set_option linter.unusedSimpArgs false
set_option maxRecDepth 100000

/-- how much a fifth is off -/
noncomputable def fifT (l : List (Int × Int)) (k : Int) : Int := centsT l (k + 7) - centsT l k - 70196
/-- the worst of the first fifths, and how much it is off -/
noncomputable def worT (l : List (Int × Int)) : Nat → Int × Int
  | 0 => (0, 0)
  | k + 1 => if k = 0 ∨ max (worT l k).2 (-(worT l k).2) < max (fifT l k) (-(fifT l k)) then ((k : Int), fifT l k) else worT l k
theorem worT_bd {s : List UInt8} {l : List (Int × Int)} (ht : tunB s l = true) (k : Nat) (hk : k ≤ 12) : (0 ≤ (worT l k).1 ∧ (worT l k).1 ≤ 11) ∧ (-2000000000000 ≤ (worT l k).2 ∧ (worT l k).2 ≤ 2000000000000) := by
  induction k with
  | zero => simp [worT]
  | succ k ih =>
    have h1 := ih (by omega)
    have a := centsT_bd ht (p := (k : Int)) (by omega)
    have b := centsT_bd ht (p := (k : Int) + 7) (by omega)
    rw [worT]
    split
    · simp only [fifT]; omega
    · exact h1
/-- WorstFifth -/
noncomputable def woE (s : List UInt8) (l : List (Int × Int)) : Int × Int × Int := if tunB s l = true then ((worT l 12).1, (worT l 12).2, 0) else (0, 0, 1)
set_option maxHeartbeats 2000000 in
theorem spec_worst (s : ByteArray) (v : Value) (l : List (Int × Int)) (w : World) (h : PrsAt w v l) (hs : s.size ≤ maxLen) (hm : l.length ≤ 281474976710656) :
    Calls Tryd.prog 22 #[tun s v] w (ThreeOut (woE s.data.toList l) w) := by
  have hk := fun g W a0 a1 hW => spec_tok g s v l W a0 a1 hW hs hm
  have HI := Bx.mk h
  unfold tun
  cases ht : tunB s.data.toList l
  · have HE : Bx (woE s.data.toList l = (0, 0, 1)) := Bx.mk (by simp [woE, ht])
    rw [ht] at hk
    clear ht h hs hm
    go_enter Tryd.func22, Tryd.ntmps22
    go_wp2_with (fail)
    refine (hk _ _ (by go_simp) (by go_simp) (HI.out.below ((Below.refl _ _).alloc (Nat.le_refl _) _))).mono ?_
    rintro e w' ⟨rfl, k, rfl⟩
    go_wp2_with (fail)
    go_returns
    rw [ThreeOut, HE.out]
    exact ⟨rfl, below_draws ((Below.refl _ _).alloc (Nat.le_refl _) _) _⟩
  · have HE : Bx (woE s.data.toList l = ((worT l 12).1, (worT l 12).2, 0)) := Bx.mk (by simp [woE, ht])
    have hce := Bx.mk (fun p hp g W a0 a1 hW => spec_tcents g s v l p W a0 a1 hW ht hp)
    have hbd := Bx.mk (fun k hk => worT_bd (k := k) ht hk)
    have hcd := Bx.mk (fun p hp => centsT_bd (p := p) ht hp)
    rw [ht] at hk
    clear ht h hs hm
    go_enter Tryd.func22, Tryd.ntmps22
    go_wp2_with (fail)
    refine (hk _ _ (by go_simp) (by go_simp) (HI.out.below ((Below.refl _ _).alloc (Nat.le_refl _) _))).mono ?_
    rintro e w' ⟨rfl, n, rfl⟩
    have K1 : Bx (BoxAt ((w.alloc (.cells #[.string s, v] 30)).drewN n) w.heap.size (.string s) v 30) := Bx.mk (BoxAt.draws (BoxAt.at _ _ _ _ _ rfl) n)
    have B1 : Bx (Below w.heap.size w ((w.alloc (.cells #[.string s, v] 30)).drewN n)) := Bx.mk (below_draws ((Below.refl _ _).alloc (Nat.le_refl _) _) n)
    generalize (w.alloc (.cells #[.string s, v] 30)).drewN n = w1 at *
    go_wp2_with (fail)
    go_loopw [5, 6, 7] (fun x y z wr => ∃ k : Nat, k ≤ 12 ∧ x = .int .i64 (worT l k).1 ∧ y = .int .i64 (worT l k).2 ∧ z = .int .i64 (k : Int) ∧ Bx (BoxAt wr w.heap.size (.string s) v 30) ∧ Bx (Below w.heap.size w wr)) (fun _ _ z _ => (12 - intOf z).toNat)
    case atStart => exact ⟨0, by omega, rfl, rfl, rfl, K1, B1⟩
    case round =>
      clear K1 B1 hk
      obtain ⟨k, hk, rfl, rfl, rfl, K1, B1⟩ := hrel
      obtain ⟨q1, q2⟩ := hbd.out k hk
      by_cases hlt : k < 12
      · have hce1 := hce.out ((k : Int) + 7) (by omega)
        have hce2 := hce.out (k : Int) (by omega)
        obtain ⟨r1, r2⟩ := hcd.out ((k : Int) + 7) (by omega)
        obtain ⟨r3, r4⟩ := hcd.out (k : Int) (by omega)
        have HD : Bx (fifT l k = centsT l (k + 7) - centsT l k - 70196) := Bx.mk rfl
        have HN : Bx (worT l (k + 1) = if k = 0 ∨ max (worT l k).2 (-(worT l k).2) < max (fifT l k) (-(fifT l k)) then ((k : Int), fifT l k) else worT l k) := Bx.mk (by rw [worT])
        generalize centsT l ((k : Int) + 7) = z1 at *
        generalize centsT l (k : Int) = z2 at *
        rw [HD.out] at HN
        have E0 : IntKind.i64.wrap ((k : Int) + 7) = (k : Int) + 7 := IntWalk.i64_in _ (by omega)
        have E1 : IntKind.i64.wrap (z1 - z2) = z1 - z2 := IntWalk.i64_in _ (by omega)
        have E2 : IntKind.i64.wrap (z1 - z2 - 70196) = z1 - z2 - 70196 := IntWalk.i64_in _ (by omega)
        have ha1 := fun W => spec_abs (z1 - z2 - 70196) W (by omega)
        have ha2 := fun W => spec_abs (worT l k).2 W (by omega)
        have x1 : decide ((k : Int) < 12) = true := decide_eq_true (by omega)
        have k10 := K1.out.c0
        have k11 := K1.out.c1
        generalize hA : max (z1 - z2 - 70196) (-(z1 - z2 - 70196)) = A at *
        generalize hB : max (worT l k).2 (-(worT l k).2) = B at *
        by_cases hk0 : k = 0
        · have HN2 := Bx.mk (HN.out.trans (if_pos (.inl hk0)))
          have y1 : ((k : Int) == 0) = true := by simp; omega
          have y2 : (k == 0) = true := by simp; omega
          clear HN hA hB hk0 hbd hcd hce HD ha1 ha2
          go_wp2_with (fail)
          refine (hce1 _ _ k10 k11 (HI.out.below B1.out)).mono ?_
          rintro e w2 ⟨rfl, hb2⟩
          have K2 : Bx (BoxAt w2 w.heap.size (.string s) v 30) := Bx.mk (K1.out.below hb2)
          have B2 : Bx (Below w.heap.size w w2) := Bx.mk (B1.out.trans (hb2.mono B1.out.size))
          clear hb2 K1 B1 k10 k11
          have k10 := K2.out.c0
          have k11 := K2.out.c1
          go_wp2_with (fail)
          refine (hce2 _ _ k10 k11 (HI.out.below B2.out)).mono ?_
          rintro e w3 ⟨rfl, hb3⟩
          have K3 : Bx (BoxAt w3 w.heap.size (.string s) v 30) := Bx.mk (K2.out.below hb3)
          have B3 : Bx (Below w.heap.size w w3) := Bx.mk (B2.out.trans (hb3.mono B2.out.size))
          clear hb3 K2 B2 k10 k11
          go_wp2_with (fail)
          go_roundw
          case rel => exact ⟨k + 1, by omega, by rw [HN2.out], by rw [HN2.out], by go_num, K3, B3⟩
          case measure => simp [intOf]; omega
        · have y1 : ((k : Int) == 0) = false := by simp; omega
          have y2 : (k == 0) = false := by simp; omega
          by_cases hab : B < A
          · have HN2 := Bx.mk (HN.out.trans (if_pos (.inr hab)))
            have y3 : decide (A > B) = true := decide_eq_true hab
            have y4 : decide (B < A) = true := decide_eq_true hab
            clear HN hA hB hk0 hab hbd hcd hce HD
            go_wp2_with (fail)
            refine (hce1 _ _ k10 k11 (HI.out.below B1.out)).mono ?_
            rintro e w2 ⟨rfl, hb2⟩
            have K2 : Bx (BoxAt w2 w.heap.size (.string s) v 30) := Bx.mk (K1.out.below hb2)
            have B2 : Bx (Below w.heap.size w w2) := Bx.mk (B1.out.trans (hb2.mono B1.out.size))
            clear hb2 K1 B1 k10 k11
            have k10 := K2.out.c0
            have k11 := K2.out.c1
            go_wp2_with (fail)
            refine (hce2 _ _ k10 k11 (HI.out.below B2.out)).mono ?_
            rintro e w3 ⟨rfl, hb3⟩
            have K3 : Bx (BoxAt w3 w.heap.size (.string s) v 30) := Bx.mk (K2.out.below hb3)
            have B3 : Bx (Below w.heap.size w w3) := Bx.mk (B2.out.trans (hb3.mono B2.out.size))
            clear hb3 K2 B2 k10 k11
            go_wp2_with (fail)
            refine (ha1 _).mono ?_
            rintro e w4 ⟨rfl, rfl⟩
            go_wp2_with (fail)
            refine (ha2 _).mono ?_
            rintro e w4 ⟨rfl, rfl⟩
            go_wp2_with (fail)
            go_roundw
            case rel => exact ⟨k + 1, by omega, by rw [HN2.out], by rw [HN2.out], by go_num, K3, B3⟩
            case measure => simp [intOf]; omega
          · have HN2 := Bx.mk (HN.out.trans (if_neg (by rintro (h | h); exact hk0 h; exact hab h)))
            have y3 : decide (A > B) = false := decide_eq_false hab
            have y4 : decide (B < A) = false := decide_eq_false hab
            clear HN hA hB hk0 hab hbd hcd hce HD
            go_wp2_with (fail)
            refine (hce1 _ _ k10 k11 (HI.out.below B1.out)).mono ?_
            rintro e w2 ⟨rfl, hb2⟩
            have K2 : Bx (BoxAt w2 w.heap.size (.string s) v 30) := Bx.mk (K1.out.below hb2)
            have B2 : Bx (Below w.heap.size w w2) := Bx.mk (B1.out.trans (hb2.mono B1.out.size))
            clear hb2 K1 B1 k10 k11
            have k10 := K2.out.c0
            have k11 := K2.out.c1
            go_wp2_with (fail)
            refine (hce2 _ _ k10 k11 (HI.out.below B2.out)).mono ?_
            rintro e w3 ⟨rfl, hb3⟩
            have K3 : Bx (BoxAt w3 w.heap.size (.string s) v 30) := Bx.mk (K2.out.below hb3)
            have B3 : Bx (Below w.heap.size w w3) := Bx.mk (B2.out.trans (hb3.mono B2.out.size))
            clear hb3 K2 B2 k10 k11
            go_wp2_with (fail)
            refine (ha1 _).mono ?_
            rintro e w4 ⟨rfl, rfl⟩
            go_wp2_with (fail)
            refine (ha2 _).mono ?_
            rintro e w4 ⟨rfl, rfl⟩
            go_wp2_with (fail)
            go_roundw
            case rel => exact ⟨k + 1, by omega, by rw [HN2.out], by rw [HN2.out], by go_num, K3, B3⟩
            case measure => simp [intOf]; omega
      · obtain rfl : k = 12 := by omega
        go_wp2_with (fail)
        go_returns
        rw [ThreeOut, HE.out]
        exact ⟨rfl, B1.out⟩
end Go.Proofs.YtbnhcacjlkmfeaaDoor
