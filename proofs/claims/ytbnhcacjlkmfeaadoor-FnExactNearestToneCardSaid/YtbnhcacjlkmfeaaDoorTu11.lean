/- The model's NearestTone. -/
import Derived.Test.YtbnhcacjlkmfeaaDoorTu8
namespace Go.Proofs.YtbnhcacjlkmfeaaDoor
open Go.ChangeShapes Go.WideShapes Go.ChangeAt Go.RowKit
set_option linter.unusedVariables false
set_option linter.unusedSimpArgs false
set_option maxRecDepth 100000

theorem spec_abs (x : Int) (w : World) (hx : -1000000000000000 ≤ x ∧ x ≤ 1000000000000000) : Calls Tryd.prog 39 #[.int .i64 x] w fun e w' => e = .returned (.int .i64 (max x (-x))) ∧ w = w' := by
  have hm := fun W => spec_max x (-x) W
  obtain ⟨x1, x2⟩ := hx
  have E : IntKind.i64.wrap (-x) = -x := IntWalk.i64_in _ (by omega)
  generalize max x (-x) = z at *
  go_enter Tryd.func39, Tryd.ntmps39
  go_wp2_with (fail)
  refine (hm _).mono ?_
  rintro e w' ⟨rfl, rfl⟩
  go_wp2_with (fail)
  go_ret
  exact ⟨rfl, rfl⟩
theorem centsT_bd {s : List UInt8} {l : List (Int × Int)} {p : Int} (ht : tunB s l = true) (hp : -12 ≤ p ∧ p ≤ 23) : -500000000000 ≤ centsT l p ∧ centsT l p ≤ 500000000000 := by
  obtain ⟨_, _, hok, _⟩ := tun_yes ht
  obtain ⟨⟨n1, n2⟩, ⟨d1, d2⟩, _⟩ := okR_yes (okTi_yes (hok (p % 12).toNat (by omega))).1
  obtain ⟨z1, z2⟩ := cents_bd ⟨n1, n2⟩ ⟨d1, d2⟩
  unfold centsT
  omega
/-- the nearest of the first pitches, and how far it is off -/
noncomputable def nearT (l : List (Int × Int)) (c : Int) : Nat → Int × Int
  | 0 => (-12, c - centsT l (-12))
  | k + 1 => if max (c - centsT l (-11 + (k : Int))) (-(c - centsT l (-11 + (k : Int)))) < max (nearT l c k).2 (-(nearT l c k).2) then (-11 + (k : Int), c - centsT l (-11 + (k : Int))) else nearT l c k
theorem nearT_bd {s : List UInt8} {l : List (Int × Int)} (ht : tunB s l = true) {c : Int} (hc : -120000 ≤ c ∧ c ≤ 240000) (k : Nat) (hk : k ≤ 35) : (-12 ≤ (nearT l c k).1 ∧ (nearT l c k).1 ≤ 23) ∧ (-600000000000 ≤ (nearT l c k).2 ∧ (nearT l c k).2 ≤ 600000000000) := by
  induction k with
  | zero =>
    have := centsT_bd ht (p := -12) (by omega)
    simp only [nearT]
    omega
  | succ k ih =>
    have h1 := ih (by omega)
    have := centsT_bd ht (p := -11 + (k : Int)) (by omega)
    rw [nearT]
    split
    · simp only []; omega
    · exact h1
/-- NearestTone -/
noncomputable def neE (s : List UInt8) (l : List (Int × Int)) (c : Int) : Int × Int × Int := if tunB s l = true then (if inB c (-120000) 240000 = true then ((nearT l c 35).1, (nearT l c 35).2, 0) else (0, 0, 2)) else (0, 0, 1)
def ThreeOut (t : Int × Int × Int) (w : World) (e : Ending) (w' : World) : Prop := e = .returned (.tuple #[.int .i64 t.1, .int .i64 t.2.1, .int .i64 t.2.2]) ∧ Below w.heap.size w w'
set_option maxHeartbeats 2000000 in
theorem spec_nearest (s : ByteArray) (v : Value) (l : List (Int × Int)) (c : Int) (w : World) (h : PrsAt w v l) (hs : s.size ≤ maxLen) (hm : l.length ≤ 281474976710656) :
    Calls Tryd.prog 14 #[tun s v, .int .i64 c] w (ThreeOut (neE s.data.toList l c) w) := by
  have hk := fun g W a0 a1 hW => spec_tok g s v l W a0 a1 hW hs hm
  have HI := Bx.mk h
  have hin := fun W => in_any c (-120000) 240000 W
  unfold tun
  cases ht : tunB s.data.toList l
  · have HE : Bx (neE s.data.toList l c = (0, 0, 1)) := Bx.mk (by simp [neE, ht])
    rw [ht] at hk
    clear ht h hs hm
    go_enter Tryd.func14, Tryd.ntmps14
    go_wp2_with (fail)
    refine (hk _ _ (by go_simp) (by go_simp) (HI.out.below ((Below.refl _ _).alloc (Nat.le_refl _) _))).mono ?_
    rintro e w' ⟨rfl, k, rfl⟩
    go_wp2_with (fail)
    go_returns
    rw [ThreeOut, HE.out]
    exact ⟨rfl, below_draws ((Below.refl _ _).alloc (Nat.le_refl _) _) _⟩
  · cases hc : inB c (-120000) 240000
    · have HE : Bx (neE s.data.toList l c = (0, 0, 2)) := Bx.mk (by simp [neE, ht, hc])
      rw [ht] at hk
      rw [hc] at hin
      clear ht h hs hm hc
      go_enter Tryd.func14, Tryd.ntmps14
      go_wp2_with (fail)
      refine (hk _ _ (by go_simp) (by go_simp) (HI.out.below ((Below.refl _ _).alloc (Nat.le_refl _) _))).mono ?_
      rintro e w' ⟨rfl, k, rfl⟩
      go_wp2_with (fail)
      refine (hin _).mono ?_
      rintro e w' ⟨rfl, rfl⟩
      go_wp2_with (fail)
      go_returns
      rw [ThreeOut, HE.out]
      exact ⟨rfl, below_draws ((Below.refl _ _).alloc (Nat.le_refl _) _) _⟩
    · have HE : Bx (neE s.data.toList l c = ((nearT l c 35).1, (nearT l c 35).2, 0)) := Bx.mk (by simp [neE, ht, hc])
      have hcb := inB_yes hc
      have hce := fun p hp g W a0 a1 hW => spec_tcents g s v l p W a0 a1 hW ht hp
      have hbd := Bx.mk (fun k hk => nearT_bd (k := k) ht hcb hk)
      have hcd := Bx.mk (fun p hp => centsT_bd (p := p) ht hp)
      rw [ht] at hk
      rw [hc] at hin
      clear ht h hs hm hc
      obtain ⟨cb1, cb2⟩ := hcb
      have hce0 := hce (-12) (by omega)
      have hcd0 := hcd.out (-12) (by omega)
      have E0 : IntKind.i64.wrap (c - centsT l (-12)) = c - centsT l (-12) := IntWalk.i64_in _ (by omega)
      go_enter Tryd.func14, Tryd.ntmps14
      go_wp2_with (fail)
      refine (hk _ _ (by go_simp) (by go_simp) (HI.out.below ((Below.refl _ _).alloc (Nat.le_refl _) _))).mono ?_
      rintro e w' ⟨rfl, k, rfl⟩
      go_wp2_with (fail)
      refine (hin _).mono ?_
      rintro e w' ⟨rfl, rfl⟩
      go_wp2_with (fail)
      refine (hce0 _ _ (by go_simp) (by go_simp) ((HI.out.below ((Below.refl _ _).alloc (Nat.le_refl _) _)).draws k)).mono ?_
      rintro e w1 ⟨rfl, hb1⟩
      have K1 : Bx (BoxAt w1 w.heap.size (.string s) v 30) := Bx.mk (BoxAt.below (BoxAt.draws (BoxAt.at _ _ _ _ _ rfl) k) hb1)
      have B1 : Bx (Below w.heap.size w w1) := Bx.mk ((below_draws ((Below.refl _ _).alloc (Nat.le_refl _) _) k).trans (hb1.mono (by go_size)))
      clear hb1
      go_wp2_with (fail)
      go_loopw [7, 8, 9] (fun x y z wr => ∃ k : Nat, k ≤ 35 ∧ x = .int .i64 (nearT l c k).1 ∧ y = .int .i64 (nearT l c k).2 ∧ z = .int .i64 (-11 + (k : Int)) ∧ Bx (BoxAt wr w.heap.size (.string s) v 30) ∧ Bx (Below w.heap.size w wr)) (fun _ _ z _ => (24 - intOf z).toNat)
      case atStart => exact ⟨0, by omega, rfl, rfl, rfl, K1, B1⟩
      case round =>
        clear K1 B1 hce0 hcd0 E0 hk hin
        obtain ⟨k, hk, rfl, rfl, rfl, K1, B1⟩ := hrel
        obtain ⟨q1, q2⟩ := hbd.out k hk
        by_cases hlt : k < 35
        · have hce1 := hce (-11 + (k : Int)) (by omega)
          obtain ⟨r1, r2⟩ := hcd.out (-11 + (k : Int)) (by omega)
          have HN : Bx (nearT l c (k + 1) = if max (c - centsT l (-11 + (k : Int))) (-(c - centsT l (-11 + (k : Int)))) < max (nearT l c k).2 (-(nearT l c k).2) then (-11 + (k : Int), c - centsT l (-11 + (k : Int))) else nearT l c k) := Bx.mk (by rw [nearT])
          have E1 : IntKind.i64.wrap (c - centsT l (-11 + (k : Int))) = c - centsT l (-11 + (k : Int)) := IntWalk.i64_in _ (by omega)
          have ha1 := fun W => spec_abs (c - centsT l (-11 + (k : Int))) W (by omega)
          have ha2 := fun W => spec_abs (nearT l c k).2 W (by omega)
          have x1 : decide (-11 + (k : Int) ≤ 23) = true := decide_eq_true (by omega)
          have k10 := K1.out.c0
          have k11 := K1.out.c1
          generalize hA : max (c - centsT l (-11 + (k : Int))) (-(c - centsT l (-11 + (k : Int)))) = A at *
          generalize hB : max (nearT l c k).2 (-(nearT l c k).2) = B at *
          generalize centsT l (-11 + (k : Int)) = z at *
          by_cases hab : A < B
          · have HN2 := Bx.mk (HN.out.trans (if_pos hab))
            have y1 : decide (A < B) = true := decide_eq_true hab
            clear HN hA hB hab hbd hcd hce
            go_wp2_with (fail)
            refine (hce1 _ _ k10 k11 (HI.out.below B1.out)).mono ?_
            rintro e w2 ⟨rfl, hb2⟩
            have K2 : Bx (BoxAt w2 w.heap.size (.string s) v 30) := Bx.mk (K1.out.below hb2)
            have B2 : Bx (Below w.heap.size w w2) := Bx.mk (B1.out.trans (hb2.mono B1.out.size))
            clear hb2 K1 B1 k10 k11
            go_wp2_with (fail)
            refine (ha1 _).mono ?_
            rintro e w3 ⟨rfl, rfl⟩
            go_wp2_with (fail)
            refine (ha2 _).mono ?_
            rintro e w3 ⟨rfl, rfl⟩
            go_wp2_with (fail)
            go_roundw
            case rel => exact ⟨k + 1, by omega, by rw [HN2.out], by rw [HN2.out], by go_num, K2, B2⟩
            case measure => simp [intOf]; omega
          · have HN2 := Bx.mk (HN.out.trans (if_neg hab))
            have y1 : decide (A < B) = false := decide_eq_false hab
            clear HN hA hB hab hbd hcd hce
            go_wp2_with (fail)
            refine (hce1 _ _ k10 k11 (HI.out.below B1.out)).mono ?_
            rintro e w2 ⟨rfl, hb2⟩
            have K2 : Bx (BoxAt w2 w.heap.size (.string s) v 30) := Bx.mk (K1.out.below hb2)
            have B2 : Bx (Below w.heap.size w w2) := Bx.mk (B1.out.trans (hb2.mono B1.out.size))
            clear hb2 K1 B1 k10 k11
            go_wp2_with (fail)
            refine (ha1 _).mono ?_
            rintro e w3 ⟨rfl, rfl⟩
            go_wp2_with (fail)
            refine (ha2 _).mono ?_
            rintro e w3 ⟨rfl, rfl⟩
            go_wp2_with (fail)
            go_roundw
            case rel => exact ⟨k + 1, by omega, by rw [HN2.out], by rw [HN2.out], by go_num, K2, B2⟩
            case measure => simp [intOf]; omega
        · obtain rfl : k = 35 := by omega
          have x1 : decide (-11 + ((35 : Nat) : Int) ≤ 23) = false := decide_eq_false (by omega)
          go_wp2_with (fail)
          go_returns
          rw [ThreeOut, HE.out]
          exact ⟨rfl, B1.out⟩
end Go.Proofs.YtbnhcacjlkmfeaaDoor
