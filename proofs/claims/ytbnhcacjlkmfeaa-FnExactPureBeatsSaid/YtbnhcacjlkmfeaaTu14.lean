/- The model's PureBeats. -/
import Derived.Test.YtbnhcacjlkmfeaaTu13
namespace Go.Proofs.Ytbnhcacjlkmfeaa
open Go.ChangeShapes Go.WideShapes Go.ChangeAt Go.RowKit
set_option linter.unusedVariables false
set_option linter.unusedSimpArgs false
set_option maxRecDepth 100000

/-- one step of the search for the purest harmonics -/
def pbS (x y : Int) (t : Int × Int × Int) (m n : Int) : Int × Int × Int := if max (m * x - n * y) (-(m * x - n * y)) < t.2.2 then (m, n, max (m * x - n * y) (-(m * x - n * y))) else t
def pbI (x y : Int) (t : Int × Int × Int) (m : Int) : Nat → Int × Int × Int
  | 0 => t
  | k + 1 => pbS x y (pbI x y t m k) m (1 + (k : Int))
def pbO (x y : Int) : Nat → Int × Int × Int
  | 0 => (1, 1, max (x - y) (-(x - y)))
  | k + 1 => pbI x y (pbO x y k) (1 + (k : Int)) 16
/-- PureBeats -/
def puE (s : List UInt8) (l : List (Int × Int)) (base a b : Int) : (Int × Int × Int) × Int := if tunB s l = true then (if (inB base 10000 2000000 && inB a (-12) 23 && inB b (-12) 23) = true then (pbO (freqT l base a) (freqT l base b) 16, 0) else ((0, 0, 0), 2)) else ((0, 0, 0), 1)
def FourOut (t : (Int × Int × Int) × Int) (w : World) (e : Ending) (w' : World) : Prop := e = .returned (.tuple #[.int .i64 t.1.1, .int .i64 t.1.2.1, .int .i64 t.1.2.2, .int .i64 t.2]) ∧ Below w.heap.size w w'
set_option maxHeartbeats 4000000 in
theorem spec_pure (s : ByteArray) (v : Value) (l : List (Int × Int)) (base a b : Int) (w : World) (h : PrsAt w v l) (hs : s.size ≤ maxLen) (hm : l.length ≤ 281474976710656) :
    Calls Try.prog 28 #[tun s v, .int .i64 base, .int .i64 a, .int .i64 b] w (FourOut (puE s.data.toList l base a b) w) := by
  have hk := fun g W a0 a1 hW => spec_tok g s v l W a0 a1 hW hs hm
  have HI := Bx.mk h
  have c0 := fun W => spec_base base W
  have c1 := fun W => spec_pitch a W
  have c2 := fun W => spec_pitch b W
  unfold tun
  cases ht : tunB s.data.toList l
  · have HE : Bx (puE s.data.toList l base a b = ((0, 0, 0), 1)) := Bx.mk (by simp [puE, ht])
    rw [ht] at hk
    clear ht h hs hm c0 c1 c2
    go_enter Try.func28, Try.ntmps28
    go_wp2_with (fail)
    refine (hk _ _ (by go_simp) (by go_simp) (HI.out.below ((Below.refl _ _).alloc (Nat.le_refl _) _))).mono ?_
    rintro e w' ⟨rfl, k, rfl⟩
    go_wp2_with (fail)
    go_returns
    rw [FourOut, HE.out]
    exact ⟨rfl, below_draws ((Below.refl _ _).alloc (Nat.le_refl _) _) _⟩
  · have hfa := fun g W a0 a1 hW hb hp => spec_tfreq g s v l base a W a0 a1 hW ht hb hp
    have hfb := fun g W a0 a1 hW hb hp => spec_tfreq g s v l base b W a0 a1 hW ht hb hp
    have hba := fun hb hp => freqT_bd (l := l) (base := base) (p := a) ht hb hp
    have hbb := fun hb hp => freqT_bd (l := l) (base := base) (p := b) ht hb hp
    rw [ht] at hk
    cases t0 : inB base 10000 2000000
    · have HE : Bx (puE s.data.toList l base a b = ((0, 0, 0), 2)) := Bx.mk (by unfold puE; rw [if_pos ht, if_neg]; simp [t0])
      rw [t0] at c0
      clear ht h hs hm hfa hfb hba hbb t0 c1 c2
      go_enter Try.func28, Try.ntmps28
      go_wp2_with (fail)
      refine (hk _ _ (by go_simp) (by go_simp) (HI.out.below ((Below.refl _ _).alloc (Nat.le_refl _) _))).mono ?_
      rintro e w' ⟨rfl, k, rfl⟩
      go_wp2_with (first | (go_at_call 42; (with_reducible refine (c0 _).mono ?_); rintro e w' ⟨rfl, rfl⟩))
      go_returns
      rw [FourOut, HE.out]
      exact ⟨rfl, below_draws ((Below.refl _ _).alloc (Nat.le_refl _) _) _⟩
    · rw [t0] at c0
      cases t1 : inB a (-12) 23
      · have HE : Bx (puE s.data.toList l base a b = ((0, 0, 0), 2)) := Bx.mk (by unfold puE; rw [if_pos ht, if_neg]; simp [t0, t1])
        rw [t1] at c1
        clear ht h hs hm hfa hfb hba hbb t0 t1 c2
        go_enter Try.func28, Try.ntmps28
        go_wp2_with (fail)
        refine (hk _ _ (by go_simp) (by go_simp) (HI.out.below ((Below.refl _ _).alloc (Nat.le_refl _) _))).mono ?_
        rintro e w' ⟨rfl, k, rfl⟩
        go_wp2_with (first | (go_at_call 42; (with_reducible refine (c0 _).mono ?_); rintro e w' ⟨rfl, rfl⟩) | (go_at_call 43; (with_reducible refine (c1 _).mono ?_); rintro e w' ⟨rfl, rfl⟩))
        go_returns
        rw [FourOut, HE.out]
        exact ⟨rfl, below_draws ((Below.refl _ _).alloc (Nat.le_refl _) _) _⟩
      · rw [t1] at c1
        cases t2 : inB b (-12) 23
        · have HE : Bx (puE s.data.toList l base a b = ((0, 0, 0), 2)) := Bx.mk (by unfold puE; rw [if_pos ht, if_neg]; simp [t0, t1, t2])
          rw [t2] at c2
          clear ht h hs hm hfa hfb hba hbb t0 t1 t2 
          go_enter Try.func28, Try.ntmps28
          go_wp2_with (fail)
          refine (hk _ _ (by go_simp) (by go_simp) (HI.out.below ((Below.refl _ _).alloc (Nat.le_refl _) _))).mono ?_
          rintro e w' ⟨rfl, k, rfl⟩
          go_wp2_with (first | (go_at_call 42; (with_reducible refine (c0 _).mono ?_); rintro e w' ⟨rfl, rfl⟩) | (go_at_call 43; (with_reducible refine (c1 _).mono ?_); rintro e w' ⟨rfl, rfl⟩) | (go_at_call 43; (with_reducible refine (c2 _).mono ?_); rintro e w' ⟨rfl, rfl⟩))
          go_returns
          rw [FourOut, HE.out]
          exact ⟨rfl, below_draws ((Below.refl _ _).alloc (Nat.le_refl _) _) _⟩
        · rw [t2] at c2
          have HE : Bx (puE s.data.toList l base a b = (pbO (freqT l base a) (freqT l base b) 16, 0)) := Bx.mk (by unfold puE; rw [if_pos ht, if_pos]; simp [t0, t1, t2])
          have hfa := fun g W a0 a1 hW => hfa g W a0 a1 hW (inB_yes t0) (inB_yes t1)
          have hfb := fun g W a0 a1 hW => hfb g W a0 a1 hW (inB_yes t0) (inB_yes t2)
          have hba := hba (inB_yes t0) (inB_yes t1)
          have hbb := hbb (inB_yes t0) (inB_yes t2)
          generalize freqT l base a = x at *
          generalize freqT l base b = y at *
          obtain ⟨p1, p2⟩ := hba
          obtain ⟨p3, p4⟩ := hbb
          have E1 : IntKind.i64.wrap (x - y) = x - y := IntWalk.i64_in _ (by omega)
          have hab := fun W => spec_abs (x - y) W (by omega)
          clear ht h hs hm t0 t1 t2
          go_enter Try.func28, Try.ntmps28
          go_wp2_with (fail)
          refine (hk _ _ (by go_simp) (by go_simp) (HI.out.below ((Below.refl _ _).alloc (Nat.le_refl _) _))).mono ?_
          rintro e w' ⟨rfl, k, rfl⟩
          have K1 : Bx (BoxAt ((w.alloc (.cells #[.string s, v] 29)).drewN k) w.heap.size (.string s) v 29) := Bx.mk (BoxAt.draws (BoxAt.at _ _ _ _ _ rfl) k)
          have B1 : Bx (Below w.heap.size w ((w.alloc (.cells #[.string s, v] 29)).drewN k)) := Bx.mk (below_draws ((Below.refl _ _).alloc (Nat.le_refl _) _) k)
          generalize (w.alloc (.cells #[.string s, v] 29)).drewN k = w1 at *
          go_wp2_with (first | (go_at_call 42; (with_reducible refine (c0 _).mono ?_); rintro e w' ⟨rfl, rfl⟩) | (go_at_call 43; (with_reducible refine (c1 _).mono ?_); rintro e w' ⟨rfl, rfl⟩) | (go_at_call 43; (with_reducible refine (c2 _).mono ?_); rintro e w' ⟨rfl, rfl⟩))
          refine (hfa _ _ K1.out.c0 K1.out.c1 (HI.out.below B1.out)).mono ?_
          rintro e w2 ⟨rfl, hb2⟩
          have K2 : Bx (BoxAt w2 w.heap.size (.string s) v 29) := Bx.mk (K1.out.below hb2)
          have B2 : Bx (Below w.heap.size w w2) := Bx.mk (B1.out.trans (hb2.mono B1.out.size))
          clear hb2 K1 B1
          go_wp2_with (fail)
          refine (hfb _ _ K2.out.c0 K2.out.c1 (HI.out.below B2.out)).mono ?_
          rintro e w3 ⟨rfl, hb3⟩
          have B3 : Bx (Below w.heap.size w w3) := Bx.mk (B2.out.trans (hb3.mono B2.out.size))
          clear hb3 K2 B2 hfa hfb hk
          go_wp2_with (fail)
          refine (hab _).mono ?_
          rintro e w4 ⟨rfl, rfl⟩
          go_wp2_with (fail)
          go_loopw [14, 15, 16, 17] (fun f g h i wr => ∃ k : Nat, k ≤ 16 ∧ f = .int .i64 (pbO x y k).1 ∧ g = .int .i64 (pbO x y k).2.1 ∧ h = .int .i64 (pbO x y k).2.2 ∧ i = .int .i64 (1 + (k : Int)) ∧ Bx (Below w.heap.size w wr)) (fun _ _ _ i _ => (17 - intOf i).toNat)
          case atStart => exact ⟨0, by omega, rfl, rfl, rfl, rfl, B3⟩
          case round =>
            clear B3
            obtain ⟨k, hk, rfl, rfl, rfl, rfl, B3⟩ := hrel
            by_cases hlt : k < 16
            · have x1 : decide (1 + (k : Int) ≤ 16) = true := decide_eq_true (by omega)
              have HO : Bx (pbO x y (k + 1) = pbI x y (pbO x y k) (1 + (k : Int)) 16) := Bx.mk (by rw [pbO])
              have HO0 : Bx (pbI x y (pbO x y k) (1 + (k : Int)) 0 = pbO x y k) := Bx.mk rfl
              generalize pbO x y k = t at *
              obtain ⟨m1, m2⟩ := small_mul (m := 1 + (k : Int)) (by omega) (And.intro p1 p2)
              go_wp2_with (fail)
              go_loopw [14, 15, 16, 18] (fun f g h i wr => ∃ j : Nat, j ≤ 16 ∧ f = .int .i64 (pbI x y t (1 + (k : Int)) j).1 ∧ g = .int .i64 (pbI x y t (1 + (k : Int)) j).2.1 ∧ h = .int .i64 (pbI x y t (1 + (k : Int)) j).2.2 ∧ i = .int .i64 (1 + (j : Int)) ∧ Bx (Below w.heap.size w wr)) (fun _ _ _ i _ => (17 - intOf i).toNat)
              case atStart => exact ⟨0, by omega, rfl, rfl, rfl, rfl, B3⟩
              case round =>
                clear B3
                obtain ⟨j, hj, rfl, rfl, rfl, rfl, B3⟩ := hrel
                by_cases hlt2 : j < 16
                · have x2 : decide (1 + (j : Int) ≤ 16) = true := decide_eq_true (by omega)
                  obtain ⟨m3, m4⟩ := small_mul (m := 1 + (j : Int)) (by omega) (And.intro p3 p4)
                  have HS : Bx (pbI x y t (1 + (k : Int)) (j + 1) = if max ((1 + (k : Int)) * x - (1 + (j : Int)) * y) (-((1 + (k : Int)) * x - (1 + (j : Int)) * y)) < (pbI x y t (1 + (k : Int)) j).2.2 then (1 + (k : Int), 1 + (j : Int), max ((1 + (k : Int)) * x - (1 + (j : Int)) * y) (-((1 + (k : Int)) * x - (1 + (j : Int)) * y))) else pbI x y t (1 + (k : Int)) j) := Bx.mk (by rw [pbI, pbS])
                  have F1 : IntKind.i64.wrap ((1 + (k : Int)) * x) = (1 + (k : Int)) * x := IntWalk.i64_in _ (by omega)
                  have F2 : IntKind.i64.wrap ((1 + (j : Int)) * y) = (1 + (j : Int)) * y := IntWalk.i64_in _ (by omega)
                  have F3 : IntKind.i64.wrap ((1 + (k : Int)) * x - (1 + (j : Int)) * y) = (1 + (k : Int)) * x - (1 + (j : Int)) * y := IntWalk.i64_in _ (by omega)
                  have hab2 := fun W => spec_abs ((1 + (k : Int)) * x - (1 + (j : Int)) * y) W (by omega)
                  generalize max ((1 + (k : Int)) * x - (1 + (j : Int)) * y) (-((1 + (k : Int)) * x - (1 + (j : Int)) * y)) = A at *
                  by_cases hA : A < (pbI x y t (1 + (k : Int)) j).2.2
                  · have HS2 := Bx.mk (HS.out.trans (if_pos hA))
                    have y1 : decide (A < (pbI x y t (1 + (k : Int)) j).2.2) = true := decide_eq_true hA
                    clear HS hA
                    go_wp2_with (fail)
                    refine (hab2 _).mono ?_
                    rintro e w5 ⟨rfl, rfl⟩
                    go_wp2_with (fail)
                    go_roundw
                    case rel => exact ⟨j + 1, by omega, by rw [HS2.out], by rw [HS2.out], by rw [HS2.out], by go_num, B3⟩
                    case measure => simp [intOf]; omega
                  · have HS2 := Bx.mk (HS.out.trans (if_neg hA))
                    have y1 : decide (A < (pbI x y t (1 + (k : Int)) j).2.2) = false := decide_eq_false hA
                    clear HS hA
                    go_wp2_with (fail)
                    refine (hab2 _).mono ?_
                    rintro e w5 ⟨rfl, rfl⟩
                    go_wp2_with (fail)
                    go_roundw
                    case rel => exact ⟨j + 1, by omega, by rw [HS2.out], by rw [HS2.out], by rw [HS2.out], by go_num, B3⟩
                    case measure => simp [intOf]; omega
                · obtain rfl : j = 16 := by omega
                  have x2 : decide (1 + ((16 : Nat) : Int) ≤ 16) = false := decide_eq_false (by omega)
                  go_wp2_with (fail)
                  go_roundw
                  case rel => exact ⟨k + 1, by omega, by rw [HO.out], by rw [HO.out], by rw [HO.out], by go_num, B3⟩
                  case measure => simp [intOf]; omega
            · obtain rfl : k = 16 := by omega
              have x1 : decide (1 + ((16 : Nat) : Int) ≤ 16) = false := decide_eq_false (by omega)
              go_wp2_with (fail)
              go_returns
              rw [FourOut, HE.out]
              exact ⟨rfl, B3.out⟩
end Go.Proofs.Ytbnhcacjlkmfeaa
