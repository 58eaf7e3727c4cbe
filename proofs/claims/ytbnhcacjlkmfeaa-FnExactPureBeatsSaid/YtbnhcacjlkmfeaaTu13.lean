/- The model's BeatingOf. -/
import Derived.Test.YtbnhcacjlkmfeaaTu12
import Derived.Test.YtbnhcacjlkmfeaaTu10
namespace Go.Proofs.Ytbnhcacjlkmfeaa
open Go.ChangeShapes Go.WideShapes Go.ChangeAt Go.RowKit
set_option linter.unusedVariables false
set_option linter.unusedSimpArgs false
set_option maxRecDepth 100000

theorem spec_harm (x : Int) (w : World) : Calls Try.prog 48 #[.int .i64 x] w fun e w' => e = .returned (.bool (inB x 1 16)) ∧ w = w' := by
  have hin := fun W => in_any x 1 16 W
  generalize inB x 1 16 = b at hin ⊢
  go_enter Try.func48, Try.ntmps48
  go_wp2_with (fail)
  refine (hin _).mono ?_
  rintro e w' ⟨rfl, rfl⟩
  go_wp2_with (fail)
  go_ret
  exact ⟨rfl, rfl⟩
theorem freqT_bd {s : List UInt8} {l : List (Int × Int)} {base p : Int} (ht : tunB s l = true) (hb : 10000 ≤ base ∧ base ≤ 2000000) (hp : -12 ≤ p ∧ p ≤ 23) : -4000000000000 ≤ freqT l base p ∧ freqT l base p ≤ 4000000000000 := by
  obtain ⟨_, _, hok, _⟩ := tun_yes ht
  obtain ⟨⟨n1, n2⟩, ⟨d1, d2⟩, _⟩ := okR_yes (okTi_yes (hok (p % 12).toNat (by omega))).1
  unfold freqT
  generalize (pat l (p % 12).toNat).1 = n at *
  generalize (pat l (p % 12).toNat).2 = d at *
  have h1 : 1 ≤ base * n := by have := Int.mul_pos (show 0 < base by omega) (show 0 < n by omega); omega
  have h2 : base * n ≤ 2000000000000 := by have := Int.mul_le_mul hb.2 n2 (by omega) (by omega); omega
  apply dv_in
  · split <;> omega
  · split <;> omega
  · split <;> omega
/-- the beats of two pitches -/
def beatT (l : List (Int × Int)) (base a m b n : Int) : Int := max (m * freqT l base a - n * freqT l base b) (-(m * freqT l base a - n * freqT l base b))
/-- BeatingOf -/
def beE (s : List UInt8) (l : List (Int × Int)) (base a m b n : Int) : Int × Int := if tunB s l = true then (if (inB base 10000 2000000 && inB a (-12) 23 && inB b (-12) 23 && inB m 1 16 && inB n 1 16) = true then (beatT l base a m b n, 0) else (0, 2)) else (0, 1)
theorem small_mul {m x : Int} (hm : 1 ≤ m ∧ m ≤ 16) (hx : -4000000000000 ≤ x ∧ x ≤ 4000000000000) : -64000000000000 ≤ m * x ∧ m * x ≤ 64000000000000 := by
  obtain ⟨a, b⟩ := hm
  have h : m = 1 ∨ m = 2 ∨ m = 3 ∨ m = 4 ∨ m = 5 ∨ m = 6 ∨ m = 7 ∨ m = 8 ∨ m = 9 ∨ m = 10 ∨ m = 11 ∨ m = 12 ∨ m = 13 ∨ m = 14 ∨ m = 15 ∨ m = 16 := by omega
  rcases h with rfl | rfl | rfl | rfl | rfl | rfl | rfl | rfl | rfl | rfl | rfl | rfl | rfl | rfl | rfl | rfl <;> omega
set_option maxHeartbeats 2000000 in
theorem spec_beating (s : ByteArray) (v : Value) (l : List (Int × Int)) (base a m b n : Int) (w : World) (h : PrsAt w v l) (hs : s.size ≤ maxLen) (hm : l.length ≤ 281474976710656) :
    Calls Try.prog 26 #[tun s v, .int .i64 base, .int .i64 a, .int .i64 m, .int .i64 b, .int .i64 n] w (TwoOut (beE s.data.toList l base a m b n) w) := by
  have hk := fun g W a0 a1 hW => spec_tok g s v l W a0 a1 hW hs hm
  have HI := Bx.mk h
  have c0 := fun W => spec_base base W
  have c1 := fun W => spec_pitch a W
  have c2 := fun W => spec_pitch b W
  have c3 := fun W => spec_harm m W
  have c4 := fun W => spec_harm n W
  unfold tun
  cases ht : tunB s.data.toList l
  · have HE : Bx (beE s.data.toList l base a m b n = (0, 1)) := Bx.mk (by simp [beE, ht])
    rw [ht] at hk
    clear ht h hs hm c0 c1 c2 c3 c4
    go_enter Try.func26, Try.ntmps26
    go_wp2_with (fail)
    refine (hk _ _ (by go_simp) (by go_simp) (HI.out.below ((Below.refl _ _).alloc (Nat.le_refl _) _))).mono ?_
    rintro e w' ⟨rfl, k, rfl⟩
    go_wp2_with (fail)
    go_ret2
    rw [TwoOut, HE.out]
    exact ⟨rfl, below_draws ((Below.refl _ _).alloc (Nat.le_refl _) _) _⟩
  · have hfa := fun g W a0 a1 hW hb hp => spec_tfreq g s v l base a W a0 a1 hW ht hb hp
    have hfb := fun g W a0 a1 hW hb hp => spec_tfreq g s v l base b W a0 a1 hW ht hb hp
    have hba := fun hb hp => freqT_bd (l := l) (base := base) (p := a) ht hb hp
    have hbb := fun hb hp => freqT_bd (l := l) (base := base) (p := b) ht hb hp
    rw [ht] at hk
    cases t0 : inB base 10000 2000000
    · have HE : Bx (beE s.data.toList l base a m b n = (0, 2)) := Bx.mk (by unfold beE; rw [if_pos ht, if_neg]; simp [t0])
      rw [t0] at c0
      clear ht h hs hm hfa hfb hba hbb t0 c1 c2 c3 c4
      go_enter Try.func26, Try.ntmps26
      go_wp2_with (fail)
      refine (hk _ _ (by go_simp) (by go_simp) (HI.out.below ((Below.refl _ _).alloc (Nat.le_refl _) _))).mono ?_
      rintro e w' ⟨rfl, k, rfl⟩
      go_wp2_with (first | (go_at_call 42; (with_reducible refine (c0 _).mono ?_); rintro e w' ⟨rfl, rfl⟩))
      go_ret2
      rw [TwoOut, HE.out]
      exact ⟨rfl, below_draws ((Below.refl _ _).alloc (Nat.le_refl _) _) _⟩
    · rw [t0] at c0
      cases t1 : inB a (-12) 23
      · have HE : Bx (beE s.data.toList l base a m b n = (0, 2)) := Bx.mk (by unfold beE; rw [if_pos ht, if_neg]; simp [t0, t1])
        rw [t1] at c1
        clear ht h hs hm hfa hfb hba hbb t0 t1 c2 c3 c4
        go_enter Try.func26, Try.ntmps26
        go_wp2_with (fail)
        refine (hk _ _ (by go_simp) (by go_simp) (HI.out.below ((Below.refl _ _).alloc (Nat.le_refl _) _))).mono ?_
        rintro e w' ⟨rfl, k, rfl⟩
        go_wp2_with (first | (go_at_call 42; (with_reducible refine (c0 _).mono ?_); rintro e w' ⟨rfl, rfl⟩) | (go_at_call 43; (with_reducible refine (c1 _).mono ?_); rintro e w' ⟨rfl, rfl⟩))
        go_ret2
        rw [TwoOut, HE.out]
        exact ⟨rfl, below_draws ((Below.refl _ _).alloc (Nat.le_refl _) _) _⟩
      · rw [t1] at c1
        cases t2 : inB b (-12) 23
        · have HE : Bx (beE s.data.toList l base a m b n = (0, 2)) := Bx.mk (by unfold beE; rw [if_pos ht, if_neg]; simp [t0, t1, t2])
          rw [t2] at c2
          clear ht h hs hm hfa hfb hba hbb t0 t1 t2 c3 c4
          go_enter Try.func26, Try.ntmps26
          go_wp2_with (fail)
          refine (hk _ _ (by go_simp) (by go_simp) (HI.out.below ((Below.refl _ _).alloc (Nat.le_refl _) _))).mono ?_
          rintro e w' ⟨rfl, k, rfl⟩
          go_wp2_with (first | (go_at_call 42; (with_reducible refine (c0 _).mono ?_); rintro e w' ⟨rfl, rfl⟩) | (go_at_call 43; (with_reducible refine (c1 _).mono ?_); rintro e w' ⟨rfl, rfl⟩) | (go_at_call 43; (with_reducible refine (c2 _).mono ?_); rintro e w' ⟨rfl, rfl⟩))
          go_ret2
          rw [TwoOut, HE.out]
          exact ⟨rfl, below_draws ((Below.refl _ _).alloc (Nat.le_refl _) _) _⟩
        · rw [t2] at c2
          cases t3 : inB m 1 16
          · have HE : Bx (beE s.data.toList l base a m b n = (0, 2)) := Bx.mk (by unfold beE; rw [if_pos ht, if_neg]; simp [t0, t1, t2, t3])
            rw [t3] at c3
            clear ht h hs hm hfa hfb hba hbb t0 t1 t2 t3 c4
            go_enter Try.func26, Try.ntmps26
            go_wp2_with (fail)
            refine (hk _ _ (by go_simp) (by go_simp) (HI.out.below ((Below.refl _ _).alloc (Nat.le_refl _) _))).mono ?_
            rintro e w' ⟨rfl, k, rfl⟩
            go_wp2_with (first | (go_at_call 42; (with_reducible refine (c0 _).mono ?_); rintro e w' ⟨rfl, rfl⟩) | (go_at_call 43; (with_reducible refine (c1 _).mono ?_); rintro e w' ⟨rfl, rfl⟩) | (go_at_call 43; (with_reducible refine (c2 _).mono ?_); rintro e w' ⟨rfl, rfl⟩) | (go_at_call 48; (with_reducible refine (c3 _).mono ?_); rintro e w' ⟨rfl, rfl⟩))
            go_ret2
            rw [TwoOut, HE.out]
            exact ⟨rfl, below_draws ((Below.refl _ _).alloc (Nat.le_refl _) _) _⟩
          · rw [t3] at c3
            cases t4 : inB n 1 16
            · have HE : Bx (beE s.data.toList l base a m b n = (0, 2)) := Bx.mk (by unfold beE; rw [if_pos ht, if_neg]; simp [t0, t1, t2, t3, t4])
              rw [t4] at c4
              clear ht h hs hm hfa hfb hba hbb t0 t1 t2 t3 t4 
              go_enter Try.func26, Try.ntmps26
              go_wp2_with (fail)
              refine (hk _ _ (by go_simp) (by go_simp) (HI.out.below ((Below.refl _ _).alloc (Nat.le_refl _) _))).mono ?_
              rintro e w' ⟨rfl, k, rfl⟩
              go_wp2_with (first | (go_at_call 42; (with_reducible refine (c0 _).mono ?_); rintro e w' ⟨rfl, rfl⟩) | (go_at_call 43; (with_reducible refine (c1 _).mono ?_); rintro e w' ⟨rfl, rfl⟩) | (go_at_call 43; (with_reducible refine (c2 _).mono ?_); rintro e w' ⟨rfl, rfl⟩) | (go_at_call 48; (with_reducible refine (c3 _).mono ?_); rintro e w' ⟨rfl, rfl⟩) | (go_at_call 48; (with_reducible refine (c4 _).mono ?_); rintro e w' ⟨rfl, rfl⟩))
              go_ret2
              rw [TwoOut, HE.out]
              exact ⟨rfl, below_draws ((Below.refl _ _).alloc (Nat.le_refl _) _) _⟩
            · rw [t4] at c4
              have HE : Bx (beE s.data.toList l base a m b n = (beatT l base a m b n, 0)) := Bx.mk (by unfold beE; rw [if_pos ht, if_pos]; simp [t0, t1, t2, t3, t4])
              have HB : Bx (beatT l base a m b n = max (m * freqT l base a - n * freqT l base b) (-(m * freqT l base a - n * freqT l base b))) := Bx.mk rfl
              have hfa := fun g W a0 a1 hW => hfa g W a0 a1 hW (inB_yes t0) (inB_yes t1)
              have hfb := fun g W a0 a1 hW => hfb g W a0 a1 hW (inB_yes t0) (inB_yes t2)
              obtain ⟨p1, p2⟩ := small_mul (inB_yes t3) (hba (inB_yes t0) (inB_yes t1))
              obtain ⟨p3, p4⟩ := small_mul (inB_yes t4) (hbb (inB_yes t0) (inB_yes t2))
              clear hba hbb
              generalize freqT l base a = x at *
              generalize freqT l base b = y at *
              have E1 : IntKind.i64.wrap (m * x) = m * x := IntWalk.i64_in _ (by omega)
              have E2 : IntKind.i64.wrap (n * y) = n * y := IntWalk.i64_in _ (by omega)
              have E3 : IntKind.i64.wrap (m * x - n * y) = m * x - n * y := IntWalk.i64_in _ (by omega)
              have hab := fun W => spec_abs (m * x - n * y) W (by omega)
              clear ht h hs hm t0 t1 t2 t3 t4
              go_enter Try.func26, Try.ntmps26
              go_wp2_with (fail)
              refine (hk _ _ (by go_simp) (by go_simp) (HI.out.below ((Below.refl _ _).alloc (Nat.le_refl _) _))).mono ?_
              rintro e w' ⟨rfl, k, rfl⟩
              have K1 : Bx (BoxAt ((w.alloc (.cells #[.string s, v] 29)).drewN k) w.heap.size (.string s) v 29) := Bx.mk (BoxAt.draws (BoxAt.at _ _ _ _ _ rfl) k)
              have B1 : Bx (Below w.heap.size w ((w.alloc (.cells #[.string s, v] 29)).drewN k)) := Bx.mk (below_draws ((Below.refl _ _).alloc (Nat.le_refl _) _) k)
              generalize (w.alloc (.cells #[.string s, v] 29)).drewN k = w1 at *
              go_wp2_with (first | (go_at_call 42; (with_reducible refine (c0 _).mono ?_); rintro e w' ⟨rfl, rfl⟩) | (go_at_call 43; (with_reducible refine (c1 _).mono ?_); rintro e w' ⟨rfl, rfl⟩) | (go_at_call 43; (with_reducible refine (c2 _).mono ?_); rintro e w' ⟨rfl, rfl⟩) | (go_at_call 48; (with_reducible refine (c3 _).mono ?_); rintro e w' ⟨rfl, rfl⟩) | (go_at_call 48; (with_reducible refine (c4 _).mono ?_); rintro e w' ⟨rfl, rfl⟩))
              refine (hfa _ _ K1.out.c0 K1.out.c1 (HI.out.below B1.out)).mono ?_
              rintro e w2 ⟨rfl, hb2⟩
              have K2 : Bx (BoxAt w2 w.heap.size (.string s) v 29) := Bx.mk (K1.out.below hb2)
              have B2 : Bx (Below w.heap.size w w2) := Bx.mk (B1.out.trans (hb2.mono B1.out.size))
              clear hb2 K1 B1
              go_wp2_with (fail)
              refine (hfb _ _ K2.out.c0 K2.out.c1 (HI.out.below B2.out)).mono ?_
              rintro e w3 ⟨rfl, hb3⟩
              have B3 : Bx (Below w.heap.size w w3) := Bx.mk (B2.out.trans (hb3.mono B2.out.size))
              clear hb3 K2 B2
              go_wp2_with (fail)
              refine (hab _).mono ?_
              rintro e w4 ⟨rfl, rfl⟩
              go_wp2_with (fail)
              go_ret2
              rw [TwoOut, HE.out, HB.out]
              exact ⟨rfl, B3.out⟩
end Go.Proofs.Ytbnhcacjlkmfeaa
