/- The program's frequency of a pitch, FrequencyOf. -/
import Derived.Test.YtbnhcacjlkmfeaaTi1
import Derived.Test.YtbnhcacjlkmfeaaTu10
namespace Go.Proofs.Ytbnhcacjlkmfeaa
open Go.ChangeShapes Go.WideShapes Go.ChangeAt Go.RowKit
set_option linter.unusedVariables false
set_option linter.unusedSimpArgs false
set_option maxRecDepth 100000

theorem keepB {h : Nat} {w W W' : World} {n d : Value} (hh : W.cell? ⟨h, 0, none⟩ = some n ∧ W.cell? ⟨h, 1, none⟩ = some d ∧ h < W.heap.size ∧ Below w.heap.size w W) (hb : Below W.heap.size W W') :
    W'.cell? ⟨h, 0, none⟩ = some n ∧ W'.cell? ⟨h, 1, none⟩ = some d ∧ h < W'.heap.size ∧ Below w.heap.size w W' := by
  obtain ⟨h3, h4, h5, h6⟩ := hh
  have hs := hb.size
  exact ⟨(hb.cell (p := ⟨h, 0, none⟩) (by show h < _; omega)).trans h3, (hb.cell (p := ⟨h, 1, none⟩) (by show h < _; omega)).trans h4, by omega, h6.trans (hb.mono h6.size)⟩
theorem bel4 {q W : World} {a b c : Prop} (h : a ∧ b ∧ c ∧ Below q.heap.size q W) : Below q.heap.size q W := h.2.2.2
theorem impl_isbase (x : Int) (w : World) : Calls Try.prog 45 #[.int .i64 x] w fun e w' => e = .returned (.bool (inB x 10000 2000000)) ∧ w = w' := by
  have HI : Bx (inB x 10000 2000000 = (decide (10000 ≤ x) && decide (x ≤ 2000000))) := Bx.mk (by simp [inB])
  generalize inB x 10000 2000000 = t at *
  by_cases h1 : 10000 ≤ x
  · have d1 : decide (10000 ≤ x) = true := decide_eq_true h1
    by_cases h2 : x ≤ 2000000
    · have d2 : decide (x ≤ 2000000) = true := decide_eq_true h2
      have HE : Bx (t = true) := Bx.mk (by rw [HI.out, d1, d2]; rfl)
      clear HI
      go_enter Try.func45, Try.ntmps45
      go_wp2
      go_ret
      exact ⟨ret_bool HE.out.symm, rfl⟩
    · have d2 : decide (x ≤ 2000000) = false := decide_eq_false h2
      have HE : Bx (t = false) := Bx.mk (by rw [HI.out, d1, d2]; rfl)
      clear HI
      go_enter Try.func45, Try.ntmps45
      go_wp2
      go_ret
      exact ⟨ret_bool HE.out.symm, rfl⟩
  · have d1 : decide (10000 ≤ x) = false := decide_eq_false h1
    have HE : Bx (t = false) := Bx.mk (by rw [HI.out, d1]; rfl)
    clear HI
    go_enter Try.func45, Try.ntmps45
    go_wp2
    go_ret
    exact ⟨ret_bool HE.out.symm, rfl⟩
set_option maxHeartbeats 4000000 in
theorem impl_tfreq (s : ByteArray) (v : Value) (l : List (Int × Int)) (base p : Int) (w : World) (h : PrsAt w v l) (ht : tunB s.data.toList l = true) (hb : 10000 ≤ base ∧ base ≤ 2000000) (hp : -12 ≤ p ∧ p ≤ 23) :
    Calls Try.prog 47 #[tun s v, .int .i64 base, .int .i64 p] w fun e w' => e = .returned (.int .i64 (freqT l base p)) ∧ Below w.heap.size w w' := by
  obtain ⟨_, hl, hok, _⟩ := tun_yes ht
  have hfl := fun W => impl_octave p W hp
  have hro := fun W hW => impl_ratioof s v l p W hW hl
  have HE : Bx (freqT l base p = dv (base * (pat l (p % 12).toNat).1 * (if 12 ≤ p then 2 else 1)) ((pat l (p % 12).toNat).2 * (if p < 0 then 2 else 1))) := Bx.mk rfl
  have hf : (p / 12 = -1 ∧ p < 0) ∨ (p / 12 = 0 ∧ 0 ≤ p ∧ p < 12) ∨ (p / 12 = 1 ∧ 12 ≤ p) := by omega
  obtain ⟨⟨n1, n2⟩, ⟨d1, d2⟩, _⟩ := okR_yes (okTi_yes (hok (p % 12).toNat (by omega))).1
  generalize (pat l (p % 12).toNat).1 = n at *
  generalize (pat l (p % 12).toNat).2 = d at *
  have hbn1 : 1 ≤ base * n := by have := Int.mul_pos (show 0 < base by omega) (show 0 < n by omega); omega
  have hbn2 : base * n ≤ 2000000000000 := by have := Int.mul_le_mul hb.2 n2 (by omega) (by omega); omega
  have E1 : IntKind.i64.wrap (base * n) = base * n := IntWalk.i64_in _ (by omega)
  have HI := Bx.mk h
  obtain ⟨A, c, rfl⟩ := prs_len h
  rw [HE.out]
  simp only [tun, rat] at *
  clear ht hok h HE hl
  rcases hf with ⟨hf, hp⟩ | ⟨hf, hp, hp2⟩ | ⟨hf, hp⟩
  · rw [if_neg (show ¬ 12 ≤ p by omega), if_pos hp, Int.mul_one]
    rw [hf] at hfl
    have hdv := fun W => nearest (base * n) (d * 2) W (by omega) (by omega) (by omega) (by omega) (by omega)
    have E2 : IntKind.i64.wrap (d * 2) = d * 2 := IntWalk.i64_in _ (by omega)
    go_enter Try.func47, Try.ntmps47
    go_wp2_with (fail)
    refine (hro _ (HI.out.below ((Below.refl _ _).alloc (Nat.le_refl _) _))).mono ?_
    rintro e w1 ⟨rfl, hb1⟩
    have B1 : Bx (Below w.heap.size w w1) := Bx.mk (((Below.refl _ _).alloc (Nat.le_refl _) _).trans (hb1.mono (by go_size)))
    clear hb1
    go_wp2_with (fail)
    refine (hfl _).mono ?_
    rintro e w2 ⟨rfl, rfl⟩
    go_wp2_with (fail)
    clear hro HI
    go_quiet ((go_at_call 64; exact quiet_t (hdv _)))
    go_wp2_with (fail)
    go_ret
    exact ⟨rfl, below_draws (B1.out.alloc B1.out.size _) _⟩
  · rw [if_neg (show ¬ 12 ≤ p by omega), if_neg (show ¬ p < 0 by omega), Int.mul_one, Int.mul_one]
    rw [hf] at hfl
    have hdv := fun W => nearest (base * n) (d) W (by omega) (by omega) (by omega) (by omega) (by omega)
    have E2 : IntKind.i64.wrap d = d := IntWalk.i64_in _ (by omega)
    go_enter Try.func47, Try.ntmps47
    go_wp2_with (fail)
    refine (hro _ (HI.out.below ((Below.refl _ _).alloc (Nat.le_refl _) _))).mono ?_
    rintro e w1 ⟨rfl, hb1⟩
    have B1 : Bx (Below w.heap.size w w1) := Bx.mk (((Below.refl _ _).alloc (Nat.le_refl _) _).trans (hb1.mono (by go_size)))
    clear hb1
    go_wp2_with (fail)
    refine (hfl _).mono ?_
    rintro e w2 ⟨rfl, rfl⟩
    go_wp2_with (fail)
    clear hro HI
    go_quiet ((go_at_call 64; exact quiet_t (hdv _)))
    go_wp2_with (fail)
    go_ret
    exact ⟨rfl, below_draws (B1.out.alloc B1.out.size _) _⟩
  · rw [if_pos hp, if_neg (show ¬ p < 0 by omega), Int.mul_one]
    rw [hf] at hfl
    have hdv := fun W => nearest (base * n * 2) (d) W (by omega) (by omega) (by omega) (by omega) (by omega)
    have E2 : IntKind.i64.wrap d = d := IntWalk.i64_in _ (by omega)
    have E3 : IntKind.i64.wrap (base * n * 2) = base * n * 2 := IntWalk.i64_in _ (by omega)
    go_enter Try.func47, Try.ntmps47
    go_wp2_with (fail)
    refine (hro _ (HI.out.below ((Below.refl _ _).alloc (Nat.le_refl _) _))).mono ?_
    rintro e w1 ⟨rfl, hb1⟩
    have B1 : Bx (Below w.heap.size w w1) := Bx.mk (((Below.refl _ _).alloc (Nat.le_refl _) _).trans (hb1.mono (by go_size)))
    clear hb1
    go_wp2_with (fail)
    refine (hfl _).mono ?_
    rintro e w2 ⟨rfl, rfl⟩
    go_wp2_with (fail)
    clear hro HI
    go_quiet ((go_at_call 64; exact quiet_t (hdv _)))
    go_wp2_with (fail)
    go_ret
    exact ⟨rfl, below_draws (B1.out.alloc B1.out.size _) _⟩
set_option maxHeartbeats 2000000 in
theorem impl_freqof (s : ByteArray) (v : Value) (l : List (Int × Int)) (base p : Int) (w : World) (h : PrsAt w v l) (hs : s.size ≤ maxLen) (hm : l.length ≤ 281474976710656) :
    Calls Try.prog 25 #[tun s v, .int .i64 base, .int .i64 p] w (TwoOut (foE s.data.toList l base p) w) := by
  have hk := fun W hW => impl_validtuning s v l W hW hs hm
  have hpi := fun W => impl_ispitch p W
  have hba := fun W => impl_isbase base W
  have HI := Bx.mk h
  obtain ⟨A, c, rfl⟩ := prs_len h
  simp only [tun] at *
  cases ht : tunB s.data.toList l
  · have HE : Bx (foE s.data.toList l base p = (0, 1)) := Bx.mk (by simp [foE, ht])
    rw [ht] at hk
    clear ht h hs hm
    go_enter Try.func25, Try.ntmps25
    go_wp2_with (fail)
    refine (hk _ (HI.out.below ((Below.refl _ _).alloc (Nat.le_refl _) _))).mono ?_
    rintro e w1 ⟨rfl, hb1⟩
    have B1 : Bx (Below w.heap.size w w1) := Bx.mk (((Below.refl _ _).alloc (Nat.le_refl _) _).trans (hb1.mono (by go_size)))
    clear hb1
    go_wp2_with (fail)
    go_ret2
    rw [TwoOut, HE.out]
    exact ⟨rfl, B1.out⟩
  · have hce := fun W hW hb hp => impl_tfreq s (.slice A l.length c) l base p W hW ht hb hp
    simp only [tun] at hce
    cases hbb : inB base 10000 2000000
    · have HE : Bx (foE s.data.toList l base p = (0, 2)) := Bx.mk (by simp [foE, ht, hbb])
      rw [ht] at hk
      rw [hbb] at hba
      clear ht h hs hm hce
      go_enter Try.func25, Try.ntmps25
      go_wp2_with (fail)
      refine (hk _ (HI.out.below ((Below.refl _ _).alloc (Nat.le_refl _) _))).mono ?_
      rintro e w1 ⟨rfl, hb1⟩
      have B1 : Bx (Below w.heap.size w w1) := Bx.mk (((Below.refl _ _).alloc (Nat.le_refl _) _).trans (hb1.mono (by go_size)))
      clear hb1
      go_wp2_with ((go_at_call 45; refine (hba _).mono ?_; rintro e w' ⟨rfl, rfl⟩))
      go_ret2
      rw [TwoOut, HE.out]
      exact ⟨rfl, B1.out⟩
    · cases hp : inB p (-12) 23
      · have HE : Bx (foE s.data.toList l base p = (0, 2)) := Bx.mk (by simp [foE, ht, hbb, hp])
        rw [ht] at hk
        rw [hbb] at hba
        rw [hp] at hpi
        clear ht h hs hm hce hp hbb
        go_enter Try.func25, Try.ntmps25
        go_wp2_with (fail)
        refine (hk _ (HI.out.below ((Below.refl _ _).alloc (Nat.le_refl _) _))).mono ?_
        rintro e w1 ⟨rfl, hb1⟩
        have B1 : Bx (Below w.heap.size w w1) := Bx.mk (((Below.refl _ _).alloc (Nat.le_refl _) _).trans (hb1.mono (by go_size)))
        clear hb1
        go_wp2_with (first | (go_at_call 45; refine (hba _).mono ?_; rintro e w' ⟨rfl, rfl⟩) | (go_at_call 46; refine (hpi _).mono ?_; rintro e w' ⟨rfl, rfl⟩))
        go_ret2
        rw [TwoOut, HE.out]
        exact ⟨rfl, B1.out⟩
      · have HE : Bx (foE s.data.toList l base p = (freqT l base p, 0)) := Bx.mk (by simp [foE, ht, hbb, hp])
        have hce := fun W hW => hce W hW (inB_yes hbb) (inB_yes hp)
        rw [ht] at hk
        rw [hbb] at hba
        rw [hp] at hpi
        generalize freqT l base p = z at *
        clear ht h hs hm hp hbb
        go_enter Try.func25, Try.ntmps25
        go_wp2_with (fail)
        refine (hk _ (HI.out.below ((Below.refl _ _).alloc (Nat.le_refl _) _))).mono ?_
        rintro e w1 ⟨rfl, hb1⟩
        have B1 : Bx (Below w.heap.size w w1) := Bx.mk (((Below.refl _ _).alloc (Nat.le_refl _) _).trans (hb1.mono (by go_size)))
        have K1 : Bx (BoxAt w1 w.heap.size (.string s) (.slice A l.length c) 29) := Bx.mk (BoxAt.below (BoxAt.at _ _ _ _ _ rfl) hb1)
        clear hb1
        have k10 := K1.out.c0
        have k11 := K1.out.c1
        have k1l := K1.out.lt
        go_wp2_with (first | (go_at_call 45; refine (hba _).mono ?_; rintro e w' ⟨rfl, rfl⟩) | (go_at_call 46; refine (hpi _).mono ?_; rintro e w' ⟨rfl, rfl⟩))
        refine (hce _ (HI.out.below B1.out)).mono ?_
        rintro e w3 ⟨rfl, hb3⟩
        have B3 : Bx (Below w.heap.size w w3) := Bx.mk (B1.out.trans (hb3.mono B1.out.size))
        clear hb3
        go_wp2_with (fail)
        go_ret2
        rw [TwoOut, HE.out]
        exact ⟨rfl, B3.out⟩
end Go.Proofs.Ytbnhcacjlkmfeaa
