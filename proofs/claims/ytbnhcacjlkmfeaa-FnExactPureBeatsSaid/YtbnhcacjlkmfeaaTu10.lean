/- The model's FrequencyOf. -/
import Derived.Test.YtbnhcacjlkmfeaaTu9
namespace Go.Proofs.Ytbnhcacjlkmfeaa
open Go.ChangeShapes Go.WideShapes Go.ChangeAt Go.RowKit
set_option linter.unusedVariables false
set_option linter.unusedSimpArgs false
set_option maxRecDepth 100000

theorem spec_base (x : Int) (w : World) : Calls Try.prog 42 #[.int .i64 x] w fun e w' => e = .returned (.bool (inB x 10000 2000000)) ∧ w = w' := by
  have hin := fun W => in_any x 10000 2000000 W
  generalize inB x 10000 2000000 = b at hin ⊢
  go_enter Try.func42, Try.ntmps42
  go_wp2_with (fail)
  refine (hin _).mono ?_
  rintro e w' ⟨rfl, rfl⟩
  go_wp2_with (fail)
  go_ret
  exact ⟨rfl, rfl⟩
/-- FrequencyOf -/
def foE (s : List UInt8) (l : List (Int × Int)) (base p : Int) : Int × Int := if tunB s l = true then (if (inB base 10000 2000000 && inB p (-12) 23) = true then (freqT l base p, 0) else (0, 2)) else (0, 1)
set_option maxHeartbeats 1000000 in
theorem spec_freqof (s : ByteArray) (v : Value) (l : List (Int × Int)) (base p : Int) (w : World) (h : PrsAt w v l) (hs : s.size ≤ maxLen) (hm : l.length ≤ 281474976710656) :
    Calls Try.prog 24 #[tun s v, .int .i64 base, .int .i64 p] w (TwoOut (foE s.data.toList l base p) w) := by
  have hk := fun g W a0 a1 hW => spec_tok g s v l W a0 a1 hW hs hm
  have HI := Bx.mk h
  have hpi := fun W => spec_pitch p W
  have hba := fun W => spec_base base W
  unfold tun
  cases ht : tunB s.data.toList l
  · have HE : Bx (foE s.data.toList l base p = (0, 1)) := Bx.mk (by simp [foE, ht])
    rw [ht] at hk
    clear ht h hs hm
    go_enter Try.func24, Try.ntmps24
    go_wp2_with (fail)
    refine (hk _ _ (by go_simp) (by go_simp) (HI.out.below ((Below.refl _ _).alloc (Nat.le_refl _) _))).mono ?_
    rintro e w' ⟨rfl, k, rfl⟩
    go_wp2_with (fail)
    go_ret2
    rw [TwoOut, HE.out]
    exact ⟨rfl, below_draws ((Below.refl _ _).alloc (Nat.le_refl _) _) _⟩
  · have hce := fun g W a0 a1 hW hb hp => spec_tfreq g s v l base p W a0 a1 hW ht hb hp
    by_cases hp : (inB base 10000 2000000 && inB p (-12) 23) = true
    · have HE : Bx (foE s.data.toList l base p = (freqT l base p, 0)) := Bx.mk (by unfold foE; rw [if_pos ht, if_pos hp])
      rw [Bool.and_eq_true] at hp
      have hce := fun g W a0 a1 hW => hce g W a0 a1 hW (inB_yes hp.1) (inB_yes hp.2)
      rw [ht] at hk
      rw [hp.1] at hba
      rw [hp.2] at hpi
      generalize freqT l base p = z at *
      clear ht h hs hm hp
      go_enter Try.func24, Try.ntmps24
      go_wp2_with (fail)
      refine (hk _ _ (by go_simp) (by go_simp) (HI.out.below ((Below.refl _ _).alloc (Nat.le_refl _) _))).mono ?_
      rintro e w' ⟨rfl, k, rfl⟩
      go_wp2_with (first | (go_at_call 42; refine (hba _).mono ?_; rintro e w' ⟨rfl, rfl⟩) | (go_at_call 43; refine (hpi _).mono ?_; rintro e w' ⟨rfl, rfl⟩))
      refine (hce _ _ (by go_simp) (by go_simp) ((HI.out.below ((Below.refl _ _).alloc (Nat.le_refl _) _)).draws k)).mono ?_
      rintro e w1 ⟨rfl, hb1⟩
      go_wp2_with (fail)
      go_ret2
      rw [TwoOut, HE.out]
      exact ⟨rfl, (below_draws ((Below.refl _ _).alloc (Nat.le_refl _) _) k).trans (hb1.mono (by go_size))⟩
    · have HE : Bx (foE s.data.toList l base p = (0, 2)) := Bx.mk (by unfold foE; rw [if_pos ht, if_neg hp])
      rw [ht] at hk
      clear ht h hs hm hce
      generalize inB base 10000 2000000 = x at *
      generalize inB p (-12) 23 = y at *
      cases x <;> cases y
      · go_enter Try.func24, Try.ntmps24
        go_wp2_with (fail)
        refine (hk _ _ (by go_simp) (by go_simp) (HI.out.below ((Below.refl _ _).alloc (Nat.le_refl _) _))).mono ?_
        rintro e w' ⟨rfl, k, rfl⟩
        go_wp2_with (first | (go_at_call 42; refine (hba _).mono ?_; rintro e w' ⟨rfl, rfl⟩) | (go_at_call 43; refine (hpi _).mono ?_; rintro e w' ⟨rfl, rfl⟩))
        go_ret2
        rw [TwoOut, HE.out]
        exact ⟨rfl, below_draws ((Below.refl _ _).alloc (Nat.le_refl _) _) _⟩
      · go_enter Try.func24, Try.ntmps24
        go_wp2_with (fail)
        refine (hk _ _ (by go_simp) (by go_simp) (HI.out.below ((Below.refl _ _).alloc (Nat.le_refl _) _))).mono ?_
        rintro e w' ⟨rfl, k, rfl⟩
        go_wp2_with (first | (go_at_call 42; refine (hba _).mono ?_; rintro e w' ⟨rfl, rfl⟩) | (go_at_call 43; refine (hpi _).mono ?_; rintro e w' ⟨rfl, rfl⟩))
        go_ret2
        rw [TwoOut, HE.out]
        exact ⟨rfl, below_draws ((Below.refl _ _).alloc (Nat.le_refl _) _) _⟩
      · go_enter Try.func24, Try.ntmps24
        go_wp2_with (fail)
        refine (hk _ _ (by go_simp) (by go_simp) (HI.out.below ((Below.refl _ _).alloc (Nat.le_refl _) _))).mono ?_
        rintro e w' ⟨rfl, k, rfl⟩
        go_wp2_with (first | (go_at_call 42; refine (hba _).mono ?_; rintro e w' ⟨rfl, rfl⟩) | (go_at_call 43; refine (hpi _).mono ?_; rintro e w' ⟨rfl, rfl⟩))
        go_ret2
        rw [TwoOut, HE.out]
        exact ⟨rfl, below_draws ((Below.refl _ _).alloc (Nat.le_refl _) _) _⟩
      · exact absurd rfl hp
end Go.Proofs.Ytbnhcacjlkmfeaa
