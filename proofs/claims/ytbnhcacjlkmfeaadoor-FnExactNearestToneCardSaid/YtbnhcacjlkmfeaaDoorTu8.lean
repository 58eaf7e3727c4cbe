/- The model's ValidTuning, PitchCents, and the frequency of a pitch. -/
import Derived.Test.YtbnhcacjlkmfeaaDoorTu7
namespace Go.Proofs.YtbnhcacjlkmfeaaDoor
open Go.ChangeShapes Go.WideShapes Go.ChangeAt Go.RowKit
set_option linter.unusedVariables false
set_option linter.unusedSimpArgs false
set_option maxRecDepth 100000

/-- PitchCents -/
noncomputable def pcE (s : List UInt8) (l : List (Int × Int)) (p : Int) : Int × Int := if tunB s l = true then (if inB p (-12) 23 = true then (centsT l p, 0) else (0, 2)) else (0, 1)
set_option maxHeartbeats 1000000 in
theorem spec_pitchcents (s : ByteArray) (v : Value) (l : List (Int × Int)) (p : Int) (w : World) (h : PrsAt w v l) (hs : s.size ≤ maxLen) (hm : l.length ≤ 281474976710656) :
    Calls Tryd.prog 10 #[tun s v, .int .i64 p] w (TwoOut (pcE s.data.toList l p) w) := by
  have hk := fun g W a0 a1 hW => spec_tok g s v l W a0 a1 hW hs hm
  have HI := Bx.mk h
  have hpi := fun W => spec_pitch p W
  unfold tun
  cases ht : tunB s.data.toList l
  · have HE : Bx (pcE s.data.toList l p = (0, 1)) := Bx.mk (by simp [pcE, ht])
    rw [ht] at hk
    clear ht h hs hm
    go_enter Tryd.func10, Tryd.ntmps10
    go_wp2_with (fail)
    refine (hk _ _ (by go_simp) (by go_simp) (HI.out.below ((Below.refl _ _).alloc (Nat.le_refl _) _))).mono ?_
    rintro e w' ⟨rfl, k, rfl⟩
    go_wp2_with (fail)
    go_ret2
    rw [TwoOut, HE.out]
    exact ⟨rfl, below_draws ((Below.refl _ _).alloc (Nat.le_refl _) _) _⟩
  · have hce := fun g W a0 a1 hW hp => spec_tcents g s v l p W a0 a1 hW ht hp
    cases hp : inB p (-12) 23
    · have HE : Bx (pcE s.data.toList l p = (0, 2)) := Bx.mk (by simp [pcE, ht, hp])
      rw [ht] at hk
      rw [hp] at hpi
      clear ht h hs hm hp hce
      go_enter Tryd.func10, Tryd.ntmps10
      go_wp2_with (fail)
      refine (hk _ _ (by go_simp) (by go_simp) (HI.out.below ((Below.refl _ _).alloc (Nat.le_refl _) _))).mono ?_
      rintro e w' ⟨rfl, k, rfl⟩
      go_wp2_with (fail)
      refine (hpi _).mono ?_
      rintro e w' ⟨rfl, rfl⟩
      go_wp2_with (fail)
      go_ret2
      rw [TwoOut, HE.out]
      exact ⟨rfl, below_draws ((Below.refl _ _).alloc (Nat.le_refl _) _) _⟩
    · have HE : Bx (pcE s.data.toList l p = (centsT l p, 0)) := Bx.mk (by simp [pcE, ht, hp])
      have hce := fun g W a0 a1 hW => hce g W a0 a1 hW (inB_yes hp)
      rw [ht] at hk
      rw [hp] at hpi
      generalize centsT l p = z at *
      clear ht h hs hm hp
      go_enter Tryd.func10, Tryd.ntmps10
      go_wp2_with (fail)
      refine (hk _ _ (by go_simp) (by go_simp) (HI.out.below ((Below.refl _ _).alloc (Nat.le_refl _) _))).mono ?_
      rintro e w' ⟨rfl, k, rfl⟩
      go_wp2_with (fail)
      refine (hpi _).mono ?_
      rintro e w' ⟨rfl, rfl⟩
      go_wp2_with (fail)
      refine (hce _ _ (by go_simp) (by go_simp) ((HI.out.below ((Below.refl _ _).alloc (Nat.le_refl _) _)).draws k)).mono ?_
      rintro e w1 ⟨rfl, hb1⟩
      go_wp2_with (fail)
      go_ret2
      rw [TwoOut, HE.out]
      exact ⟨rfl, (below_draws ((Below.refl _ _).alloc (Nat.le_refl _) _) k).trans (hb1.mono (by go_size))⟩
/-- the frequency of a pitch -/
def freqT (l : List (Int × Int)) (base p : Int) : Int := dv (base * (pat l (p % 12).toNat).1 * (if 12 ≤ p then 2 else 1)) ((pat l (p % 12).toNat).2 * (if p < 0 then 2 else 1))
end Go.Proofs.YtbnhcacjlkmfeaaDoor
