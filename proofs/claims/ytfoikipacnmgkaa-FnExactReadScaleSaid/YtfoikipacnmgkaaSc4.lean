/- Scales: names of tones, pitches, by the model. -/
import Derived.Test.YtfoikipacnmgkaaSc3
import Derived.Test.YtfoikipacnmgkaaSplitMath
namespace Go.Proofs.Ytfoikipacnmgkaa
open Go.ChangeShapes Go.WideShapes Go.ChangeAt Go.RowKit
set_option linter.unusedVariables false
set_option linter.unusedSimpArgs false
set_option maxRecDepth 100000

theorem tmod_shift (d n : Int) : (d.tmod n + n) % n = d % n := by
  have e : d.tmod n + n * d.tdiv n = d := Int.tmod_add_mul_tdiv d n
  rw [Int.add_emod_right]
  conv => rhs; rw [← e]
  rw [Int.add_mul_emod_self_left]
theorem tmod_bd (d n : Int) (h : 0 < n) : -n < d.tmod n ∧ d.tmod n < n := by
  refine ⟨?_, Int.tmod_lt_of_pos d h⟩
  rcases Int.lt_or_le d 0 with hd | hd
  · have := Int.neg_tmod (-d) n
    rw [Int.neg_neg] at this
    have h4 := Int.tmod_lt_of_pos (-d) h
    omega
  · have := Int.tmod_nonneg n hd; omega
theorem spec_toneof (p : Int) (w : World) : Calls Try.prog 42 #[.int .i64 p] w fun e w' => e = .returned (.int .i64 (p % 12)) ∧ w = w' := by
  have ht := fun W => spec_tone p W
  go_enter Try.func42, Try.ntmps42
  go_wp2_with (fail)
  refine (ht _).mono ?_
  rintro e w' ⟨rfl, rfl⟩
  go_wp2_with (fail)
  go_ret
  exact ⟨rfl, rfl⟩
/-- the pitch with a degree -/
def pitZ (zs : List Int) (d : Int) : Int × Int := if scaleB zs = true then (if inB d (-zs.length) (2 * zs.length - 1) = true then (12 * (d / zs.length) + zs.getD (d % zs.length).toNat 0, 0) else (0, 2)) else (0, 1)
set_option maxHeartbeats 1000000 in
theorem spec_toneat (v : Value) (zs : List Int) (d : Int) (w : World) (h : IntsAt w v zs) (hm : zs.length ≤ 281474976710656) :
    Calls Try.prog 53 #[v, .int .i64 d] w (IntsRes (pitZ zs d) w) := by
  have hsc := fun W h => spec_scale v zs W h hm
  have HI := Bx.mk h
  cases h1 : scaleB zs
  · obtain ⟨A, c, rfl⟩ := h.len
    clear h
    have HE : Bx (pitZ zs d = (0, 1)) := Bx.mk (by simp [pitZ, h1])
    rw [h1] at hsc
    clear h1
    rw [HE.out]
    go_enter Try.func53, Try.ntmps53
    go_wp2_with (fail)
    refine (hsc _ HI.out).mono ?_
    rintro e w' ⟨rfl, k, rfl⟩
    go_wp2_with (fail)
    go_ret2
    exact ⟨rfl, k, rfl⟩
  · obtain ⟨⟨l1, l2⟩, _, _⟩ := scale_yes h1
    obtain ⟨b, o, c, rfl, hb, hc⟩ := h.form (by omega)
    clear h
    have hin := fun W => in_any d (-zs.length) (2 * zs.length - 1) W
    have E1 : IntKind.i64.wrap (-(zs.length : Int)) = -(zs.length : Int) := IntWalk.i64_in _ (by omega)
    have E2 : IntKind.i64.wrap (2 * (zs.length : Int) - 1) = 2 * (zs.length : Int) - 1 := IntWalk.i64_in _ (by omega)
    cases h2 : inB d (-zs.length) (2 * zs.length - 1)
    · have HE : Bx (pitZ zs d = (0, 2)) := Bx.mk (by simp [pitZ, h1, h2])
      rw [h1] at hsc
      rw [h2] at hin
      clear h1 h2
      rw [HE.out]
      go_enter Try.func53, Try.ntmps53
      go_wp2_with (fail)
      refine (hsc _ HI.out).mono ?_
      rintro e w' ⟨rfl, k, rfl⟩
      go_wp2_with (fail)
      refine (hin _).mono ?_
      rintro e w' ⟨rfl, rfl⟩
      go_wp2_with (fail)
      go_ret2
      exact ⟨rfl, k, rfl⟩
    · obtain ⟨d1, d2⟩ := inB_yes h2
      have HE : Bx (pitZ zs d = (12 * (d / zs.length) + zs.getD (d % zs.length).toNat 0, 0)) := Bx.mk (by simp [pitZ, h1, h2])
      have q0 : (0 : Int) < (zs.length : Int) := by omega
      have k1 := Int.emod_nonneg d (show (zs.length : Int) ≠ 0 by omega)
      have k2 := Int.emod_lt_of_pos d q0
      have hk := scale_in h1 (d % zs.length).toNat (by omega)
      have h0 := hc (d % zs.length).toNat (by omega)
      have hq : -1 ≤ d / zs.length ∧ d / zs.length ≤ 1 := by
        constructor
        · exact Int.le_ediv_of_mul_le q0 (show -1 * (zs.length : Int) ≤ d by omega)
        · have := Int.ediv_lt_of_lt_mul q0 (show d < 2 * (zs.length : Int) by omega); omega
      have hdm : d - d % zs.length = zs.length * (d / zs.length) := by have := Int.emod_add_mul_ediv d zs.length; omega
      have HT : Bx ((d.tmod zs.length + zs.length) % zs.length = d % zs.length) := Bx.mk (tmod_shift d _)
      have t1 := tmod_bd d (zs.length : Int) q0
      rw [h1] at hsc
      rw [h2] at hin
      rw [HE.out]
      clear h1 h2
      obtain ⟨t1, t2⟩ := t1
      obtain ⟨hk1, hk2⟩ := hk
      obtain ⟨hq1, hq2⟩ := hq
      generalize d / (zs.length : Int) = q at *
      generalize d % (zs.length : Int) = r at *
      have HQ : Bx ((d - r).tdiv zs.length = q) := Bx.mk (by rw [hdm, Int.mul_tdiv_cancel_left q (show (zs.length : Int) ≠ 0 by omega)])
      clear hdm HE hc
      have z0 : ((zs.length : Int) == 0) = false := beq_eq_false_iff_ne.2 (by omega)
      have x1 : r < (zs.length : Int) := k2
      generalize zs.getD r.toNat 0 = z at *
      go_enter Try.func53, Try.ntmps53
      go_wp2_with (fail)
      refine (hsc _ HI.out).mono ?_
      rintro e w' ⟨rfl, k, rfl⟩
      go_wp2_with (fail)
      refine (hin _).mono ?_
      rintro e w' ⟨rfl, rfl⟩
      go_wp2_with (fail)
      rw [HT.out]
      go_quiet (fail)
      go_wp2_with (fail)
      go_ret2
      refine ⟨?_, drew_more ⟨k, rfl⟩ _⟩
      rw [HQ.out, IntWalk.wrap64_in (12 * q) (by omega), IntWalk.wrap64_in (12 * q + z) (by omega)]
      rfl
end Go.Proofs.Ytfoikipacnmgkaa
