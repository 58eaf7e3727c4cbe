/- Scales: choices, degrees and pitches, by the model. -/
import Derived.Test.YtfoikipacnmgkaaSc2
namespace Go.Proofs.Ytfoikipacnmgkaa
open Go.ChangeShapes Go.WideShapes Go.ChangeAt Go.RowKit
set_option linter.unusedVariables false
set_option linter.unusedSimpArgs false
set_option maxRecDepth 100000

/-- how many sets of k of n things there are, after some rounds -/
def chS (n k : Int) : Nat → Int
  | 0 => 1
  | i + 1 => chS n k i * (n - k + (i + 1)) / (i + 1)
def chooseZ (n k : Int) : Int := if 0 ≤ k ∧ k ≤ n then chS n k k.toNat else 0
theorem ch_bd0 : ∀ n ∈ List.range 12, ∀ k ∈ List.range (n + 1), ∀ i ∈ List.range (k + 1), 1 ≤ chS n k i ∧ chS n k i ≤ 1000 := by decide +kernel
theorem ch_bd (n k : Int) (i : Nat) (hn : n ≤ 11) (hk : 0 ≤ k ∧ k ≤ n) (hi : (i : Int) ≤ k) : 1 ≤ chS n k i ∧ chS n k i ≤ 1000 := by
  obtain ⟨n, rfl⟩ := Int.eq_ofNat_of_zero_le (show 0 ≤ n by omega)
  obtain ⟨k, rfl⟩ := Int.eq_ofNat_of_zero_le hk.1
  exact ch_bd0 n (by simp; omega) k (by simp; omega) i (by simp; omega)
theorem choose_bd (n k : Int) (hn : n ≤ 11) : 0 ≤ chooseZ n k ∧ chooseZ n k ≤ 1000 := by
  unfold chooseZ
  split
  · rename_i h
    have := ch_bd n k k.toNat hn h (by omega)
    omega
  · omega
set_option maxHeartbeats 1000000 in
theorem spec_choose (n k : Int) (w : World) (hn : -1000 ≤ n ∧ n ≤ 11) (hk : -1000 ≤ k ∧ k ≤ 1000) :
    Calls Try.prog 91 #[.int .i64 n, .int .i64 k] w fun e w' => e = .returned (.int .i64 (chooseZ n k)) ∧ w = w' := by
  obtain ⟨n1, n2⟩ := hn
  obtain ⟨k1, k2⟩ := hk
  by_cases h0 : k < 0
  · have HE : Bx (chooseZ n k = 0) := Bx.mk (by unfold chooseZ; rw [if_neg (by omega)])
    go_enter Try.func91, Try.ntmps91
    go_wp2
    go_ret
    exact ⟨ret_int HE.out.symm, rfl⟩
  · by_cases h1 : n < k
    · have HE : Bx (chooseZ n k = 0) := Bx.mk (by unfold chooseZ; rw [if_neg (by omega)])
      go_enter Try.func91, Try.ntmps91
      go_wp2
      go_ret
      exact ⟨ret_int HE.out.symm, rfl⟩
    · have HE : Bx (chooseZ n k = chS n k k.toNat) := Bx.mk (by unfold chooseZ; rw [if_pos (by omega)])
      have d1 : decide (k < 0) = false := decide_eq_false h0
      have d2 : decide (k > n) = false := decide_eq_false (by omega)
      go_enter Try.func91, Try.ntmps91
      go_wp2_with (fail)
      go_loop [5, 6] (fun x i => ∃ j : Nat, (j : Int) ≤ k ∧ i = .int .i64 ((j : Int) + 1) ∧ x = .int .i64 (chS n k j)) (fun _ i => (k + 10 - intOf i).toNat)
      case atStart => exact ⟨0, by omega, rfl, rfl⟩
      case round =>
        obtain ⟨j, hj, rfl, rfl⟩ := hrel
        obtain ⟨b1, b2⟩ := ch_bd n k j n2 (by omega) hj
        by_cases hlt : (j : Int) + 1 ≤ k
        · have HS : Bx (chS n k (j + 1) = chS n k j * (n - k + (j + 1)) / (j + 1)) := Bx.mk rfl
          have m1 : 0 ≤ chS n k j * (n - k + (j + 1)) := Int.mul_nonneg (by omega) (by omega)
          have m2 : chS n k j * (n - k + (j + 1)) ≤ 1000 * 1000 := Int.mul_le_mul b2 (by omega) (by omega) (by omega)
          have q1 : 0 ≤ chS n k j * (n - k + (j + 1)) / ((j : Int) + 1) := Int.ediv_nonneg m1 (by omega)
          have q2 : chS n k j * (n - k + (j + 1)) / ((j : Int) + 1) ≤ chS n k j * (n - k + (j + 1)) := Int.ediv_le_self _ m1
          have HR : Bx (wrap64 ((wrap64 (chS n k j * (n - k + (j + 1)))).tdiv ((j : Int) + 1)) = chS n k (j + 1)) := Bx.mk (by
            rw [IntWalk.wrap64_in (chS n k j * (n - k + (j + 1))) (by omega), Int.tdiv_eq_ediv_of_nonneg m1, IntWalk.wrap64_in _ (by omega), HS.out])
          have z0 : ((j : Int) + 1 == 0) = false := by simp; omega
          clear m1 m2 q1 q2
          go_wp2_with (fail)
          go_round
          case rel => exact ⟨j + 1, by omega, by go_num, by rw [HR.out]⟩
          case measure => simp [intOf]; omega
        · obtain rfl : k = j := by omega
          go_wp2_with (fail)
          go_ret
          exact ⟨ret_int (by rw [HE.out]; simp), rfl⟩
theorem spec_size (n : Int) (w : World) : Calls Try.prog 90 #[.int .i64 n] w fun e w' => e = .returned (.bool (inB n 5 12)) ∧ w = w' := by
  have hin := fun W => in_any n 5 12 W
  generalize inB n 5 12 = b at hin ⊢
  go_enter Try.func90, Try.ntmps90
  go_wp2_with (fail)
  refine (hin _).mono ?_
  rintro e w' ⟨rfl, rfl⟩
  go_wp2_with (fail)
  go_ret
  exact ⟨rfl, rfl⟩
theorem spec_pitch (n : Int) (w : World) : Calls Try.prog 84 #[.int .i64 n] w fun e w' => e = .returned (.bool (inB n (-12) 23)) ∧ w = w' := by
  have hin := fun W => in_any n (-12) 23 W
  generalize inB n (-12) 23 = b at hin ⊢
  go_enter Try.func84, Try.ntmps84
  go_wp2_with (fail)
  refine (hin _).mono ?_
  rintro e w' ⟨rfl, rfl⟩
  go_wp2_with (fail)
  go_ret
  exact ⟨rfl, rfl⟩
def countZ (n : Int) : Int × Int := if inB n 5 12 = true then (chooseZ 11 (n - 1), 0) else (0, 2)
theorem spec_count (n : Int) (w : World) : Calls Try.prog 57 #[.int .i64 n] w fun e w' => e = .returned (.tuple #[.int .i64 (countZ n).1, .int .i64 (countZ n).2]) ∧ w = w' := by
  have hsz := fun W => spec_size n W
  cases h : inB n 5 12
  · have HE : Bx (countZ n = (0, 2)) := Bx.mk (by simp [countZ, h])
    rw [h] at hsz
    rw [HE.out]
    go_enter Try.func57, Try.ntmps57
    go_wp2_with (fail)
    refine (hsz _).mono ?_
    rintro e w' ⟨rfl, rfl⟩
    go_wp2_with (fail)
    go_ret2
    exact ⟨rfl, rfl⟩
  · have HE : Bx (countZ n = (chooseZ 11 (n - 1), 0)) := Bx.mk (by simp [countZ, h])
    obtain ⟨n1, n2⟩ := inB_yes h
    have hch := fun W => spec_choose 11 (n - 1) W (by omega) (by omega)
    have E1 : IntKind.i64.wrap (n - 1) = n - 1 := IntWalk.i64_in _ (by omega)
    rw [h] at hsz
    rw [HE.out]
    generalize chooseZ 11 (n - 1) = z at hch ⊢
    clear h
    go_enter Try.func57, Try.ntmps57
    go_wp2_with (fail)
    refine (hsz _).mono ?_
    rintro e w' ⟨rfl, rfl⟩
    go_wp2_with (fail)
    refine (hch _).mono ?_
    rintro e w' ⟨rfl, rfl⟩
    go_wp2_with (fail)
    go_ret2
    exact ⟨rfl, rfl⟩
theorem spec_floor (p : Int) (w : World) (hp : -12 ≤ p ∧ p ≤ 23) : Calls Try.prog 86 #[.int .i64 p] w fun e w' => e = .returned (.int .i64 (p / 12)) ∧ w = w' := by
  have ht := fun W => spec_tone p W
  have HR : Bx (wrap64 ((wrap64 (p - p % 12)).tdiv 12) = p / 12) := Bx.mk (by
    rw [IntWalk.wrap64_in (p - p % 12) (by omega)]
    have e : p - p % 12 = 12 * (p / 12) := by omega
    rw [e, Int.mul_tdiv_cancel_left _ (by decide), IntWalk.wrap64_in _ (by omega)])
  have HR2 : Bx ((p - p % 12).tdiv 12 = p / 12) := Bx.mk (by
    have e : p - p % 12 = 12 * (p / 12) := by omega
    rw [e, Int.mul_tdiv_cancel_left _ (by decide)])
  obtain ⟨p1, p2⟩ := hp
  obtain ⟨t1, t2⟩ := tone_rng p
  go_enter Try.func86, Try.ntmps86
  go_wp2_with (fail)
  refine (ht _).mono ?_
  rintro e w' ⟨rfl, rfl⟩
  go_wp2_with (fail)
  go_ret
  exact ⟨ret_int (by first | exact HR.out | exact HR2.out), rfl⟩
/-- the degree of a pitch -/
def degZ (zs : List Int) (p : Int) : Int × Int := if scaleB zs = true then (if inB p (-12) 23 = true then (if idxZ zs (p % 12) < 0 then (0, 3) else (p / 12 * zs.length + idxZ zs (p % 12), 0)) else (0, 2)) else (0, 1)
def IntsRes (t : Int × Int) (w : World) (e : Ending) (w' : World) : Prop := e = .returned (.tuple #[.int .i64 t.1, .int .i64 t.2]) ∧ ∃ n, w' = w.drewN n
set_option maxHeartbeats 1000000 in
theorem spec_degree (v : Value) (zs : List Int) (p : Int) (w : World) (h : IntsAt w v zs) (hm : zs.length ≤ 281474976710656) :
    Calls Try.prog 52 #[v, .int .i64 p] w (IntsRes (degZ zs p) w) := by
  have hsc := fun W h => spec_scale v zs W h hm
  have HI := Bx.mk h
  obtain ⟨A, c, rfl⟩ := h.len
  clear h
  cases h1 : scaleB zs
  · have HE : Bx (degZ zs p = (0, 1)) := Bx.mk (by simp [degZ, h1])
    rw [h1] at hsc
    clear h1
    rw [HE.out]
    go_enter Try.func52, Try.ntmps52
    go_wp2_with (fail)
    refine (hsc _ HI.out).mono ?_
    rintro e w' ⟨rfl, k, rfl⟩
    go_wp2_with (fail)
    go_ret2
    exact ⟨rfl, k, rfl⟩
  · obtain ⟨⟨l1, l2⟩, _, _⟩ := scale_yes h1
    have hpi := fun W => spec_pitch p W
    cases h2 : inB p (-12) 23
    · have HE : Bx (degZ zs p = (0, 2)) := Bx.mk (by simp [degZ, h1, h2])
      rw [h1] at hsc
      rw [h2] at hpi
      clear h1 h2
      rw [HE.out]
      go_enter Try.func52, Try.ntmps52
      go_wp2_with (fail)
      refine (hsc _ HI.out).mono ?_
      rintro e w' ⟨rfl, k, rfl⟩
      go_wp2_with (fail)
      refine (hpi _).mono ?_
      rintro e w' ⟨rfl, rfl⟩
      go_wp2_with (fail)
      go_ret2
      exact ⟨rfl, k, rfl⟩
    · obtain ⟨p1, p2⟩ := inB_yes h2
      have hto := fun W => spec_tone p W
      have hat := fun W h => spec_at (.slice A zs.length c) zs (p % 12) W h hm
      have hfl := fun W => spec_floor p W ⟨p1, p2⟩
      have hic := idx_cases zs (p % 12)
      have HE : Bx (degZ zs p = if idxZ zs (p % 12) < 0 then (0, 3) else (p / 12 * zs.length + idxZ zs (p % 12), 0)) := Bx.mk (by simp [degZ, h1, h2])
      rw [h1] at hsc
      rw [h2] at hpi
      clear h1 h2
      generalize idxZ zs (p % 12) = z at *
      rcases hic with ⟨rfl, _⟩ | ⟨j, rfl, hj, _, _⟩
      · have HE2 := Bx.mk (HE.out.trans (if_pos (by omega)))
        rw [HE2.out]
        clear HE
        go_enter Try.func52, Try.ntmps52
        go_wp2_with (fail)
        refine (hsc _ HI.out).mono ?_
        rintro e w' ⟨rfl, k, rfl⟩
        go_wp2_with (fail)
        refine (hpi _).mono ?_
        rintro e w' ⟨rfl, rfl⟩
        go_wp2_with (fail)
        refine (hto _).mono ?_
        rintro e w' ⟨rfl, rfl⟩
        go_wp2_with (fail)
        refine (hat _ (HI.out.draws k)).mono ?_
        rintro e w' ⟨rfl, rfl⟩
        go_wp2_with (fail)
        go_ret2
        exact ⟨rfl, k, rfl⟩
      · have HE2 := Bx.mk (HE.out.trans (if_neg (by omega)))
        rw [HE2.out]
        clear HE
        have q1 : -1 ≤ p / 12 ∧ p / 12 ≤ 1 := by omega
        obtain ⟨q1, q2⟩ := q1
        generalize hq : p / 12 = q at *
        clear hq
        have m1 : -12 ≤ q * (zs.length : Int) ∧ q * (zs.length : Int) ≤ 12 := by
          obtain rfl | rfl | rfl : q = -1 ∨ q = 0 ∨ q = 1 := by omega
          all_goals omega
        obtain ⟨m1, m2⟩ := m1
        have d1 : decide ((j : Int) < 0) = false := decide_eq_false (by omega)
        go_enter Try.func52, Try.ntmps52
        go_wp2_with (fail)
        refine (hsc _ HI.out).mono ?_
        rintro e w' ⟨rfl, k, rfl⟩
        go_wp2_with (fail)
        refine (hpi _).mono ?_
        rintro e w' ⟨rfl, rfl⟩
        go_wp2_with (fail)
        refine (hto _).mono ?_
        rintro e w' ⟨rfl, rfl⟩
        go_wp2_with (fail)
        refine (hat _ (HI.out.draws k)).mono ?_
        rintro e w' ⟨rfl, rfl⟩
        go_wp2_with (fail)
        refine (hfl _).mono ?_
        rintro e w' ⟨rfl, rfl⟩
        go_wp2_with (fail)
        go_ret2
        exact ⟨rfl, k, rfl⟩
end Go.Proofs.Ytfoikipacnmgkaa
