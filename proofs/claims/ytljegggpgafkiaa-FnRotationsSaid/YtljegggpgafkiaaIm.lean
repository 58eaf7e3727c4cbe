/- Scales: the program's small functions. -/
import Derived.Test.YtljegggpgafkiaaSc14
import Derived.Test.YtljegggpgafkiaaMask
import Derived.Test.YtljegggpgafkiaaShelf
namespace Go.Proofs.Ytljegggpgafkiaa
open Go.ChangeShapes Go.WideShapes Go.ChangeAt Go.RowKit
set_option linter.unusedVariables false
set_option linter.unusedSimpArgs false
set_option maxRecDepth 100000

theorem impl_toneof (p : Int) (w : World) : Calls Try.prog 16 #[.int .i64 p] w fun e w' => e = .returned (.int .i64 (p % 12)) ∧ w = w' := by
  obtain ⟨t1, t2, t3⟩ := tmod12 p
  have H := Bx.mk t3
  clear t3
  go_enter Try.func16, Try.ntmps16
  go_wp2
  go_ret
  exact ⟨ret_int H.out, rfl⟩
theorem impl_octave (p : Int) (w : World) (hp : -12 ≤ p ∧ p ≤ 23) : Calls Try.prog 32 #[.int .i64 p] w fun e w' => e = .returned (.int .i64 (p / 12)) ∧ w = w' := by
  have ht := fun W => impl_toneof p W
  have HR : Bx (wrap64 ((wrap64 (p - p % 12)).tdiv 12) = p / 12) := Bx.mk (by
    rw [IntWalk.wrap64_in (p - p % 12) (by omega)]
    have e : p - p % 12 = 12 * (p / 12) := by omega
    rw [e, Int.mul_tdiv_cancel_left _ (by decide), IntWalk.wrap64_in _ (by omega)])
  have HR2 : Bx ((p - p % 12).tdiv 12 = p / 12) := Bx.mk (by
    have e : p - p % 12 = 12 * (p / 12) := by omega
    rw [e, Int.mul_tdiv_cancel_left _ (by decide)])
  obtain ⟨p1, p2⟩ := hp
  obtain ⟨t1, t2⟩ := tone_rng p
  go_enter Try.func32, Try.ntmps32
  go_wp2_with (fail)
  refine (ht _).mono ?_
  rintro e w' ⟨rfl, rfl⟩
  go_wp2_with (fail)
  go_ret
  exact ⟨ret_int (by first | exact HR.out | exact HR2.out), rfl⟩
theorem impl_istone (x : Int) (w : World) :
    Calls Try.prog 41 #[.int .i64 x] w fun e w' => e = .returned (.bool (inB x 0 11)) ∧ w = w' := by
  cases hb : inB x 0 11
  · have h := inB_no hb
    clear hb
    by_cases h1 : 0 ≤ x
    · have h2 : ¬ x < 12 := by omega
      clear h
      go_enter Try.func41, Try.ntmps41
      go_wp2
      go_ret
      exact ⟨rfl, rfl⟩
    · clear h
      go_enter Try.func41, Try.ntmps41
      go_wp2
      go_ret
      exact ⟨rfl, rfl⟩
  · obtain ⟨h1, h3⟩ := inB_yes hb
    have h2 : x < 12 := by omega
    clear hb
    go_enter Try.func41, Try.ntmps41
    go_wp2
    go_ret
    exact ⟨rfl, rfl⟩
theorem impl_ispitch (x : Int) (w : World) :
    Calls Try.prog 30 #[.int .i64 x] w fun e w' => e = .returned (.bool (inB x (-12) 23)) ∧ w = w' := by
  cases hb : inB x (-12) 23
  · have h := inB_no hb
    clear hb
    by_cases h1 : -12 ≤ x
    · have h2 : ¬ x ≤ 23 := by omega
      clear h
      go_enter Try.func30, Try.ntmps30
      go_wp2
      go_ret
      exact ⟨rfl, rfl⟩
    · clear h
      go_enter Try.func30, Try.ntmps30
      go_wp2
      go_ret
      exact ⟨rfl, rfl⟩
  · obtain ⟨h1, h2⟩ := inB_yes hb
    clear hb
    go_enter Try.func30, Try.ntmps30
    go_wp2
    go_ret
    exact ⟨rfl, rfl⟩
theorem impl_size (x : Int) (w : World) :
    Calls Try.prog 38 #[.int .i64 x] w fun e w' => e = .returned (.bool (inB x 5 12)) ∧ w = w' := by
  cases hb : inB x 5 12
  · have h := inB_no hb
    clear hb
    by_cases h1 : 5 ≤ x
    · have h2 : ¬ x ≤ 12 := by omega
      clear h
      go_enter Try.func38, Try.ntmps38
      go_wp2
      go_ret
      exact ⟨rfl, rfl⟩
    · clear h
      go_enter Try.func38, Try.ntmps38
      go_wp2
      go_ret
      exact ⟨rfl, rfl⟩
  · obtain ⟨h1, h2⟩ := inB_yes hb
    clear hb
    go_enter Try.func38, Try.ntmps38
    go_wp2
    go_ret
    exact ⟨rfl, rfl⟩
set_option maxHeartbeats 1000000 in
theorem impl_tonename (t : Int) (w : World) : Calls Try.prog 20 #[.int .i64 t] w fun e w' => e = .returned (.string (toneS t)) ∧ w = w' := by
  have hin := fun W => impl_istone t W
  cases h : inB t 0 11
  · have HE : Bx (toneS t = ⟨#[]⟩) := Bx.mk (by simp [toneS, h])
    rw [h] at hin
    clear h
    go_enter Try.func20, Try.ntmps20
    go_wp2_with (fail)
    refine (hin _).mono ?_
    rintro e w' ⟨rfl, rfl⟩
    go_wp2_with (fail)
    go_ret
    exact ⟨by rw [HE.out]; rfl, rfl⟩
  · obtain ⟨t1, t2⟩ := inB_yes h
    have HE : Bx (toneS t = ⟨#[nameL.getD t.toNat 0]⟩) := Bx.mk (by simp [toneS, h])
    rw [h] at hin
    clear h
    obtain rfl | rfl | rfl | rfl | rfl | rfl | rfl | rfl | rfl | rfl | rfl | rfl : t = 0 ∨ t = 1 ∨ t = 2 ∨ t = 3 ∨ t = 4 ∨ t = 5 ∨ t = 6 ∨ t = 7 ∨ t = 8 ∨ t = 9 ∨ t = 10 ∨ t = 11 := by omega
    all_goals
      go_enter Try.func20, Try.ntmps20
      go_wp2_with (fail)
      refine (hin _).mono ?_
      rintro e w' ⟨rfl, rfl⟩
      go_wp2_with (fail)
      go_ret
      exact ⟨by rw [HE.out]; rfl, rfl⟩
theorem index_named0 : ∀ n, n < 256 → Lib.indexByte nameL (UInt8.ofNat n) = idxZ namesI (n : Int) := by decide +kernel
theorem index_named (c : UInt8) : Lib.indexByte nameL c = namedZ c := by
  have := index_named0 c.toNat c.toNat_lt
  rw [UInt8.ofNat_toNat] at this
  exact this
theorem impl_index (c : UInt8) (w : World) : Calls Try.prog 40 #[.string namesS, .int .u8 (c.toNat : Int)] w fun e w' => e = .returned (.int .i64 (namedZ c)) ∧ w = w' :=
  (Try.strings_IndexByte namesS (c.toNat : Int) w).mono fun e w' ⟨h, hw⟩ => ⟨by rw [h, ← index_named]; simp [namesS], hw.symm⟩
set_option maxHeartbeats 1000000 in
theorem impl_tonenamed (s : ByteArray) (w : World) (hs : s.size ≤ 281474976710656) : Calls Try.prog 19 #[.string s] w fun e w' => e = .returned (.tuple #[.int .i64 (tnZ s.data.toList).1, .bool (tnZ s.data.toList).2]) ∧ w = w' := by
  by_cases h1 : s.size = 1
  · have h0 : 0 < s.size := by omega
    have HD : s.data.toList = [s[0]] := by
      have := byte_at s 0 h0
      rw [List.drop_zero] at this
      rw [this, List.drop_of_length_le (by simp; omega)]
    have hn : ∀ W, Calls Try.prog 40 #[.string ⟨#[83, 114, 82, 103, 71, 109, 77, 80, 100, 68, 110, 78]⟩, .int .u8 (s[0].toNat : Int)] W fun e w' => e = .returned (.int .i64 (namedZ s[0])) ∧ W = w' := fun W => impl_index s[0] W
    have HB : 0 ≤ namedZ s[0] ∨ namedZ s[0] = -1 := by
      rcases idx_cases namesI (s[0].toNat : Int) with ⟨h, _⟩ | ⟨k, h, _⟩
      · exact .inr h
      · exact .inl (by unfold namedZ; rw [h]; omega)
    rcases HB with hb | hb
    · have HE : Bx (tnZ s.data.toList = (namedZ s[0], true)) := Bx.mk (by rw [HD]; exact if_neg (by omega))
      rw [HE.out]
      clear HD HE
      have d1 : decide (namedZ s[0] < 0) = false := decide_eq_false (by omega)
      generalize namedZ s[0] = z at *
      go_enter Try.func19, Try.ntmps19
      go_wp2_with (fail)
      refine (hn _).mono ?_
      rintro e w' ⟨rfl, rfl⟩
      go_wp2_with (fail)
      go_ret2
      exact ⟨rfl, rfl⟩
    · have HE : Bx (tnZ s.data.toList = (0, false)) := Bx.mk (by rw [HD]; exact if_pos (by omega))
      rw [HE.out]
      rw [hb] at hn
      clear HD HE hb
      go_enter Try.func19, Try.ntmps19
      go_wp2_with (fail)
      refine (hn _).mono ?_
      rintro e w' ⟨rfl, rfl⟩
      go_wp2_with (fail)
      go_ret2
      exact ⟨rfl, rfl⟩
  · have HE : Bx (tnZ s.data.toList = (0, false)) := Bx.mk (tn_many _ (by simpa using h1))
    rw [HE.out]
    have d1 : ((s.size : Int) != 1) = true := by simp; omega
    clear HE
    go_enter Try.func19, Try.ntmps19
    go_wp2_with (fail)
    go_ret2
    exact ⟨rfl, rfl⟩
end Go.Proofs.Ytljegggpgafkiaa
