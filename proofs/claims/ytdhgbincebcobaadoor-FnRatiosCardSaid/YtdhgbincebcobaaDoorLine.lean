/- Contracts of Blend's functions on both sides. -/
import Derived.Test.YtdhgbincebcobaaDoorNum
import Derived.LoopTactic
namespace Go.Proofs.YtdhgbincebcobaaDoor
open Go.ChangeShapes Go.WideShapes Go.ChangeAt Go.RowKit
set_option linter.unusedVariables false
set_option linter.unusedSimpArgs false
set_option maxRecDepth 100000

theorem impl_line (x0 y0 x1 y1 x : Int) (w : World) (a1 : -500000000 ≤ x0) (a2 : x0 ≤ 500000000) (b1 : -500000000 ≤ y0) (b2 : y0 ≤ 500000000)
    (c1 : -500000000 ≤ x1) (c2 : x1 ≤ 500000000) (d1 : -500000000 ≤ y1) (d2 : y1 ≤ 500000000) :
    Calls Tryd.prog 52 #[.int .i64 x0, .int .i64 y0, .int .i64 x1, .int .i64 y1, .int .i64 x] w fun e w' => e = .returned (.int .i64 (lineZ x0 y0 x1 y1 x)) ∧ ∃ n, w' = w.drewN n := by
  by_cases h1 : x ≤ x0
  · have H : Hid (lineZ x0 y0 x1 y1 x = y0) := Lib.hid (line_low _ _ _ _ _ (.inl h1))
    go_enter Tryd.func52, Tryd.ntmps52
    go_wp2
    go_ret
    exact ⟨ret_int H.out.symm, 0, rfl⟩
  · by_cases h2 : x1 ≤ x0
    · have H : Hid (lineZ x0 y0 x1 y1 x = y0) := Lib.hid (line_low _ _ _ _ _ (.inr h2))
      go_enter Tryd.func52, Tryd.ntmps52
      go_wp2
      go_ret
      exact ⟨ret_int H.out.symm, 0, rfl⟩
    · by_cases h3 : x1 ≤ x
      · have H : Hid (lineZ x0 y0 x1 y1 x = y1) := Lib.hid (line_high _ _ _ _ _ (by omega) (by omega) h3)
        go_enter Tryd.func52, Tryd.ntmps52
        go_wp2
        go_ret
        exact ⟨ret_int H.out.symm, 0, rfl⟩
      · have H : Hid (lineZ x0 y0 x1 y1 x = y0 + dv ((y1 - y0) * (x - x0)) (x1 - x0)) := Lib.hid (line_mid _ _ _ _ _ (by omega) (by omega))
        obtain ⟨m1, m2⟩ := mul_in (y1 - y0) (x - x0) 1000000000 1000000000 (by omega) (by omega) (by omega) (by omega)
        obtain ⟨n1, n2⟩ := dv_in ((y1 - y0) * (x - x0)) (x1 - x0) 1000000000000000000 (by omega) (by omega) (by omega)
        go_enter Tryd.func52, Tryd.ntmps52
        go_wp2_with ((go_at_call 48; refine (nearest _ _ _ (by omega) (by omega) (by omega) (by omega) (by omega)).mono ?_; rintro e w' ⟨rfl, nq, rfl⟩))
        go_ret
        exact ⟨ret_int H.out.symm, _, rfl⟩

/-- least of a number and of those of a new slice -/
theorem least_any (x : Int) (zs : List Int) (b : Nat) (w : World) (hl : zs.length ≤ 1000) (hc : ∀ k, k < zs.length → w.cell? ⟨b, k, none⟩ = some (.int .i64 (zs.getD k 0))) :
    Calls Tryd.prog 50 #[.int .i64 x, .slice (some ⟨b, 0, none⟩) zs.length zs.length] w fun e w' => e = .returned (.int .i64 (zs.foldl min x)) ∧ w = w' := by
  have HC := Lib.hid hc
  clear hc
  go_enter Tryd.func50, Tryd.ntmps50
  go_wp2
  go_loop [0, 9] (fun n i => ∃ k : Nat, k ≤ zs.length ∧ i = .int .i64 k ∧ n = .int .i64 ((zs.take k).foldl min x)) (fun _ i => zs.length - (intOf i).toNat)
  case atStart => exact ⟨0, Nat.zero_le _, rfl, rfl⟩
  case round =>
    obtain ⟨k, hk, rfl, rfl⟩ := hrel
    by_cases hlt : k < zs.length
    · have h1 := HC.out k hlt
      have H2 := Lib.hid (min_step x zs k hlt)
      go_wp2
      go_round
      case rel => exact ⟨k + 1, by omega, by go_num, by rw [← H2.out]⟩
      case measure => simp [intOf]; omega
    · go_wp2
      go_ret
      exact ⟨ret_int (by rw [List.take_of_length_le (by omega)]), rfl⟩

/-- greatest of a number and of those of a new slice -/
theorem greatest_any (x : Int) (zs : List Int) (b : Nat) (w : World) (hl : zs.length ≤ 1000) (hc : ∀ k, k < zs.length → w.cell? ⟨b, k, none⟩ = some (.int .i64 (zs.getD k 0))) :
    Calls Tryd.prog 51 #[.int .i64 x, .slice (some ⟨b, 0, none⟩) zs.length zs.length] w fun e w' => e = .returned (.int .i64 (zs.foldl max x)) ∧ w = w' := by
  have HC := Lib.hid hc
  clear hc
  go_enter Tryd.func51, Tryd.ntmps51
  go_wp2
  go_loop [0, 9] (fun n i => ∃ k : Nat, k ≤ zs.length ∧ i = .int .i64 k ∧ n = .int .i64 ((zs.take k).foldl max x)) (fun _ i => zs.length - (intOf i).toNat)
  case atStart => exact ⟨0, Nat.zero_le _, rfl, rfl⟩
  case round =>
    obtain ⟨k, hk, rfl, rfl⟩ := hrel
    by_cases hlt : k < zs.length
    · have h1 := HC.out k hlt
      have H2 := Lib.hid (max_step x zs k hlt)
      go_wp2
      go_round
      case rel => exact ⟨k + 1, by omega, by go_num, by rw [← H2.out]⟩
      case measure => simp [intOf]; omega
    · go_wp2
      go_ret
      exact ⟨ret_int (by rw [List.take_of_length_le (by omega)]), rfl⟩

def rngB (x : Int) : Bool := inB x (-1000000) 1000000
def blendZ (x0 y0 x1 y1 x : Int) : Int := if (rngB x0 && rngB x1 && rngB y0 && rngB y1) = true then lineZ x0 y0 x1 y1 x else 0

def min4 (x a b c : Int) : Int := min (min (min x a) b) c
theorem least3 (x a b c : Int) (g : Nat) (w : World) (h0 : w.cell? ⟨g, 0, none⟩ = some (.int .i64 a)) (h1 : w.cell? ⟨g, 1, none⟩ = some (.int .i64 b)) (h2 : w.cell? ⟨g, 2, none⟩ = some (.int .i64 c)) :
    Calls Tryd.prog 50 #[.int .i64 x, .slice (some ⟨g, 0, none⟩) 3 3] w fun e w' =>
      e = .returned (.int .i64 (min4 x a b c)) ∧ w = w' := by
  refine least_any x [a, b, c] g _ (by simp) (fun k hk => ?_)
  have hk : k < 3 := hk
  obtain rfl | rfl | rfl : k = 0 ∨ k = 1 ∨ k = 2 := by omega
  · exact h0
  · exact h1
  · exact h2

def max4 (x a b c : Int) : Int := max (max (max x a) b) c
theorem greatest3 (x a b c : Int) (g : Nat) (w : World) (h0 : w.cell? ⟨g, 0, none⟩ = some (.int .i64 a)) (h1 : w.cell? ⟨g, 1, none⟩ = some (.int .i64 b)) (h2 : w.cell? ⟨g, 2, none⟩ = some (.int .i64 c)) :
    Calls Tryd.prog 51 #[.int .i64 x, .slice (some ⟨g, 0, none⟩) 3 3] w fun e w' =>
      e = .returned (.int .i64 (max4 x a b c)) ∧ w = w' := by
  refine greatest_any x [a, b, c] g _ (by simp) (fun k hk => ?_)
  have hk : k < 3 := hk
  obtain rfl | rfl | rfl : k = 0 ∨ k = 1 ∨ k = 2 := by omega
  · exact h0
  · exact h1
  · exact h2

theorem impl_blend (x0 y0 x1 y1 x : Int) (w : World) :
    Calls Tryd.prog 14 #[.int .i64 x0, .int .i64 y0, .int .i64 x1, .int .i64 y1, .int .i64 x] w fun e w' => e = .returned (.int .i64 (blendZ x0 y0 x1 y1 x)) ∧ Below w.heap.size w w' := by
  by_cases h1 : min4 x0 y0 x1 y1 < -1000000
  · have H : Hid (blendZ x0 y0 x1 y1 x = 0) := Lib.hid (by simp [blendZ, rngB, inB]; unfold min4 at h1; omega)
    go_enter Tryd.func14, Tryd.ntmps14
    go_wp2_with ((go_at_call 50; refine (least3 x0 y0 x1 y1 _ _ (by go_simp) (by go_simp) (by go_simp)).mono ?_; rintro e w' ⟨rfl, rfl⟩))
    go_ret
    exact ⟨ret_int H.out.symm, (Below.refl _ _).alloc (Nat.le_refl _) _⟩
  · by_cases h2 : 1000000 < max4 x0 y0 x1 y1
    · have H : Hid (blendZ x0 y0 x1 y1 x = 0) := Lib.hid (by simp [blendZ, rngB, inB]; unfold max4 at h2; omega)
      go_enter Tryd.func14, Tryd.ntmps14
      go_wp2_with (first | (go_at_call 50; refine (least3 x0 y0 x1 y1 _ _ (by go_simp) (by go_simp) (by go_simp)).mono ?_; rintro e w' ⟨rfl, rfl⟩) | (go_at_call 51; refine (greatest3 x0 y0 x1 y1 _ _ (by go_simp) (by go_simp) (by go_simp)).mono ?_; rintro e w' ⟨rfl, rfl⟩))
      go_ret
      exact ⟨ret_int H.out.symm, ((Below.refl _ _).alloc (Nat.le_refl _) _).alloc (by simp) _⟩
    · have H : Hid (blendZ x0 y0 x1 y1 x = lineZ x0 y0 x1 y1 x) := Lib.hid (by unfold blendZ rngB inB; rw [if_pos]; simp; unfold min4 at h1; unfold max4 at h2; omega)
      have g : -500000000 ≤ x0 ∧ x0 ≤ 500000000 ∧ -500000000 ≤ y0 ∧ y0 ≤ 500000000 ∧ -500000000 ≤ x1 ∧ x1 ≤ 500000000 ∧ -500000000 ≤ y1 ∧ y1 ≤ 500000000 := by unfold min4 at h1; unfold max4 at h2; omega
      obtain ⟨g1, g2, g3, g4, g5, g6, g7, g8⟩ := g
      go_enter Tryd.func14, Tryd.ntmps14
      go_wp2_with (first | (go_at_call 50; refine (least3 x0 y0 x1 y1 _ _ (by go_simp) (by go_simp) (by go_simp)).mono ?_; rintro e w' ⟨rfl, rfl⟩) | (go_at_call 51; refine (greatest3 x0 y0 x1 y1 _ _ (by go_simp) (by go_simp) (by go_simp)).mono ?_; rintro e w' ⟨rfl, rfl⟩) | (go_at_call 52; refine (impl_line _ _ _ _ _ _ g1 g2 g3 g4 g5 g6 g7 g8).mono ?_; rintro e w' ⟨rfl, nq, rfl⟩))
      go_ret
      exact ⟨ret_int H.out.symm, below_draws (((Below.refl _ _).alloc (Nat.le_refl _) _).alloc (by simp) _) _⟩
end Go.Proofs.YtdhgbincebcobaaDoor
