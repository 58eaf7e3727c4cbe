/- Contracts of Blend's functions on both sides. -/
import Derived.Test.YtobhmoohalkijaaDoorNum
import Derived.LoopTactic
namespace Go.Proofs.YtobhmoohalkijaaDoor
open Go.ChangeShapes Go.WideShapes Go.ChangeAt Go.RowKit
set_option linter.unusedVariables false
set_option linter.unusedSimpArgs false
set_option maxRecDepth 100000

/-- least of a number and of those of a new slice -/
theorem least_any (x : Int) (zs : List Int) (b : Nat) (w : World) (hl : zs.length ≤ 1000) (hc : ∀ k, k < zs.length → w.cell? ⟨b, k, none⟩ = some (.int .i64 (zs.getD k 0))) :
    Calls Tryd.prog 129 #[.int .i64 x, .slice (some ⟨b, 0, none⟩) zs.length zs.length] w fun e w' => e = .returned (.int .i64 (zs.foldl min x)) ∧ w = w' := by
  have HC := Lib.hid hc
  clear hc
  go_enter Tryd.func129, Tryd.ntmps129
  go_wp2
  go_loop [0, 9] (fun n i => ∃ k : Nat, k ≤ zs.length ∧ i = .int .i64 k ∧ n = .int .i64 ((zs.take k).foldl min x)) (fun _ i => zs.length - (intOf i).toNat)
  case atStart => exact ⟨0, Nat.zero_le _, rfl, rfl⟩
  case round =>
    obtain ⟨k, hk, rfl, rfl⟩ := hrel
    by_cases hlt : k < zs.length
    · have h1 := HC.out k hlt
      have H2 := Lib.hid (min_step x zs k hlt)
      go_wp2
      go_round
      case rel => exact ⟨k + 1, by omega, by go_num, by rw [← H2.out]⟩
      case measure => simp [intOf]; omega
    · go_wp2
      go_ret
      exact ⟨ret_int (by rw [List.take_of_length_le (by omega)]), rfl⟩

/-- greatest of a number and of those of a new slice -/
theorem greatest_any (x : Int) (zs : List Int) (b : Nat) (w : World) (hl : zs.length ≤ 1000) (hc : ∀ k, k < zs.length → w.cell? ⟨b, k, none⟩ = some (.int .i64 (zs.getD k 0))) :
    Calls Tryd.prog 130 #[.int .i64 x, .slice (some ⟨b, 0, none⟩) zs.length zs.length] w fun e w' => e = .returned (.int .i64 (zs.foldl max x)) ∧ w = w' := by
  have HC := Lib.hid hc
  clear hc
  go_enter Tryd.func130, Tryd.ntmps130
  go_wp2
  go_loop [0, 9] (fun n i => ∃ k : Nat, k ≤ zs.length ∧ i = .int .i64 k ∧ n = .int .i64 ((zs.take k).foldl max x)) (fun _ i => zs.length - (intOf i).toNat)
  case atStart => exact ⟨0, Nat.zero_le _, rfl, rfl⟩
  case round =>
    obtain ⟨k, hk, rfl, rfl⟩ := hrel
    by_cases hlt : k < zs.length
    · have h1 := HC.out k hlt
      have H2 := Lib.hid (max_step x zs k hlt)
      go_wp2
      go_round
      case rel => exact ⟨k + 1, by omega, by go_num, by rw [← H2.out]⟩
      case measure => simp [intOf]; omega
    · go_wp2
      go_ret
      exact ⟨ret_int (by rw [List.take_of_length_le (by omega)]), rfl⟩

def rngB (x : Int) : Bool := inB x (-1000000) 1000000
def blendZ (x0 y0 x1 y1 x : Int) : Int := if (rngB x0 && rngB x1 && rngB y0 && rngB y1) = true then lineZ x0 y0 x1 y1 x else 0

def min4 (x a b c : Int) : Int := min (min (min x a) b) c
theorem least3 (x a b c : Int) (g : Nat) (w : World) (h0 : w.cell? ⟨g, 0, none⟩ = some (.int .i64 a)) (h1 : w.cell? ⟨g, 1, none⟩ = some (.int .i64 b)) (h2 : w.cell? ⟨g, 2, none⟩ = some (.int .i64 c)) :
    Calls Tryd.prog 129 #[.int .i64 x, .slice (some ⟨g, 0, none⟩) 3 3] w fun e w' =>
      e = .returned (.int .i64 (min4 x a b c)) ∧ w = w' := by
  refine least_any x [a, b, c] g _ (by simp) (fun k hk => ?_)
  have hk : k < 3 := hk
  obtain rfl | rfl | rfl : k = 0 ∨ k = 1 ∨ k = 2 := by omega
  · exact h0
  · exact h1
  · exact h2

def max4 (x a b c : Int) : Int := max (max (max x a) b) c
theorem greatest3 (x a b c : Int) (g : Nat) (w : World) (h0 : w.cell? ⟨g, 0, none⟩ = some (.int .i64 a)) (h1 : w.cell? ⟨g, 1, none⟩ = some (.int .i64 b)) (h2 : w.cell? ⟨g, 2, none⟩ = some (.int .i64 c)) :
    Calls Tryd.prog 130 #[.int .i64 x, .slice (some ⟨g, 0, none⟩) 3 3] w fun e w' =>
      e = .returned (.int .i64 (max4 x a b c)) ∧ w = w' := by
  refine greatest_any x [a, b, c] g _ (by simp) (fun k hk => ?_)
  have hk : k < 3 := hk
  obtain rfl | rfl | rfl : k = 0 ∨ k = 1 ∨ k = 2 := by omega
  · exact h0
  · exact h1
  · exact h2

end Go.Proofs.YtobhmoohalkijaaDoor
