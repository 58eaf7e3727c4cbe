/- The model's CompareRatios and octaves. -/
import Derived.Test.YtobhmoohalkijaaDoorRatM
import Derived.Test.YtobhmoohalkijaaDoorOctMath
namespace Go.Proofs.YtobhmoohalkijaaDoor
open Go.ChangeShapes Go.WideShapes Go.ChangeAt Go.RowKit
set_option linter.unusedVariables false
set_option linter.unusedSimpArgs false
set_option maxRecDepth 100000

set_option maxHeartbeats 1000000 in
theorem spec_cmp0 (g h o q : Nat) (n d m e : Int) (w : World) (a0 : w.cell? ⟨g, o, none⟩ = some (.int .i64 n)) (a1 : w.cell? ⟨g, o + 1, none⟩ = some (.int .i64 d))
    (b0 : w.cell? ⟨h, q, none⟩ = some (.int .i64 m)) (b1 : w.cell? ⟨h, q + 1, none⟩ = some (.int .i64 e))
    (hn : 1 ≤ n ∧ n ≤ 1000000) (hd : 1 ≤ d ∧ d ≤ 1000000) (hm : 1 ≤ m ∧ m ≤ 1000000) (he : 1 ≤ e ∧ e ≤ 1000000) :
    Calls Tryd.prog 87 #[.pointer (some ⟨g, o, none⟩), .pointer (some ⟨h, q, none⟩)] w fun r w' => r = .returned (.int .i64 (cmpR n d m e)) ∧ ∃ k, w' = w.drewN k := by
  obtain ⟨x1, x2⟩ := mul_rng hn he
  obtain ⟨y1, y2⟩ := mul_rng hm hd
  have HC : Bx (cmpR n d m e = if n * e < m * d then -1 else if m * d < n * e then 1 else 0) := Bx.mk rfl
  have E1 : IntKind.i64.wrap (n * e) = n * e := IntWalk.i64_in _ (by omega)
  have E2 : IntKind.i64.wrap (m * d) = m * d := IntWalk.i64_in _ (by omega)
  clear hn hd hm he
  go_enter Tryd.func87, Tryd.ntmps87
  go_wp2_with (fail)
  go_quiet (fail)
  go_wp2_with (fail)
  go_quiet (fail)
  clear E1 E2
  generalize n * e = x at *
  generalize m * d = y at *
  by_cases h1 : x < y
  · have H := Bx.mk (HC.out.trans (if_pos h1))
    go_wp2_with (fail)
    go_ret
    exact ⟨ret_int H.out.symm, _, rfl⟩
  · have HC2 := Bx.mk (HC.out.trans (if_neg h1))
    by_cases h2 : y < x
    · have H := Bx.mk (HC2.out.trans (if_pos h2))
      go_wp2_with (fail)
      go_ret
      exact ⟨ret_int H.out.symm, _, rfl⟩
    · have H := Bx.mk (HC2.out.trans (if_neg h2))
      go_wp2_with (fail)
      go_ret
      exact ⟨ret_int H.out.symm, _, rfl⟩

/-- what a pair of loops finds -/
def OctOut (t : Int × Int × Int) (w : World) (e : Ending) (w' : World) : Prop := e = .returned (.tuple #[.int .i64 t.1, .int .i64 t.2.1, .int .i64 t.2.2]) ∧ ∃ k, w' = w.drewN k
theorem oct_out {n d a b c : Int} {w : World} {k : Nat} (hn : 1 ≤ n) (hd : 1 ≤ d) (h : OctP n d a b c) : OctOut (octN n d) w (.returned (.tuple #[.int .i64 a, .int .i64 b, .int .i64 c])) (w.drewN k) := by
  rw [octN_eq hn hd h]; exact ⟨rfl, k, rfl⟩
end Go.Proofs.YtobhmoohalkijaaDoor
