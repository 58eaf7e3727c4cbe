/- Contracts of the number functions of chapter 1. -/
import Derived.Test.YtendfnimhmnioaaDoorKit
import Derived.Test.YtendfnimhmnioaaDoorMath
namespace Go.Proofs.YtendfnimhmnioaaDoor
open Go.ChangeShapes Go.WideShapes Go.ChangeAt Go.RowKit
set_option linter.unusedVariables false
set_option linter.unusedSimpArgs false
set_option maxRecDepth 100000

def inB (x lo hi : Int) : Bool := decide (lo ≤ x ∧ x ≤ hi)
theorem inB_yes {x lo hi : Int} (h : inB x lo hi = true) : lo ≤ x ∧ x ≤ hi := by simpa [inB] using h
theorem inB_no {x lo hi : Int} (h : inB x lo hi = false) : x < lo ∨ hi < x := by simp [inB] at h; omega
theorem inB_mk {x lo hi : Int} (h : lo ≤ x ∧ x ≤ hi) : inB x lo hi = true := by simpa [inB] using h

theorem in_any (x lo hi : Int) (w : World) :
    Calls Tryd.prog 50 #[.int .i64 x, .int .i64 lo, .int .i64 hi] w fun e w' => e = .returned (.bool (inB x lo hi)) ∧ w = w' := by
  cases hb : inB x lo hi
  · have h := inB_no hb
    clear hb
    by_cases h1 : lo ≤ x
    · have h2 : ¬ x ≤ hi := by omega
      clear h
      go_enter Tryd.func50, Tryd.ntmps50
      go_wp2
      go_ret
      exact ⟨rfl, rfl⟩
    · clear h
      go_enter Tryd.func50, Tryd.ntmps50
      go_wp2
      go_ret
      exact ⟨rfl, rfl⟩
  · obtain ⟨h1, h2⟩ := inB_yes hb
    clear hb
    go_enter Tryd.func50, Tryd.ntmps50
    go_wp2
    go_ret
    exact ⟨rfl, rfl⟩

/-! DivRound on both sides -/
def valB (x : Int) : Bool := inB x (-1000000000000) 1000000000000
def dround (a b : Int) : Int := if (b == 0 || !valB a || !valB b) = true then 0 else dv a b

end Go.Proofs.YtendfnimhmnioaaDoor
