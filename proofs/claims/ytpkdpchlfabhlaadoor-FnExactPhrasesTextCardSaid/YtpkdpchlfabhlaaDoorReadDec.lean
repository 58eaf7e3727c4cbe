/- ReadDecimal on both sides: the number with a decimal form. -/
import Derived.Test.YtpkdpchlfabhlaaDoorName
import Derived.Test.YtpkdpchlfabhlaaDoorReadMath
namespace Go.Proofs.YtpkdpchlfabhlaaDoor
open Go.ChangeShapes Go.WideShapes Go.ChangeAt Go.RowKit
set_option linter.unusedVariables false
set_option linter.unusedSimpArgs false
set_option maxRecDepth 100000

def resN (o : Option Int) : Value := .tuple #[.int .i64 (o.getD 0), .bool o.isSome]
theorem ret_none {o : Option Int} (h : o = none) : Ending.returned (.tuple #[.int .i64 0, .bool false]) = .returned (resN o) := by rw [h]; rfl
theorem ret_some {o : Option Int} {v : Int} (h : o = some v) : Ending.returned (.tuple #[.int .i64 v, .bool true]) = .returned (resN o) := by rw [h]; rfl

theorem num_drop (l : List UInt8) (A : Nat) (h : (A = 1 ∧ l.head? = some 45) ∨ (A = 0 ∧ l.head? ≠ some 45)) :
    numZ l = if l.drop A = [] ∨ 18 < (l.drop A).length ∨ ((l.drop A).head? = some 48 ∧ 1 < l.length) ∨ (l.drop A).all isD = false then none
      else some (if A = 1 then -(valFrom 0 (l.drop A) : Int) else (valFrom 0 (l.drop A) : Int)) := by
  rcases h with ⟨rfl, h⟩ | ⟨rfl, h⟩
  · unfold numZ; simp only [if_pos h, List.drop_one, if_true]
  · unfold numZ; simp [if_neg h]
theorem byte_get (s : ByteArray) (k : Nat) (h : k < s.size) : s.data.toList[k]? = some s[k] := by
  rw [List.getElem?_eq_getElem (by simpa using h)]; rfl
theorem head_of (s : ByteArray) (A : Nat) (h : A < s.size) : (s.data.toList.drop A).head? = some s[A] := by
  rw [List.head?_drop]; exact byte_get s A h
theorem len_of (s : ByteArray) : s.data.toList.length = s.size := Array.length_toList
theorem drop_take_succ (s : ByteArray) (A j : Nat) (h1 : A ≤ j) (h2 : j < s.size) : (s.data.toList.drop A).take (j + 1 - A) = (s.data.toList.drop A).take (j - A) ++ [s[j]] := by
  rw [show j + 1 - A = (j - A) + 1 by omega, List.take_add_one, List.getElem?_drop, show A + (j - A) = j by omega, byte_get s j h2]; rfl
theorem isD_dg (c : UInt8) : isD c = dgB ((c.toNat : Nat) : Int) := by
  unfold isD dgB; congr 1; simp; omega
theorem val_take_lt (r : List UInt8) (h : r.all isD = true) (hl : r.length ≤ 17) : valFrom 0 r ≤ 99999999999999999 := by
  have h1 := val_lt r h
  have h2 : 10 ^ r.length ≤ 10 ^ 17 := Nat.pow_le_pow_right (by omega) hl
  omega

end Go.Proofs.YtpkdpchlfabhlaaDoor
