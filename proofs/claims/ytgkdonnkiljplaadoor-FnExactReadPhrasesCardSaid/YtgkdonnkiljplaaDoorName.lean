/- Contracts of the name tests on both sides. -/
import Derived.Test.YtgkdonnkiljplaaDoorKit
import Derived.LoopTactic
namespace Go.Proofs.YtgkdonnkiljplaaDoor
open Go.ChangeShapes Go.WideShapes Go.ChangeAt Go.RowKit
set_option linter.unusedVariables false
set_option linter.unusedSimpArgs false
set_option maxRecDepth 100000

def smB (c : Int) : Bool := decide (97 ≤ c ∧ c ≤ 122)
def dgB (c : Int) : Bool := decide (48 ≤ c ∧ c ≤ 57)
def okc (c : UInt8) : Bool := smB (c.toNat : Int) || dgB (c.toNat : Int)
def nmB (l : List UInt8) : Bool := match l with
  | [] => false
  | c :: r => decide ((c :: r).length ≤ 10) && smB (c.toNat : Int) && (c :: r).all okc

theorem spec_digit (c : Int) (w : World) : Calls Tryd.prog 34 #[.int .u8 c] w fun e w' => e = .returned (.bool (dgB c)) ∧ w = w' := by
  cases hb : dgB c
  · by_cases h1 : 48 ≤ c
    · have h2 : ¬ c ≤ 57 := by simp [dgB] at hb; omega
      clear hb
      go_enter Tryd.func34, Tryd.ntmps34
      go_wp2
      go_ret
      exact ⟨rfl, rfl⟩
    · clear hb
      go_enter Tryd.func34, Tryd.ntmps34
      go_wp2
      go_ret
      exact ⟨rfl, rfl⟩
  · obtain ⟨h1, h2⟩ : 48 ≤ c ∧ c ≤ 57 := by simpa [dgB] using hb
    clear hb
    go_enter Tryd.func34, Tryd.ntmps34
    go_wp2
    go_ret
    exact ⟨rfl, rfl⟩
theorem nm_long (s : ByteArray) (h : 10 < s.size) : nmB s.data.toList = false := by
  have h' : 10 < s.data.toList.length := by simpa using h
  unfold nmB; split
  · rfl
  · rename_i c r e; rw [← e]; simp; omega
theorem nm_first (s : ByteArray) (h0 : 0 < s.size) (h : smB ((s[0].toNat : Nat) : Int) = false) : nmB s.data.toList = false := by
  unfold nmB; split
  · rfl
  · rename_i c r e
    have : s[0] = c := by
      have h2 : s.data.toList[0]'(by simpa using h0) = c := by simp [e]
      rw [← h2]; rfl
    rw [this] at h
    simp [h]
theorem nm_rest (s : ByteArray) (h0 : 0 < s.size) (h1 : s.size ≤ 10) (h : smB ((s[0].toNat : Nat) : Int) = true) : nmB s.data.toList = s.data.toList.all okc := by
  have hl : s.data.toList.length ≤ 10 := by simpa using h1
  unfold nmB; split
  · rename_i e; exfalso; have : s.data.toList.length = 0 := by rw [e]; rfl
    have e2 : s.data.toList.length = s.size := Array.length_toList
    omega
  · rename_i c r e
    have : s[0] = c := by
      have h2 : s.data.toList[0]'(by simpa using h0) = c := by simp [e]
      rw [← h2]; rfl
    rw [this] at h
    rw [h]
    rw [e] at hl ⊢
    rw [decide_eq_true hl]; rfl
theorem take_byte (s : ByteArray) (k : Nat) (h : k < s.size) : s.data.toList.take (k + 1) = s.data.toList.take k ++ [s[k]] := by
  rw [List.take_succ_eq_append_getElem (by simpa using h)]; rfl
theorem all_no (s : ByteArray) (k : Nat) (h : k < s.size) (hk : okc s[k] = false) : s.data.toList.all okc = false := by
  rw [List.all_eq_false]
  exact ⟨s[k], by
    have : s[k] = s.data.toList[k]'(by simpa using h) := rfl
    rw [this]; exact List.getElem_mem _, by simp [hk]⟩

end Go.Proofs.YtgkdonnkiljplaaDoor
