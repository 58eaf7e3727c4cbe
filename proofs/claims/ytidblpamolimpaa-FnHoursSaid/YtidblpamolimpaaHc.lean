/- The laws' own copies of items. -/
import Derived.Test.YtidblpamolimpaaHb
import Derived.Test.YtidblpamolimpaaRg3
import Derived.Handy
namespace Go.Proofs.Ytidblpamolimpaa
open Go.ChangeShapes Go.WideShapes Go.ChangeAt Go.RowKit
set_option linter.unusedVariables false
set_option linter.unusedSimpArgs false
set_option maxRecDepth 100000

theorem infoItL : (Try.prog.info? 25).map (fun i => (i.zero, i.size, i.bytes)) = some (some (.agg #[.string ⟨#[]⟩, .int .i64 0, .int .i64 0, .int .i64 0, .int .i64 0, .int .i64 0]), 6, 56) := by kernel_rfl
theorem made_six (n : Nat) : (madeCells #[.string ⟨#[]⟩, .int .i64 0, .int .i64 0, .int .i64 0, .int .i64 0, .int .i64 0] (n * 6)).toList = icl (List.replicate n it0) := by
  have key : ∀ j, j < n * 6 → (madeCells #[.string ⟨#[]⟩, .int .i64 0, .int .i64 0, .int .i64 0, .int .i64 0, .int .i64 0] (n * 6)).toList[j]? = (icl (List.replicate n it0))[j]? := by
    intro j hj
    obtain ⟨q, r, rfl, hr⟩ : ∃ q r, j = q * 6 + r ∧ r < 6 := ⟨j / 6, j % 6, by omega, by omega⟩
    have hlt : q < (List.replicate n it0).length := by simp; omega
    obtain ⟨a0, a1, a2, a3, a4, a5⟩ := icl_at (List.replicate n it0) q hlt
    have hi : iat (List.replicate n it0) q = it0 := by rw [iat_get hlt]; simp
    rw [hi] at a0 a1 a2 a3 a4 a5
    have hr6 : r = 0 ∨ r = 1 ∨ r = 2 ∨ r = 3 ∨ r = 4 ∨ r = 5 := by omega
    rcases hr6 with rfl | rfl | rfl | rfl | rfl | rfl
    · rw [Nat.add_zero, a0]
      have e : (q * 6) % 6 = 0 := by omega
      rw [Nat.add_zero] at hj
      simp [madeCells, hj, e, it0]
    · rw [a1]
      have e : (q * 6 + 1) % 6 = 1 := by omega
      simp [madeCells, hj, e, it0]
    · rw [a2]
      have e : (q * 6 + 2) % 6 = 2 := by omega
      simp [madeCells, hj, e, it0]
    · rw [a3]
      have e : (q * 6 + 3) % 6 = 3 := by omega
      simp [madeCells, hj, e, it0]
    · rw [a4]
      have e : (q * 6 + 4) % 6 = 4 := by omega
      simp [madeCells, hj, e, it0]
    · rw [a5]
      have e : (q * 6 + 5) % 6 = 5 := by omega
      simp [madeCells, hj, e, it0]
  apply List.ext_getElem?
  intro j
  by_cases hj : j < n * 6
  · exact key j hj
  · rw [List.getElem?_eq_none (by rw [Array.length_toList, size_madeCells]; omega), List.getElem?_eq_none (by rw [icl_len]; simp; omega)]
theorem zero_irow (w : World) (n : Nat) (hn : n ≤ 1048576) : (Instr.makeSlice 32 (.int .i64 (n : Int)) (.int .i64 (n : Int))).run Try.prog w = .ok (.slice (some ⟨w.heap.size, 0, none⟩) n n) (w.alloc (.cells (madeCells #[.string ⟨#[]⟩, .int .i64 0, .int .i64 0, .int .i64 0, .int .i64 0, .int .i64 0] (n * 6)) 25)) := by
  obtain ⟨i0, hi, hz0, hz1, hz2⟩ := info_parts infoItL
  have := run_make (P := Try.prog) w 32 25 i0 (.agg #[.string ⟨#[]⟩, .int .i64 0, .int .i64 0, .int .i64 0, .int .i64 0, .int .i64 0]) Try.underlying32 hi hz0 .i64 .i64 (n : Int) (n : Int) (by omega) (by omega) (by rw [hz2]; omega) (by omega)
  rw [this, hz1]
  simp [Value.cells]
def ifil (l : List It) (i : Nat) : List It := l.take i ++ List.replicate (l.length - i) it0
theorem ifil_len (l : List It) (i : Nat) (h : i ≤ l.length) : (ifil l i).length = l.length := by simp [ifil]; omega
theorem ifil_zero (l : List It) : ifil l 0 = List.replicate l.length it0 := by simp [ifil]
theorem ifil_all (l : List It) : ifil l l.length = l := by simp [ifil]
theorem ifil_step (l : List It) (i : Nat) (h : i < l.length) : (ifil l i).set i (iat l i) = ifil l (i + 1) := by
  unfold ifil
  rw [show l.length - i = (l.length - (i + 1)) + 1 by omega, List.replicate_succ, List.set_append_right _ _ (by rw [List.length_take]; omega), show i - (l.take i).length = 0 by rw [List.length_take]; omega, List.set_cons_zero, iat_get h, List.take_succ_eq_append_getElem h, List.append_assoc]
  rfl
/-- an item stored into a row of one's own -/
theorem own_item {w : World} {base g : Nat} {l : List It} {c n : Nat} (hn : n = l.length) (h : w.ownsRow base 25 6 (.slice (some ⟨g, 0, none⟩) n c) n (icl l)) (k : Nat) (hk : k < l.length) (x : It) :
    ((((((w.setCell ⟨g, k * 6, none⟩ (.string x.nm)).setCell ⟨g, k * 6 + 1, none⟩ (.int .i64 x.f)).setCell ⟨g, k * 6 + 2, none⟩ (.int .i64 x.u)).setCell ⟨g, k * 6 + 3, none⟩ (.int .i64 x.s)).setCell ⟨g, k * 6 + 4, none⟩ (.int .i64 x.m)).setCell ⟨g, k * 6 + 5, none⟩ (.int .i64 x.p)).ownsRow base 25 6 (.slice (some ⟨g, 0, none⟩) n c) n (icl (l.set k x)) := by
  have s0 := h.stored (k * 6) (.string x.nm)
  have s1 := s0.1.stored (k * 6 + 1) (.int .i64 x.f)
  have s2 := s1.1.stored (k * 6 + 2) (.int .i64 x.u)
  have s3 := s2.1.stored (k * 6 + 3) (.int .i64 x.s)
  have s4 := s3.1.stored (k * 6 + 4) (.int .i64 x.m)
  have s5 := s4.1.stored (k * 6 + 5) (.int .i64 x.p)
  rw [icl_set _ _ _ hk] at s5
  exact s5.1
end Go.Proofs.Ytidblpamolimpaa
