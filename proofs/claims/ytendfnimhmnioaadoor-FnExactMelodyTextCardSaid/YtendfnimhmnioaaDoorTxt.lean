/- Texts by the library alone: decimal forms, rows of texts, strings.Join (no chapter's functions). -/
import Derived.Test.YtendfnimhmnioaaDoorSplit
import Derived.Test.YtendfnimhmnioaaDoorTabs
import Derived.Test.YtendfnimhmnioaaDoorShelf
import Derived.Lib.AppendIntMem
import Derived.Lib.AtoiErrMem
import Derived.Lib.Join
namespace Go.Proofs.YtendfnimhmnioaaDoor
open Go.ChangeShapes Go.WideShapes Go.ChangeAt Go.RowKit
set_option linter.unusedVariables false
set_option linter.unusedSimpArgs false
set_option maxRecDepth 100000

theorem impl_dec9 (n : Int) (w : World) (h : Bx (-9223372036854775808 ≤ n ∧ n ≤ 9223372036854775807)) (htab : Bx (Lib.TabIs Tryd.prog w "internal/strconv.uint64pow10" .u64 Lib.pow10Tab)) :
    Calls Tryd.prog 74 #[.int .i64 n] w fun e w' => e = .returned (.string ⟨(Lib.itoa n).toArray⟩) ∧ Below w.heap.size w w' := by
  go_enter Tryd.func74, Tryd.ntmps74
  go_wp2_with ((go_at_call 90; refine (Tryd.strconv_FormatInt_10 _ h.out.1 h.out.2 _ htab.out).mono ?_; rintro e w' ⟨rfl, k, os, rfl⟩))
  go_ret
  exact ⟨rfl, Lib.below_grow _ _ (Nat.le_refl _) _ _⟩
theorem str_cells9 {w : World} {base g cap : Nat} {ps : List (List UInt8)} (h : w.ownsRow base 9 1 (.slice (some ⟨g, 0, none⟩) ps.length cap) ps.length (strs ps)) :
    ∀ k, k < ps.length → w.cell? ⟨g, k, none⟩ = some (.string ⟨(ps.getD k []).toArray⟩) := fun k hk => by
  rw [h.cellAt k (by omega)]
  simp [strs, hk]
theorem make_strs9 (w : World) (n : Nat) (hn : n ≤ 1048576) : ∃ w', (Instr.makeSlice 67 (.int .i64 0) (.int .i64 (n : Int))).run Tryd.prog w = .ok (.slice (some ⟨w.heap.size, 0, none⟩) 0 n) w' ∧
    w'.ownsRow w.heap.size 9 1 (.slice (some ⟨w.heap.size, 0, none⟩) 0 n) 0 [] ∧ w.grownBy w' none := by
  obtain ⟨i0, hi, hz0, hz1, hz2⟩ := info_parts infoStr
  exact run_make_own w w.heap.size 67 9 i0 (.string ByteArray.empty) 1 Tryd.underlying67 hi hz0 hz1 .i64 .i64 n (by rw [hz2]; omega) (by unfold maxLen; omega) (Nat.le_refl _)
theorem join_any9 (g cap : Nat) (base : Nat) (ps : List (List UInt8)) (c : UInt8) (w : World) (h : w.ownsRow base 9 1 (.slice (some ⟨g, 0, none⟩) ps.length cap) ps.length (strs ps)) (h0 : 0 < ps.length) (hn : ps.length ≤ 1048576) (hl : (Lib.join ps [c]).length ≤ 140737488355328) :
    Calls Tryd.prog 59 #[.slice (some ⟨g, 0, none⟩) ps.length cap, .string ⟨#[c]⟩] w fun e w' => e = .returned (.string ⟨(Lib.join ps [c]).toArray⟩) ∧ Below w.heap.size w w' := by
  obtain ⟨g', cap', hv, hg1, hg2⟩ := h.form h0
  obtain ⟨rfl, rfl⟩ : g = g' ∧ cap = cap' := by
    injection hv with h1 _ h3
    injection h1 with h1
    injection h1 with h1
    exact ⟨h1, h3⟩
  have hcap : ps.length ≤ cap := by
    rcases h.2 with ⟨h, _⟩ | ⟨g', cap', cur, h, _, _, h2, _⟩
    · cases h
    · simp only [Value.slice.injEq] at h; omega
  have HC := str_cells9 h
  have e : (ps.map fun l => (⟨l.toArray⟩ : ByteArray)).map (·.data.toList) = ps := by rw [List.map_map]; simp [Function.comp_def]
  have := Tryd.strings_Join g 0 cap (ps.map fun l => ⟨l.toArray⟩) ⟨#[c]⟩ w (fun j x hx => by
    rw [Nat.zero_add]
    have hj : j < ps.length := by
      rcases Nat.lt_or_ge j ps.length with h | h
      · exact h
      · rw [List.getElem?_eq_none (by simpa using h)] at hx; cases hx
    rw [HC j hj]
    rw [List.getElem?_map, List.getElem?_eq_getElem hj] at hx
    simp only [Option.map_some, Option.some.injEq] at hx
    rw [← hx]
    simp [List.getD, List.getElem?_eq_getElem hj]) hg2 (by simp; omega) (by simpa using hcap) (by
      rw [e]; exact hl)
  rw [e, List.length_map] at this
  exact this
end Go.Proofs.YtendfnimhmnioaaDoor
