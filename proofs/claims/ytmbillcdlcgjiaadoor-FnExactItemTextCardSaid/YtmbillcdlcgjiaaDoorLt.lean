/- listsText, by the program: the texts of lists, semicolons between. -/
import Derived.Test.YtmbillcdlcgjiaaDoorListText
import Derived.Test.YtmbillcdlcgjiaaDoorRg2
namespace Go.Proofs.YtmbillcdlcgjiaaDoor
open Go.ChangeShapes Go.WideShapes Go.ChangeAt Go.RowKit
set_option linter.unusedVariables false
set_option linter.unusedSimpArgs false
set_option maxRecDepth 100000

theorem join_snocL (c : UInt8) (x : List UInt8) (r : List (List UInt8)) (y : List UInt8) : Lib.join ((x :: r) ++ [y]) [c] = Lib.join (x :: r) [c] ++ (c :: y) := by
  rw [List.cons_append, Lib.join_cons, Lib.join_cons]; simp [Lib.joinTail]
/-- the texts of the first k lists -/
def lsQ (P : List (List Int)) (k : Nat) : List (List UInt8) := (P.take k).map textE
def lsT (P : List (List Int)) (k : Nat) : List UInt8 := Lib.join (lsQ P k) [59]
theorem lsQ_succ (P : List (List Int)) (k : Nat) (h : k < P.length) : lsQ P (k + 1) = lsQ P k ++ [textE (P.getD k [])] := by
  unfold lsQ
  rw [List.take_succ_eq_append_getElem h, List.map_append]
  simp [List.getD, List.getElem?_eq_getElem h]
theorem lsQ_len (P : List (List Int)) (k : Nat) (h : k ≤ P.length) : (lsQ P k).length = k := by simp [lsQ]; omega
theorem lsT_one (P : List (List Int)) (h : 0 < P.length) : lsT P (0 + 1) = textE (P.getD 0 []) := by
  unfold lsT
  rw [lsQ_succ P 0 h]
  show Lib.join [textE (P.getD 0 [])] [59] = _
  rw [Lib.join_cons]; simp [Lib.joinTail]
theorem lsT_succ (P : List (List Int)) (k : Nat) (h0 : 0 < k) (h : k < P.length) : lsT P (k + 1) = lsT P k ++ [59] ++ textE (P.getD k []) := by
  unfold lsT
  rw [lsQ_succ P k h]
  have hl := lsQ_len P k (by omega)
  cases hq : lsQ P k with
  | nil => rw [hq] at hl; simp at hl; omega
  | cons x r => rw [join_snocL]; simp
theorem fit_textL {zs : List Int} (h : fitL zs = true) : textL zs = textE zs := by
  unfold textL
  rw [if_pos h]
theorem fit_textlen {zs : List Int} (h : fitL zs = true) : (textE zs).length ≤ 1408 := by
  have h8 := fit_all zs h
  have hj := joinL_len zs h8.2
  have h9 := h8.1
  unfold textE
  split
  · simp
  · omega
theorem lsT_len {P : List (List Int)} (hp : ∀ k, k < P.length → fitL (P.getD k []) = true) : ∀ k, k ≤ P.length → (lsT P k).length ≤ 1409 * k := by
  intro k
  induction k with
  | zero => intro _; simp [lsT, lsQ]; rfl
  | succ k ih =>
    intro hk
    have h1 := ih (by omega)
    have h2 := fit_textlen (hp k (by omega))
    by_cases h0 : k = 0
    · subst h0
      rw [lsT_one P (by omega)]; omega
    · rw [lsT_succ P k (by omega) (by omega), List.length_append, List.length_append, List.length_singleton]; omega
theorem make_strsL (w : World) (n : Nat) (hn : n ≤ 1048576) : ∃ w', (Instr.makeSlice 45 (.int .i64 0) (.int .i64 (n : Int))).run Tryd.prog w = .ok (.slice (some ⟨w.heap.size, 0, none⟩) 0 n) w' ∧
    w'.ownsRow w.heap.size 9 1 (.slice (some ⟨w.heap.size, 0, none⟩) 0 n) 0 [] ∧ w.grownBy w' none := by
  obtain ⟨i0, hi, hz0, hz1, hz2⟩ := info_parts infoStr
  exact run_make_own w w.heap.size 45 9 i0 (.string ByteArray.empty) 1 Tryd.underlying45 hi hz0 hz1 .i64 .i64 n (by rw [hz2]; omega) (by unfold maxLen; omega) (Nat.le_refl _)
/-- strings.Join at any row of texts -/
theorem join_anyL (g cap : Nat) (base : Nat) (ps : List (List UInt8)) (c : UInt8) (w : World) (h : w.ownsRow base 9 1 (.slice (some ⟨g, 0, none⟩) ps.length cap) ps.length (strs ps)) (h0 : 0 < ps.length) (hn : ps.length ≤ 1048576) (hl : (Lib.join ps [c]).length ≤ 140737488355328) :
    Calls Tryd.prog 28 #[.slice (some ⟨g, 0, none⟩) ps.length cap, .string ⟨#[c]⟩] w fun e w' => e = .returned (.string ⟨(Lib.join ps [c]).toArray⟩) ∧ Below w.heap.size w w' := by
  obtain ⟨g', cap', hv, hg1, hg2⟩ := h.form h0
  obtain ⟨rfl, rfl⟩ : g = g' ∧ cap = cap' := by
    injection hv with h1 _ h3
    injection h1 with h1
    injection h1 with h1
    exact ⟨h1, h3⟩
  have hcap : ps.length ≤ cap := by
    rcases h.2 with ⟨h, _⟩ | ⟨g', cap', cur, h, _, _, h2, _⟩
    · cases h
    · simp only [Value.slice.injEq] at h; omega
  have HC := str_cells h
  have e : (ps.map fun l => (⟨l.toArray⟩ : ByteArray)).map (·.data.toList) = ps := by rw [List.map_map]; simp [Function.comp_def]
  have := Tryd.strings_Join g 0 cap (ps.map fun l => ⟨l.toArray⟩) ⟨#[c]⟩ w (fun j x hx => by
    rw [Nat.zero_add]
    have hj : j < ps.length := by
      rcases Nat.lt_or_ge j ps.length with h | h
      · exact h
      · rw [List.getElem?_eq_none (by simpa using h)] at hx; cases hx
    rw [HC j hj]
    rw [List.getElem?_map, List.getElem?_eq_getElem hj] at hx
    simp only [Option.map_some, Option.some.injEq] at hx
    rw [← hx]
    simp [List.getD, List.getElem?_eq_getElem hj]) hg2 (by simp; omega) (by simpa using hcap) (by
      rw [e]; exact hl)
  rw [e, List.length_map] at this
  exact this
end Go.Proofs.YtmbillcdlcgjiaaDoor
