/- listsText, by the program: the texts of lists, semicolons between. -/
import Derived.Test.YtpkdpchlfabhlaaDoorListText
import Derived.Test.YtpkdpchlfabhlaaDoorRg2
namespace Go.Proofs.YtpkdpchlfabhlaaDoor
open Go.ChangeShapes Go.WideShapes Go.ChangeAt Go.RowKit
set_option linter.unusedVariables false
set_option linter.unusedSimpArgs false
set_option maxRecDepth 100000

theorem join_snocL (c : UInt8) (x : List UInt8) (r : List (List UInt8)) (y : List UInt8) : Lib.join ((x :: r) ++ [y]) [c] = Lib.join (x :: r) [c] ++ (c :: y) := by
  rw [List.cons_append, Lib.join_cons, Lib.join_cons]; simp [Lib.joinTail]
/-- the texts of the first k lists -/
def lsQ (P : List (List Int)) (k : Nat) : List (List UInt8) := (P.take k).map textE
def lsT (P : List (List Int)) (k : Nat) : List UInt8 := Lib.join (lsQ P k) [59]
theorem lsQ_succ (P : List (List Int)) (k : Nat) (h : k < P.length) : lsQ P (k + 1) = lsQ P k ++ [textE (P.getD k [])] := by
  unfold lsQ
  rw [List.take_succ_eq_append_getElem h, List.map_append]
  simp [List.getD, List.getElem?_eq_getElem h]
theorem lsQ_len (P : List (List Int)) (k : Nat) (h : k ≤ P.length) : (lsQ P k).length = k := by simp [lsQ]; omega
theorem lsT_one (P : List (List Int)) (h : 0 < P.length) : lsT P (0 + 1) = textE (P.getD 0 []) := by
  unfold lsT
  rw [lsQ_succ P 0 h]
  show Lib.join [textE (P.getD 0 [])] [59] = _
  rw [Lib.join_cons]; simp [Lib.joinTail]
theorem lsT_succ (P : List (List Int)) (k : Nat) (h0 : 0 < k) (h : k < P.length) : lsT P (k + 1) = lsT P k ++ [59] ++ textE (P.getD k []) := by
  unfold lsT
  rw [lsQ_succ P k h]
  have hl := lsQ_len P k (by omega)
  cases hq : lsQ P k with
  | nil => rw [hq] at hl; simp at hl; omega
  | cons x r => rw [join_snocL]; simp
theorem fit_textL {zs : List Int} (h : fitL zs = true) : textL zs = textE zs := by
  unfold textL
  rw [if_pos h]
theorem fit_textlen {zs : List Int} (h : fitL zs = true) : (textE zs).length ≤ 1408 := by
  have h8 := fit_all zs h
  have hj := joinL_len zs h8.2
  have h9 := h8.1
  unfold textE
  split
  · simp
  · omega
theorem lsT_len {P : List (List Int)} (hp : ∀ k, k < P.length → fitL (P.getD k []) = true) : ∀ k, k ≤ P.length → (lsT P k).length ≤ 1409 * k := by
  intro k
  induction k with
  | zero => intro _; simp [lsT, lsQ]; rfl
  | succ k ih =>
    intro hk
    have h1 := ih (by omega)
    have h2 := fit_textlen (hp k (by omega))
    by_cases h0 : k = 0
    · subst h0
      rw [lsT_one P (by omega)]; omega
    · rw [lsT_succ P k (by omega) (by omega), List.length_append, List.length_append, List.length_singleton]; omega
theorem make_strsL (w : World) (n : Nat) (hn : n ≤ 1048576) : ∃ w', (Instr.makeSlice 35 (.int .i64 0) (.int .i64 (n : Int))).run Tryd.prog w = .ok (.slice (some ⟨w.heap.size, 0, none⟩) 0 n) w' ∧
    w'.ownsRow w.heap.size 9 1 (.slice (some ⟨w.heap.size, 0, none⟩) 0 n) 0 [] ∧ w.grownBy w' none := by
  obtain ⟨i0, hi, hz0, hz1, hz2⟩ := info_parts infoStr
  exact run_make_own w w.heap.size 35 9 i0 (.string ByteArray.empty) 1 Tryd.underlying35 hi hz0 hz1 .i64 .i64 n (by rw [hz2]; omega) (by unfold maxLen; omega) (Nat.le_refl _)
/-- strings.Join at any row of texts -/
theorem join_anyL (g cap : Nat) (base : Nat) (ps : List (List UInt8)) (c : UInt8) (w : World) (h : w.ownsRow base 9 1 (.slice (some ⟨g, 0, none⟩) ps.length cap) ps.length (strs ps)) (h0 : 0 < ps.length) (hn : ps.length ≤ 1048576) (hl : (Lib.join ps [c]).length ≤ 140737488355328) :
    Calls Tryd.prog 22 #[.slice (some ⟨g, 0, none⟩) ps.length cap, .string ⟨#[c]⟩] w fun e w' => e = .returned (.string ⟨(Lib.join ps [c]).toArray⟩) ∧ Below w.heap.size w w' := by
  obtain ⟨g', cap', hv, hg1, hg2⟩ := h.form h0
  obtain ⟨rfl, rfl⟩ : g = g' ∧ cap = cap' := by
    injection hv with h1 _ h3
    injection h1 with h1
    injection h1 with h1
    exact ⟨h1, h3⟩
  have hcap : ps.length ≤ cap := by
    rcases h.2 with ⟨h, _⟩ | ⟨g', cap', cur, h, _, _, h2, _⟩
    · cases h
    · simp only [Value.slice.injEq] at h; omega
  have HC := str_cells h
  have e : (ps.map fun l => (⟨l.toArray⟩ : ByteArray)).map (·.data.toList) = ps := by rw [List.map_map]; simp [Function.comp_def]
  have := Tryd.strings_Join g 0 cap (ps.map fun l => ⟨l.toArray⟩) ⟨#[c]⟩ w (fun j x hx => by
    rw [Nat.zero_add]
    have hj : j < ps.length := by
      rcases Nat.lt_or_ge j ps.length with h | h
      · exact h
      · rw [List.getElem?_eq_none (by simpa using h)] at hx; cases hx
    rw [HC j hj]
    rw [List.getElem?_map, List.getElem?_eq_getElem hj] at hx
    simp only [Option.map_some, Option.some.injEq] at hx
    rw [← hx]
    simp [List.getD, List.getElem?_eq_getElem hj]) hg2 (by simp; omega) (by simpa using hcap) (by
      rw [e]; exact hl)
  rw [e, List.length_map] at this
  exact this
set_option maxHeartbeats 4000000 in
theorem impl_lists (v : Value) (P : List (List Int)) (w : World) (h : RowsAt w v P) (h0 : 0 < P.length) (hn : P.length ≤ 1048576) (hP : ∀ k, k < P.length → fitL (P.getD k []) = true) (htab : Bx (Lib.TabIs Tryd.prog w "internal/strconv.uint64pow10" .u64 Lib.pow10Tab)) :
    Calls Tryd.prog 14 #[v] w fun e w' => e = .returned (.string ⟨(lsT P P.length).toArray⟩) ∧ Below w.heap.size w w' := by
  have HI := Bx.mk h
  have HP := Bx.mk hP
  have HTL : Bx ((Lib.join (lsQ P P.length) [59]).length ≤ 140737488355328) := Bx.mk (by have := lsT_len hP P.length (Nat.le_refl _); unfold lsT at this; omega)
  have HE : Bx (lsT P P.length = Lib.join (lsQ P P.length) [59]) := Bx.mk rfl
  obtain ⟨A, c, rfl⟩ := rows_form h
  obtain ⟨i0, hi, hz0, hz1, hz2⟩ := info_parts infoStr
  obtain ⟨wm, hmk, hom, hgm⟩ := make_strsL w P.length hn
  have hbm : Below w.heap.size w wm := (Below.refl _ _).grown hgm (Nat.le_refl _) (fun k hk => by cases hk)
  have HOM := Bx.mk hom
  clear h hP hom hgm
  generalize lsT P P.length = TT at *
  go_enter Tryd.func14, Tryd.ntmps14
  go_wp2_with (fail)
  go_loopw [3, 11] (fun v i wr => ∃ k : Nat, k ≤ P.length ∧ i = .int .i64 k ∧ wr.ownsRow w.heap.size 9 1 v (lsQ P k).length (strs (lsQ P k)) ∧ Below w.heap.size w wr) (fun _ i _ => P.length - (intOf i).toNat)
  case atStart => exact ⟨0, Nat.zero_le _, rfl, HOM.out, hbm⟩
  case round =>
    clear hbm hmk
    obtain ⟨k, hk, rfl, hown, hb⟩ := hrel
    have hsz := hb.size
    by_cases hlt : k < P.length
    · obtain ⟨b, o, rfl, _, lb, hx⟩ := rows_at HI.out (by omega)
      obtain ⟨A1, e1, c1, i1⟩ := hx k hlt
      have c1 : wr.cell? ⟨b, o + k, none⟩ = some (.slice A1 (P.getD k []).length e1) := (hb.cell (p := ⟨b, o + k, none⟩) lb).trans c1
      have hph := HP.out k hlt
      have q2 := impl_listtext _ (P.getD k []) wr (i1.below hb) (by have := (fit_all _ hph).1; omega) (Bx.mk (tab_below hb htab.out))
      rw [fit_textL hph] at q2
      have HS := Bx.mk (lsQ_succ P k hlt)
      have hql := lsQ_len P k hk
      have HL : Bx ((lsQ P k).length ≤ 1048576) := Bx.mk (by omega)
      have k1 : (0 : Int) ≤ (k : Int) := by omega
      have k2 : (k : Int) < (P.length : Int) := by omega
      have d1 : decide ((k : Int) < (P.length : Int)) = true := decide_eq_true k2
      clear hx i1 hph HP HI lb hql HTL
      generalize (P.getD k []).length = n at *
      generalize textE (P.getD k []) = T at *
      go_wp2_with (fail)
      refine q2.mono ?_
      rintro r w4 ⟨rfl, hb4⟩
      have hown4 := own_below hown hb4
      have hb5 := hb.trans (hb4.mono hsz)
      have hsz5 := hb5.size
      clear hb4 hown hb q2
      go_wp2_with ((at_builtin; refine wpList_append_own _ rfl _ _ 35 rfl w.heap.size 9 i0 (.string ByteArray.empty) 1 16 Tryd.underlying35 hi hz0 hz1 hz2 rfl (by decide) _ _ _ rfl (hown4.alloc _) ⟨w4.heap.size, 0, none⟩ 1 1 [.string ⟨T.toArray⟩] rfl rfl (cell_one_new _ _ _) (fun x hx => by simp at hx; subst hx; rfl) (by have := HL.out; unfold maxLen; omega) (by have := HL.out; omega) (by simp; omega) ?_; intro v' w3 hown' hgrow3 hnil3))
      have hown2 : w3.ownsRow w.heap.size 9 1 v' (lsQ P (k + 1)).length (strs (lsQ P (k + 1))) := by
        rw [HS.out, strs_snoc, List.length_append]; exact hown'
      have hb2 := below_app' hb5 hown4 (Nat.le_refl _) hgrow3
      clear hown' hgrow3 hnil3 hown4
      go_roundw
      case rel => exact ⟨k + 1, by omega, by go_num, hown2, hb2⟩
      case measure => simp [intOf]; omega
    · obtain rfl : k = P.length := by omega
      have d1 : decide ((P.length : Int) < (P.length : Int)) = false := decide_eq_false (by omega)
      have hql := lsQ_len P P.length (Nat.le_refl _)
      obtain ⟨g, cap, rfl, _, _⟩ := hown.form (by omega)
      have HJ := Bx.mk (join_anyL g cap _ (lsQ P P.length) 59 wr hown (by omega) (by omega) HTL.out)
      clear hown HTL hql
      generalize (lsQ P P.length).length = nn at HJ
      go_wp2_with (fail)
      refine HJ.out.mono ?_
      rintro r w5 ⟨rfl, hb5⟩
      have HB5 := Bx.mk (hb.trans (hb5.mono hb.size))
      clear hb5
      go_wp2_with (fail)
      go_ret
      exact ⟨ret_str HE.out.symm, HB5.out⟩
end Go.Proofs.YtpkdpchlfabhlaaDoor
