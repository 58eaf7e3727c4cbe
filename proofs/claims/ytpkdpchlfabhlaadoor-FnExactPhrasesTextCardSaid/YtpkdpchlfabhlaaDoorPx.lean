/- PhrasesText, on both sides. -/
import Derived.Test.YtpkdpchlfabhlaaDoorPs
import Derived.Test.YtpkdpchlfabhlaaDoorPi
import Derived.Test.YtpkdpchlfabhlaaDoorListText
import Derived.Test.YtpkdpchlfabhlaaDoorLt
namespace Go.Proofs.YtpkdpchlfabhlaaDoor
open Go.ChangeShapes Go.WideShapes Go.ChangeAt Go.RowKit
set_option linter.unusedVariables false
set_option linter.unusedSimpArgs false
set_option maxRecDepth 100000

theorem join_snocC (c : UInt8) (x : List UInt8) (r : List (List UInt8)) (y : List UInt8) : Lib.join ((x :: r) ++ [y]) [c] = Lib.join (x :: r) [c] ++ (c :: y) := by
  rw [List.cons_append, Lib.join_cons, Lib.join_cons]; simp [Lib.joinTail]
/-- the texts of the first k phrases -/
def phsQ (P : List (List Int)) (k : Nat) : List (List UInt8) := (P.take k).map textE
def phsT (P : List (List Int)) (k : Nat) : List UInt8 := Lib.join (phsQ P k) [59]
def phsS (P : List (List Int)) : List UInt8 := if phsB P = true then phsT P P.length else []
theorem phsQ_succ (P : List (List Int)) (k : Nat) (h : k < P.length) : phsQ P (k + 1) = phsQ P k ++ [textE (P.getD k [])] := by
  unfold phsQ
  rw [List.take_succ_eq_append_getElem h, List.map_append]
  simp [List.getD, List.getElem?_eq_getElem h]
theorem phsQ_len (P : List (List Int)) (k : Nat) (h : k ≤ P.length) : (phsQ P k).length = k := by simp [phsQ]; omega
theorem phsT_zero (P : List (List Int)) : phsT P 0 = [] := by simp [phsT, phsQ]; rfl
theorem phsT_one (P : List (List Int)) (h : 0 < P.length) : phsT P (0 + 1) = textE (P.getD 0 []) := by
  unfold phsT
  rw [phsQ_succ P 0 h]
  show Lib.join [textE (P.getD 0 [])] [59] = _
  rw [Lib.join_cons]; simp [Lib.joinTail]
theorem phsT_succ (P : List (List Int)) (k : Nat) (h0 : 0 < k) (h : k < P.length) : phsT P (k + 1) = phsT P k ++ [59] ++ textE (P.getD k []) := by
  unfold phsT
  rw [phsQ_succ P k h]
  have hl := phsQ_len P k (by omega)
  cases hq : phsQ P k with
  | nil => rw [hq] at hl; simp at hl; omega
  | cons x r => rw [join_snocC]; simp
theorem ph_fit {zs : List Int} (h : phB zs = true) : fitL zs = true := by
  obtain ⟨h1, h2, h3⟩ := ph_yes h
  unfold fitL
  rw [Bool.and_eq_true, decide_eq_true_eq, List.all_eq_true]
  refine ⟨fun z hz => ?_, by omega⟩
  obtain ⟨i, hi, rfl⟩ := List.mem_iff_getElem.1 hz
  have := (pit_yes h1).2 i hi
  rw [List.getD, List.getElem?_eq_getElem hi, Option.getD_some] at this
  exact inB_mk (by omega)
theorem ph_textL {zs : List Int} (h : phB zs = true) : textL zs = textE zs := by
  unfold textL
  rw [if_pos (ph_fit h)]
theorem ph_textlen {zs : List Int} (h : phB zs = true) : (textE zs).length ≤ 176 := by
  have h8 := (ph_yes h).2
  have hj := joinL_len zs (fun z hz => (fit_all zs (ph_fit h)).2 z hz)
  unfold textE
  split
  · simp
  · omega
theorem phsT_len {P : List (List Int)} (hp : ∀ k, k < P.length → phB (P.getD k []) = true) : ∀ k, k ≤ P.length → (phsT P k).length ≤ 177 * k := by
  intro k
  induction k with
  | zero => intro _; rw [phsT_zero]; simp
  | succ k ih =>
    intro hk
    have h1 := ih (by omega)
    have h2 := ph_textlen (hp k (by omega))
    by_cases h0 : k = 0
    · subst h0
      rw [phsT_one P (by omega)]; omega
    · rw [phsT_succ P k (by omega) (by omega), List.length_append, List.length_append, List.length_singleton]; omega
set_option maxHeartbeats 2000000 in
theorem spec_text6 (v : Value) (P : List (List Int)) (w : World) (h : RowsAt w v P) (hn : P.length ≤ 12) (hp : ∀ k, k < P.length → phB (P.getD k []) = true) :
    Calls Tryd.prog 11 #[v] w fun e w' => e = .returned (.string ⟨(phsT P P.length).toArray⟩) ∧ Below w.heap.size w w' := by
  obtain ⟨A, c, rfl⟩ := rows_form h
  have HI := Bx.mk h
  have HP := Bx.mk hp
  clear h hp
  go_enter Tryd.func11, Tryd.ntmps11
  go_wp2_with (fail)
  go_loopw [3, 4] (fun t i wr => ∃ (k : Nat) (U : List UInt8), k ≤ P.length ∧ i = .int .i64 k ∧ t = .string ⟨U.toArray⟩ ∧ U.length ≤ 177 * k ∧ Below w.heap.size w wr ∧ Bx (U = phsT P k)) (fun _ i _ => P.length - (intOf i).toNat)
  case atStart => exact ⟨0, [], Nat.zero_le _, rfl, rfl, Nat.le_refl _, Below.refl _ _, Bx.mk (phsT_zero P).symm⟩
  case round =>
    obtain ⟨k, U, hk, rfl, rfl, hU, hb, HU⟩ := hrel
    by_cases hlt : k < P.length
    · obtain ⟨b, o, rfl, _, lb, hx⟩ := rows_at HI.out (by omega)
      obtain ⟨A1, e1, c1, i1⟩ := hx k hlt
      have c1 : wr.cell? ⟨b, o + k, none⟩ = some (.slice A1 (P.getD k []).length e1) := (hb.cell (p := ⟨b, o + k, none⟩) lb).trans c1
      have hph := HP.out k hlt
      have hfa := fit_all _ (ph_fit hph)
      have q1 := spec_list _ (P.getD k []) wr (i1.below hb) hfa.1 (Bx.mk hfa.2)
      have hil := ph_textlen hph
      have k1 : (0 : Int) ≤ (k : Int) := by omega
      have k2 : (k : Int) < (P.length : Int) := by omega
      have d1 : decide ((k : Int) < (P.length : Int)) = true := decide_eq_true k2
      by_cases hk0 : k = 0
      · have HN : Bx (phsT P (k + 1) = U ++ textE (P.getD k [])) := Bx.mk (by
          subst hk0
          rw [HU.out, phsT_zero, List.nil_append]
          exact phsT_one P hlt)
        have d2 : decide ((k : Int) > 0) = false := decide_eq_false (by omega)
        have d3 : decide (0 < k) = false := decide_eq_false (by omega)
        have hkz : (k : Int) ≤ 0 := by omega
        clear hx i1 hph hfa HP HI HU hk0
        generalize (P.getD k []).length = n at *
        generalize textE (P.getD k []) = T at *
        go_wp2_with (fail)
        refine q1.mono ?_
        rintro r w2 ⟨rfl, hb2⟩
        have hb3 := hb.trans (hb2.mono hb.size)
        clear hb2 hb
        go_wp2_with (fail)
        go_roundw
        case rel => exact ⟨k + 1, U ++ T, by omega, by go_num, by rw [str_app], by simp; omega, hb3, Bx.mk HN.out.symm⟩
        case measure => simp [intOf]; omega
      · have HN : Bx (phsT P (k + 1) = U ++ [59] ++ textE (P.getD k [])) := Bx.mk (by rw [HU.out, phsT_succ P k (by omega) hlt])
        have d2 : decide ((k : Int) > 0) = true := decide_eq_true (by omega)
        have d3 : decide (0 < k) = true := decide_eq_true (by omega)
        have hkz : (1 : Int) ≤ (k : Int) := by omega
        clear hx i1 hph hfa HP HI HU hk0
        generalize (P.getD k []).length = n at *
        generalize textE (P.getD k []) = T at *
        go_wp2_with (fail)
        refine q1.mono ?_
        rintro r w2 ⟨rfl, hb2⟩
        have hb3 := hb.trans (hb2.mono hb.size)
        clear hb2 hb
        go_wp2_with (fail)
        go_roundw
        case rel => exact ⟨k + 1, U ++ [59] ++ T, by omega, by go_num, by rw [show (⟨#[59]⟩ : ByteArray) = ⟨[59].toArray⟩ from rfl, str_app, str_app], by rw [List.length_append, List.length_append, List.length_singleton]; omega, hb3, Bx.mk HN.out.symm⟩
        case measure => simp [intOf]; omega
    · obtain rfl : k = P.length := by omega
      have d1 : decide ((P.length : Int) < (P.length : Int)) = false := decide_eq_false (by omega)
      go_wp2_with (fail)
      go_ret
      exact ⟨ret_str HU.out, hb⟩
theorem spec_phrasestext (v : Value) (P : List (List Int)) (w : World) (h : RowsAt w v P) (hn : P.length ≤ 1048576) (hg : ∀ k, k < P.length → (P.getD k []).length ≤ 1048576) :
    Calls Tryd.prog 5 #[v] w fun e w' => e = .returned (.string ⟨(phsS P).toArray⟩) ∧ Below w.heap.size w w' := by
  have q1 := spec_ok6 v P w h hn hg
  have HI := Bx.mk h
  obtain ⟨A, c, rfl⟩ := rows_form h
  clear h hg
  cases hp : phsB P
  · have HE : Bx (phsS P = []) := Bx.mk (by unfold phsS; rw [hp]; rfl)
    rw [hp] at q1
    clear hp
    go_enter Tryd.func5, Tryd.ntmps5
    go_wp2_with (fail)
    refine q1.mono ?_
    rintro r w1 ⟨rfl, n, rfl⟩
    go_wp2_with (fail)
    go_ret
    exact ⟨ret_str HE.out.symm, below_draws (Below.refl _ _) n⟩
  · have HE : Bx (phsS P = phsT P P.length) := Bx.mk (by unfold phsS; rw [hp]; rfl)
    obtain ⟨l1, l2⟩ := phs_yes hp
    have q2 := fun n => spec_text6 _ P (w.drewN n) (HI.out.below (below_draws (Below.refl _ _) n)) l1 l2
    rw [hp] at q1
    clear hp l2
    go_enter Tryd.func5, Tryd.ntmps5
    go_wp2_with (fail)
    refine q1.mono ?_
    rintro r w1 ⟨rfl, n, rfl⟩
    go_wp2_with (fail)
    refine (q2 n).mono ?_
    rintro r w2 ⟨rfl, hb⟩
    have HB := Bx.mk ((below_draws (Below.refl w.heap.size w) n).trans (hb.mono (below_draws (Below.refl w.heap.size w) n).size))
    clear hb
    go_wp2_with (fail)
    go_ret
    exact ⟨ret_str HE.out.symm, HB.out⟩
theorem phsT_ls (P : List (List Int)) (k : Nat) : phsT P k = lsT P k := rfl
set_option maxHeartbeats 2000000 in
theorem impl_lists_nil (A : Option Addr) (c : Nat) (w : World) : Calls Tryd.prog 14 #[.slice A 0 c] w fun e w' => e = .returned (.string ⟨#[]⟩) ∧ Below w.heap.size w w' := by
  have hm0 : ∀ W : World, (Instr.makeSlice 35 (.int .i64 0) (.int .i64 0)).run Tryd.prog W = .ok (.slice (some ⟨W.heap.size, 0, none⟩) 0 0) (W.alloc (.cells #[] 9)) := fun _ => by kernel_rfl
  have hmw := hm0 w
  clear hm0
  have hj : ∀ W : World, Calls Tryd.prog 22 #[.slice (some ⟨w.heap.size, 0, none⟩) 0 0, .string ⟨#[59]⟩] W fun e w' => e = .returned (.string ⟨#[]⟩) ∧ W = w' := by
    intro W
    clear hmw
    go_enter Tryd.func22, Tryd.ntmps22
    go_wp2_with (fail)
    go_ret
    exact ⟨rfl, rfl⟩
  go_enter Tryd.func14, Tryd.ntmps14
  go_wp2
  refine wp_loop_rounds 1 ?_
  rw [rounds_succ]
  go_wp2_with (fail)
  refine (hj _).mono ?_
  rintro r w5 ⟨rfl, rfl⟩
  go_wp2_with (fail)
  go_ret
  exact ⟨rfl, (Below.refl _ _).alloc (Nat.le_refl _) _⟩
set_option maxHeartbeats 4000000 in
theorem impl_phrasestext (v : Value) (P : List (List Int)) (w : World) (h : RowsAt w v P) (hn : P.length ≤ 1048576) (hg : ∀ k, k < P.length → (P.getD k []).length ≤ 1048576) (htab : Bx (Lib.TabIs Tryd.prog w "internal/strconv.uint64pow10" .u64 Lib.pow10Tab)) :
    Calls Tryd.prog 7 #[v] w fun e w' => e = .returned (.string ⟨(phsS P).toArray⟩) ∧ Below w.heap.size w w' := by
  have q1 := impl_validphrases v P w h hn hg
  have HI := Bx.mk h
  obtain ⟨A, c, rfl⟩ := rows_form h
  clear h hg
  cases hp : phsB P
  · have HE : Bx (phsS P = []) := Bx.mk (by unfold phsS; rw [hp]; rfl)
    rw [hp] at q1
    clear hp
    go_enter Tryd.func7, Tryd.ntmps7
    go_wp2_with (fail)
    refine q1.mono ?_
    rintro r w1 ⟨rfl, n, rfl⟩
    go_wp2_with (fail)
    go_ret
    exact ⟨ret_str HE.out.symm, below_draws (Below.refl _ _) n⟩
  · obtain ⟨l1, l2⟩ := phs_yes hp
    have q2 : ∀ W, Below w.heap.size w W → Calls Tryd.prog 14 #[.slice A P.length c] W fun e w' => e = .returned (.string ⟨(phsS P).toArray⟩) ∧ Below W.heap.size W w' := by
      intro W hW
      have HE : phsS P = lsT P P.length := by unfold phsS; rw [hp]; rfl
      rw [HE]
      rcases Nat.eq_zero_or_pos P.length with h0 | h0
      · obtain rfl := List.eq_nil_of_length_eq_zero h0
        exact impl_lists_nil A c W
      · exact impl_lists _ P W (HI.out.below hW) h0 hn (fun k hk => ph_fit (l2 k hk)) (Bx.mk (tab_below hW htab.out))
    generalize phsS P = T at *
    rw [hp] at q1
    clear hp l2
    go_enter Tryd.func7, Tryd.ntmps7
    go_wp2_with (fail)
    refine q1.mono ?_
    rintro r w1 ⟨rfl, n, rfl⟩
    have B1 := Bx.mk (below_draws (Below.refl w.heap.size w) n)
    go_wp2_with (fail)
    refine (q2 _ B1.out).mono ?_
    rintro r w5 ⟨rfl, hb5⟩
    have HB5 := Bx.mk (B1.out.trans (hb5.mono B1.out.size))
    clear hb5
    go_wp2_with (fail)
    go_ret
    exact ⟨rfl, HB5.out⟩
end Go.Proofs.YtpkdpchlfabhlaaDoor
