/- ListText on both sides: one text of lists (textL). -/
import Derived.Test.YtmbillcdlcgjiaaDoorReadList
import Derived.Lib.Join
namespace Go.Proofs.YtmbillcdlcgjiaaDoor
open Go.ChangeShapes Go.WideShapes Go.ChangeAt Go.RowKit
set_option linter.unusedVariables false
set_option linter.unusedSimpArgs false
set_option maxRecDepth 100000

def fitL (zs : List Int) : Bool := (zs.all fun z => inB z (-1000000000000) 1000000000000) && decide (zs.length ≤ 64)
/-- the numbers' texts, commas between -/
def joinL : List Int → List UInt8
  | [] => []
  | z :: r => Lib.itoa z ++ (r.map fun z => 44 :: Lib.itoa z).flatten
def textE (zs : List Int) : List UInt8 := if zs = [] then [45] else joinL zs
def textL (zs : List Int) : List UInt8 := if fitL zs = true then textE zs else []
theorem str_app (a b : List UInt8) : (⟨a.toArray⟩ : ByteArray) ++ ⟨b.toArray⟩ = ⟨(a ++ b).toArray⟩ := by
  apply ByteArray.ext
  simp
theorem join_join (zs : List Int) : Lib.join (zs.map Lib.itoa) [44] = joinL zs := by
  cases zs with
  | nil => rfl
  | cons z r =>
    rw [List.map_cons, Lib.join_cons]
    unfold joinL Lib.joinTail
    rw [List.map_map]; rfl
theorem joinL_snoc (zs : List Int) (z : Int) (h : zs ≠ []) : joinL (zs ++ [z]) = joinL zs ++ [44] ++ Lib.itoa z := by
  cases zs with
  | nil => exact absurd rfl h
  | cons y r => simp [joinL]
theorem take_snoc (zs : List Int) (k : Nat) (h : k < zs.length) : zs.take (k + 1) = zs.take k ++ [zs.getD k 0] := by
  rw [List.take_succ_eq_append_getElem h]; simp [List.getD, h]
theorem itoa_len (z : Int) (h1 : -9223372036854775808 ≤ z) (h2 : z ≤ 9223372036854775807) : (Lib.itoa z).length ≤ 21 := by
  have hd : ∀ u : Nat, u < 10 ^ 20 → (Lib.decDigits u).length ≤ 20 := fun u hu => by
    by_cases h0 : u = 0
    · subst h0; decide +kernel
    · rw [← low_rev u h0, List.length_reverse]; exact low_len u hu
  unfold Lib.itoa
  split
  · have := hd z.natAbs (by omega); simp; omega
  · have := hd z.toNat (by omega); omega

theorem joinL_len (zs : List Int) (h : ∀ z ∈ zs, -9223372036854775808 ≤ z ∧ z ≤ 9223372036854775807) : (joinL zs).length ≤ 22 * zs.length := by
  cases zs with
  | nil => simp [joinL]
  | cons z r =>
    have hz := itoa_len z (h z (by simp)).1 (h z (by simp)).2
    have hr : ((r.map fun z => 44 :: Lib.itoa z).flatten).length ≤ 22 * r.length := by
      have h2 : ∀ z ∈ r, -9223372036854775808 ≤ z ∧ z ≤ 9223372036854775807 := fun z hz => h z (by simp [hz])
      clear h hz
      induction r with
      | nil => simp
      | cons y r ih =>
        have := itoa_len y (h2 y (by simp)).1 (h2 y (by simp)).2
        have := ih (fun z hz => h2 z (by simp [hz]))
        rw [List.map_cons, List.flatten_cons, List.length_append, List.length_cons, List.length_cons]
        omega
    unfold joinL
    rw [List.length_append, List.length_cons]
    omega

set_option maxHeartbeats 1000000 in
theorem spec_list (v : Value) (zs : List Int) (w : World) (h : IntsAt w v zs) (hn : zs.length ≤ 64) (hf : Bx (∀ z ∈ zs, -9223372036854775808 ≤ z ∧ z ≤ 9223372036854775807)) :
    Calls Tryd.prog 22 #[v] w fun e w' => e = .returned (.string ⟨(textE zs).toArray⟩) ∧ Below w.heap.size w w' := by
  rcases h with ⟨rfl, A, c, rfl⟩ | ⟨b, o, c, rfl, hbl, h1⟩
  · go_enter Tryd.func22, Tryd.ntmps22
    go_wp2
    go_ret
    exact ⟨rfl, Below.refl _ _⟩
  · by_cases h0 : zs = []
    · subst h0
      go_enter Tryd.func22, Tryd.ntmps22
      go_wp2
      go_ret
      exact ⟨rfl, Below.refl _ _⟩
    · have hne : ((zs.length : Int) == 0) = false := beq_eq_false_iff_ne.2 (by have := List.length_pos_iff.2 h0; omega)
      have HT : Bx (textE zs = joinL zs) := Bx.mk (by unfold textE; rw [if_neg h0])
      generalize textE zs = T at HT ⊢
      have H1 := Bx.mk h1
      clear h1 h0
      go_enter Tryd.func22, Tryd.ntmps22
      go_wp2
      go_loopw [3, 4] (fun t i wr => ∃ (k : Nat) (U : List UInt8), k ≤ zs.length ∧ i = .int .i64 k ∧ t = .string ⟨U.toArray⟩ ∧ U.length ≤ 22 * k ∧ Below w.heap.size w wr ∧ Bx (U = joinL (zs.take k))) (fun _ i _ => zs.length - (intOf i).toNat)
      case atStart => exact ⟨0, [], Nat.zero_le _, rfl, rfl, Nat.le_refl _, Below.refl _ _, Bx.mk rfl⟩
      case round =>
        obtain ⟨k, U, hk, rfl, rfl, hU, hb, HU⟩ := hrel
        by_cases hlt : k < zs.length
        · have hc : wr.cell? ⟨b, o + k, none⟩ = some (.int .i64 (zs.getD k 0)) := (hb.cell (p := ⟨b, o + k, none⟩) hbl).trans (H1.out k hlt)
          have HS := Bx.mk (take_snoc zs k hlt)
          have HM := Bx.mk (hf.out (zs.getD k 0) (by simp [List.getD, hlt]))
          have hil := itoa_len _ HM.out.1 HM.out.2
          generalize zs.getD k 0 = z at hc HS HM hil
          by_cases hk0 : k = 0
          · have HN : Bx (joinL (zs.take (k + 1)) = U ++ Lib.itoa z) := Bx.mk (by rw [HS.out, HU.out, hk0]; simp [joinL])
            have hkz : (k : Int) ≤ 0 := by omega
            clear hk0 HS HU
            go_wp2_with ((go_at_call 37; refine (spec_dec_any _ _ HM.out.1 HM.out.2).mono ?_; rintro e w2 ⟨rfl, hb2⟩; have hb3 := hb.trans (hb2.mono hb.size); clear hb2 hb))
            go_roundw
            case rel => exact ⟨k + 1, U ++ Lib.itoa z, by omega, by go_num, by rw [str_app], by simp; omega, hb3, Bx.mk HN.out.symm⟩
            case measure => simp [intOf]; omega
          · have HN : Bx (joinL (zs.take (k + 1)) = U ++ [44] ++ Lib.itoa z) := Bx.mk (by rw [HS.out, HU.out, joinL_snoc]; intro e; have := congrArg List.length e; rw [List.length_take, List.length_nil] at this; omega)
            have hkz : (1 : Int) ≤ k := by omega
            clear hk0 HS HU
            go_wp2_with ((go_at_call 37; refine (spec_dec_any _ _ HM.out.1 HM.out.2).mono ?_; rintro e w2 ⟨rfl, hb2⟩; have hb3 := hb.trans (hb2.mono hb.size); clear hb2 hb))
            go_roundw
            case rel => exact ⟨k + 1, U ++ [44] ++ Lib.itoa z, by omega, by go_num, by rw [show (⟨#[44]⟩ : ByteArray) = ⟨[44].toArray⟩ from rfl, str_app, str_app], by rw [List.length_append, List.length_append, List.length_singleton]; omega, hb3, Bx.mk HN.out.symm⟩
            case measure => simp [intOf]; omega
        · have HN : Bx (U = T) := Bx.mk (by rw [HU.out, HT.out, List.take_of_length_le (by omega)])
          clear HU
          go_wp2
          go_ret
          exact ⟨ret_str HN.out, hb⟩

theorem fit_all (zs : List Int) (h : fitL zs = true) : zs.length ≤ 64 ∧ ∀ z ∈ zs, -9223372036854775808 ≤ z ∧ z ≤ 9223372036854775807 := by
  unfold fitL at h
  rw [Bool.and_eq_true] at h
  refine ⟨by simpa using h.2, fun z hz => ?_⟩
  have := inB_yes (List.all_eq_true.1 h.1 z hz)
  omega

theorem make_strs (w : World) (n : Nat) (hn : n ≤ 64) : ∃ w', (Instr.makeSlice 45 (.int .i64 0) (.int .i64 (n : Int))).run Tryd.prog w = .ok (.slice (some ⟨w.heap.size, 0, none⟩) 0 n) w' ∧
    w'.ownsRow w.heap.size 9 1 (.slice (some ⟨w.heap.size, 0, none⟩) 0 n) 0 [] ∧ w.grownBy w' none := by
  obtain ⟨i0, hi, hz0, hz1, hz2⟩ := info_parts infoStr
  exact run_make_own w w.heap.size 45 9 i0 (.string ByteArray.empty) 1 Tryd.underlying45 hi hz0 hz1 .i64 .i64 n (by rw [hz2]; omega) (by unfold maxLen; omega) (Nat.le_refl _)

set_option maxHeartbeats 2000000 in
set_option maxRecDepth 100000 in
theorem impl_listtext (v : Value) (zs : List Int) (w : World) (h : IntsAt w v zs) (hn : zs.length ≤ 281474976710656) (htab : Bx (Lib.TabIs Tryd.prog w "internal/strconv.uint64pow10" .u64 Lib.pow10Tab)) :
    Calls Tryd.prog 15 #[v] w fun e w' => e = .returned (.string ⟨(textL zs).toArray⟩) ∧ Below w.heap.size w w' := by
  by_cases h64 : 64 < zs.length
  · have HT : Bx (textL zs = []) := Bx.mk (by unfold textL fitL; rw [decide_eq_false (by omega)]; simp)
    obtain ⟨A, c, rfl⟩ : ∃ A c, v = .slice A zs.length c := by
      rcases h with ⟨rfl, A, c, h⟩ | ⟨b, o, c, h, _⟩
      · exact ⟨A, c, h⟩
      · exact ⟨_, c, h⟩
    clear h
    go_enter Tryd.func15, Tryd.ntmps15
    go_wp2
    go_ret
    exact ⟨ret_str HT.out.symm, Below.refl _ _⟩
  · by_cases h0 : zs = []
    · subst h0
      obtain ⟨A, c, rfl⟩ : ∃ A c, v = .slice A 0 c := by
        rcases h with ⟨_, A, c, h⟩ | ⟨b, o, c, h, _⟩
        · exact ⟨A, c, h⟩
        · exact ⟨_, c, h⟩
      clear h
      go_enter Tryd.func15, Tryd.ntmps15
      go_wp2
      go_ret
      exact ⟨ret_str (by decide +kernel), Below.refl _ _⟩
    · obtain ⟨b, o, c, rfl, hbl, h1⟩ : ∃ b off c, v = .slice (some ⟨b, off, none⟩) zs.length c ∧ b < w.heap.size ∧ ∀ k, k < zs.length → w.cell? ⟨b, off + k, none⟩ = some (.int .i64 (zs.getD k 0)) := by
        rcases h with ⟨h, _⟩ | h
        · exact absurd h h0
        · exact h
      have hlp := List.length_pos_iff.2 h0
      have hne : ((zs.length : Int) == 0) = false := beq_eq_false_iff_ne.2 (by omega)
      have H0 := Bx.mk h0
      have H1 := Bx.mk h1
      clear h h1 h0
      obtain ⟨wm, hmk, hom, hgm⟩ := make_strs w zs.length (by omega)
      have hbm : Below w.heap.size w wm := (Below.refl _ _).grown hgm (Nat.le_refl _) (fun k hk => by cases hk)
      have HOM := Bx.mk hom
      clear hom hgm
      go_enter Tryd.func15, Tryd.ntmps15
      go_wp2
      obtain ⟨i0, hi, hz0, hz1, hz2⟩ := info_parts infoStr
      go_loopw [3, 17] (fun v i wr => ∃ k : Nat, k ≤ zs.length ∧ i = .int .i64 k ∧ wr.ownsRow w.heap.size 9 1 v ((zs.take k).map Lib.itoa).length (strs ((zs.take k).map Lib.itoa)) ∧ Below w.heap.size w wr ∧ Bx ((zs.take k).all (fun z => inB z (-1000000000000) 1000000000000) = true)) (fun _ i _ => zs.length - (intOf i).toNat)
      case atStart => exact ⟨0, Nat.zero_le _, rfl, HOM.out, hbm, Bx.mk rfl⟩
      case round =>
        obtain ⟨k, hk, rfl, hown, hb, HK⟩ := hrel
        have hsize := hb.size
        have HTB : Bx (Lib.TabIs Tryd.prog wr "internal/strconv.uint64pow10" .u64 Lib.pow10Tab) := Bx.mk (tab_below hb htab.out)
        by_cases hlt : k < zs.length
        · have hc : wr.cell? ⟨b, o + k, none⟩ = some (.int .i64 (zs.getD k 0)) := (hb.cell (p := ⟨b, o + k, none⟩) hbl).trans (H1.out k hlt)
          have HS := Bx.mk (take_snoc zs k hlt)
          have HM : Bx (zs.getD k 0 ∈ zs) := Bx.mk (by simp [List.getD, hlt])
          have hnl : ((zs.take k).map Lib.itoa).length ≤ 64 := by simp; omega
          generalize zs.getD k 0 = z at hc HS HM
          cases hbz : inB z (-1000000000000) 1000000000000
          · have HN : Bx (textL zs = []) := Bx.mk (by
              unfold textL fitL
              have : (zs.all fun z => inB z (-1000000000000) 1000000000000) = false := List.all_eq_false.2 ⟨z, HM.out, by simp [hbz]⟩
              rw [this]; rfl)
            clear HS HM HK hown
            go_wp2_with ((go_at_call 26; refine (isvalue_any _ _).mono ?_; rintro e w' ⟨rfl, rfl⟩))
            go_ret
            exact ⟨ret_str HN.out.symm, hb⟩
          · have HK2 : Bx ((zs.take (k + 1)).all (fun z => inB z (-1000000000000) 1000000000000) = true) := Bx.mk (by rw [HS.out, List.all_append, HK.out]; simp [hbz])
            have HB2 := inB_yes hbz
            have HRG : Bx (-9223372036854775808 ≤ z ∧ z ≤ 9223372036854775807) := Bx.mk (by omega)
            have HMP : Bx ((zs.take (k + 1)).map Lib.itoa = (zs.take k).map Lib.itoa ++ [Lib.itoa z]) := Bx.mk (by rw [HS.out]; simp)
            clear HS HM HK HB2
            generalize (zs.take k).map Lib.itoa = qs at hown hnl HMP
            go_wp2_with (first | (go_at_call 26; refine (isvalue_any _ _).mono ?_; rintro e w' ⟨rfl, rfl⟩) | (go_at_call 27; refine (impl_dec _ _ HRG HTB).mono ?_; rintro e w4 ⟨rfl, hb4⟩; have hown4 := own_below hown hb4; have hb5 := hb.trans (hb4.mono hb.size); have hsize5 := hb5.size; clear hb4 hown hb) | (at_builtin; refine wpList_append_own _ rfl _ _ 45 rfl w.heap.size 9 i0 (.string ByteArray.empty) 1 16 Tryd.underlying45 hi hz0 hz1 hz2 rfl (by decide) _ _ _ rfl (hown4.alloc _) ⟨w4.heap.size, 0, none⟩ 1 1 [.string ⟨(Lib.itoa z).toArray⟩] rfl rfl (cell_one_new _ _ _) (fun x hx => by simp at hx; subst hx; rfl) (by unfold maxLen; omega) (by omega) (by simp; omega) ?_; intro v' w3 hown' hgrow3 hnil3))
            have hown2 : w3.ownsRow w.heap.size 9 1 v' ((zs.take (k + 1)).map Lib.itoa).length (strs ((zs.take (k + 1)).map Lib.itoa)) := by
              rw [HMP.out, strs_snoc, List.length_append]; exact hown'
            have hb2 := below_app' hb5 hown4 (Nat.le_refl _) hgrow3
            clear hown' hgrow3 hnil3 hown4
            go_roundw
            case rel => exact ⟨k + 1, by omega, by go_num, hown2, hb2, HK2⟩
            case measure => simp [intOf]; omega
        · obtain rfl : k = zs.length := by omega
          rw [List.take_of_length_le (Nat.le_refl _)] at hown HK
          have HN : Bx (textL zs = joinL zs) := Bx.mk (by unfold textL textE fitL; rw [HK.out, if_neg H0.out, decide_eq_true (by omega)]; rfl)
          have hql : 0 < (zs.map Lib.itoa).length := by simp; omega
          obtain ⟨g, cap, rfl, hg1, hg2⟩ := hown.form hql
          have HC := Bx.mk (str_cells hown)
          have hcap : (zs.map Lib.itoa).length ≤ cap := by
            rcases hown.2 with ⟨h, _⟩ | ⟨g', cap', cur, h, _, _, h2, _⟩
            · cases h
            · simp only [Value.slice.injEq] at h; omega
          have hjl : (joinL zs).length ≤ 140737488355328 := by
            have := joinL_len zs (fun z hz => by have := inB_yes (List.all_eq_true.1 HK.out z hz); omega)
            omega
          have hjoin : Calls Tryd.prog 28 #[.slice (some ⟨g, 0, none⟩) (zs.map Lib.itoa).length cap, .string ⟨#[44]⟩] wr fun e w' => e = .returned (.string ⟨(joinL zs).toArray⟩) ∧ Below wr.heap.size wr w' := by
            have := Tryd.strings_Join g 0 cap ((zs.map Lib.itoa).map fun l => ⟨l.toArray⟩) ⟨#[44]⟩ wr (fun j x hx => by
              rw [Nat.zero_add]
              have hj : j < (zs.map Lib.itoa).length := by
                rcases Nat.lt_or_ge j (zs.map Lib.itoa).length with h | h
                · exact h
                · rw [List.getElem?_eq_none (by simpa using h)] at hx; cases hx
              rw [HC.out j hj]
              rw [List.getElem?_map, List.getElem?_eq_getElem hj] at hx
              simp only [Option.map_some, Option.some.injEq] at hx
              rw [← hx]
              simp [List.getD, List.getElem?_eq_getElem hj]) hg2 (by simp; omega) (by simpa using hcap) (by
                have e : ((zs.map Lib.itoa).map fun l => (⟨l.toArray⟩ : ByteArray)).map (·.data.toList) = zs.map Lib.itoa := by rw [List.map_map]; simp [Function.comp_def]
                rw [e]; show (Lib.join (zs.map Lib.itoa) [44]).length ≤ _; rw [join_join]; exact hjl)
            have e : ((zs.map Lib.itoa).map fun l => (⟨l.toArray⟩ : ByteArray)).map (·.data.toList) = zs.map Lib.itoa := by rw [List.map_map]; simp [Function.comp_def]
            rw [e] at this
            have e2 : Lib.join (zs.map Lib.itoa) (⟨#[44]⟩ : ByteArray).data.toList = joinL zs := join_join zs
            rw [e2, List.length_map] at this
            exact this
          have HJ := Bx.mk hjoin
          clear hjoin HC hcap hjl hown HK
          generalize (zs.map Lib.itoa).length = nn at HJ hql
          go_wp2_with ((go_at_call 28; refine HJ.out.mono ?_; rintro e w5 ⟨rfl, hb5⟩; have HB5 := Bx.mk hb5; clear hb5))
          go_ret
          exact ⟨ret_str HN.out.symm, hb.trans (HB5.out.mono hb.size)⟩
end Go.Proofs.YtmbillcdlcgjiaaDoor
