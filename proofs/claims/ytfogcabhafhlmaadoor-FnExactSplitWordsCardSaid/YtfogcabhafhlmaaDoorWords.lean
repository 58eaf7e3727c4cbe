/- SplitWords on both sides: the parts between blanks that are not empty (wordsL). -/
import Derived.Test.YtfogcabhafhlmaaDoorRowS
import Derived.Test.YtfogcabhafhlmaaDoorReadList
namespace Go.Proofs.YtfogcabhafhlmaaDoor
open Go.ChangeShapes Go.WideShapes Go.ChangeAt Go.RowKit
set_option linter.unusedVariables false

def wordsP (ps : List (List UInt8)) : List (List UInt8) := ps.filter fun p => !p.isEmpty
def wordsL (l : List UInt8) : List (List UInt8) := wordsP (cutL 32 l)
theorem wordsP_none (ps : List (List UInt8)) (k : Nat) (hk : k < ps.length) (h : ps.getD k [] = []) : wordsP (ps.take (k + 1)) = wordsP (ps.take k) := by
  rw [List.take_succ_eq_append_getElem hk]
  simp only [List.getD, List.getElem?_eq_getElem hk, Option.getD_some] at h
  rw [h]; simp [wordsP]
theorem wordsP_some (ps : List (List UInt8)) (k : Nat) (hk : k < ps.length) (h : ps.getD k [] ≠ []) : wordsP (ps.take (k + 1)) = wordsP (ps.take k) ++ [ps.getD k []] := by
  have e : ps.getD k [] = ps[k] := by simp [List.getD, hk]
  rw [e] at h ⊢
  rw [List.take_succ_eq_append_getElem hk]
  unfold wordsP
  rw [List.filter_append]
  congr 1
  have : (!ps[k].isEmpty) = true := by simpa using h
  simp [List.filter_cons, this]
theorem wordsP_len (ps : List (List UInt8)) : (wordsP ps).length ≤ ps.length := List.length_filter_le _ _
def WordsOut (qs : List (List UInt8)) (w : World) (e : Ending) (w' : World) : Prop :=
  ∃ v, e = .returned v ∧ w'.ownsRow w.heap.size 9 1 v qs.length (strs qs) ∧ Below w.heap.size w w'

set_option maxHeartbeats 2000000 in
set_option maxRecDepth 100000 in
theorem spec_words (s : ByteArray) (w : World) (hs : s.size ≤ 1048576) :
    Calls Tryd.prog 26 #[.string s] w (WordsOut (wordsL s.data.toList) w) := by
  obtain ⟨i0, hi, hz0, hz1, hz2⟩ := info_parts infoStr
  have HR : Bx (wordsL s.data.toList = wordsP (cutL 32 s.data.toList)) := Bx.mk rfl
  have hcl : (cutL 32 s.data.toList).length ≤ 1048577 := by have := cut_len 32 s.data.toList; simp at this; omega
  obtain ⟨p0, pr, hne⟩ := cut_ne 32 s.data.toList
  have hn1 : 1 ≤ (cutL 32 s.data.toList).length := by rw [hne]; simp
  have hsplit := fun W => spec_split s 32 W (by omega)
  clear hne
  generalize cutL 32 s.data.toList = ps at HR hcl hn1 hsplit
  go_enter Tryd.func26, Tryd.ntmps26
  go_wp2_with ((go_at_call 55; refine (hsplit _).mono ?_; rintro e w1 ⟨v, rfl, hown, hb⟩; obtain ⟨g, cap, rfl, hg1, hg2⟩ := hown.form (by omega); have HC := Bx.mk (str_cells hown); have HB := Bx.mk hb; clear hown hb hsplit))
  go_loopw [4, 5] (fun v i wr => ∃ (k : Nat) (qs : List (List UInt8)), k ≤ ps.length ∧ qs.length ≤ k ∧ i = .int .i64 k ∧ wr.ownsRow w1.heap.size 9 1 v qs.length (strs qs) ∧ Below w1.heap.size w1 wr ∧ Bx (wordsP (ps.take k) = qs)) (fun _ i _ => ps.length - (intOf i).toNat)
  case atStart => exact ⟨0, [], Nat.zero_le _, Nat.le_refl _, rfl, World.ownsRow_lit _ _ _ (Nat.le_refl _) (by decide) (by decide), (Below.refl _ _).alloc (Nat.le_refl _) _, Bx.mk rfl⟩
  case round =>
    obtain ⟨k, qs, hk, hqk, rfl, hown, hb, HP⟩ := hrel
    have hsize := hb.size
    by_cases hlt : k < ps.length
    · have hc : wr.cell? ⟨g, k, none⟩ = some (.string ⟨(ps.getD k []).toArray⟩) := (hb.cell (p := ⟨g, k, none⟩) hg2).trans (HC.out k hlt)
      by_cases hq : ps.getD k [] = []
      · have HN : Bx (wordsP (ps.take (k + 1)) = qs) := Bx.mk (by rw [wordsP_none ps k hlt hq, HP.out])
        rw [hq] at hc
        clear HP hq
        go_wp2
        go_roundw
        case rel => exact ⟨k + 1, qs, by omega, by omega, by go_num, hown, hb, HN⟩
        case measure => simp [intOf]; omega
      · have HN : Bx (wordsP (ps.take (k + 1)) = qs ++ [ps.getD k []]) := Bx.mk (by rw [wordsP_some ps k hlt hq, HP.out])
        generalize ps.getD k [] = q at hc HN hq
        have hq2 : q.isEmpty = false := by simpa using hq
        clear HP
        go_wp2_with ((at_builtin; refine wpList_append_own _ rfl _ _ 40 rfl w1.heap.size 9 i0 (.string ByteArray.empty) 1 16 Tryd.underlying40 hi hz0 hz1 hz2 rfl (by decide) _ _ _ rfl (hown.alloc _) ⟨wr.heap.size, 0, none⟩ 1 1 [.string ⟨q.toArray⟩] rfl rfl (cell_one_new _ _ _) (fun x hx => by simp at hx; subst hx; rfl) (by unfold maxLen; omega) (by omega) (by simp; omega) ?_; intro v' w3 hown' hgrow3 hnil3))
        have hown2 : w3.ownsRow w1.heap.size 9 1 v' (qs ++ [q]).length (strs (qs ++ [q])) := by
          rw [strs_snoc, List.length_append]; exact hown'
        have hb2 := below_app' hb hown (Nat.le_refl _) hgrow3
        clear hown' hgrow3 hnil3 hown
        go_roundw
        case rel => exact ⟨k + 1, qs ++ [q], by omega, by simp; omega, by go_num, hown2, hb2, HN⟩
        case measure => simp [intOf]; omega
    · obtain rfl : k = ps.length := by omega
      have HN : Bx (wordsL s.data.toList = qs) := Bx.mk (by rw [HR.out, ← HP.out, List.take_of_length_le (Nat.le_refl _)])
      clear HP HR
      go_wp2
      go_ret
      exact ⟨_, rfl, by rw [HN.out]; exact own_mono hown HB.out.size, HB.out.trans (hb.mono HB.out.size)⟩

set_option maxHeartbeats 2000000 in
set_option maxRecDepth 100000 in
theorem impl_words (s : ByteArray) (w : World) (hs : s.size ≤ 1048576) (hm : Bx (∃ m, w.cell? ⟨1, 0, none⟩ = some (.int .i64 m))) :
    Calls Tryd.prog 27 #[.string s] w (WordsOut (wordsL s.data.toList) w) := by
  obtain ⟨i0, hi, hz0, hz1, hz2⟩ := info_parts infoStr
  have HR : Bx (wordsL s.data.toList = wordsP (cutL 32 s.data.toList)) := Bx.mk rfl
  have hcl : (cutL 32 s.data.toList).length ≤ 1048577 := by have := cut_len 32 s.data.toList; simp at this; omega
  obtain ⟨p0, pr, hne⟩ := cut_ne 32 s.data.toList
  have hn1 : 1 ≤ (cutL 32 s.data.toList).length := by rw [hne]; simp
  have hsplit := fun W hmW => impl_split s 32 W (by omega) hmW
  clear hne
  generalize cutL 32 s.data.toList = ps at HR hcl hn1 hsplit
  go_enter Tryd.func27, Tryd.ntmps27
  go_wp2_with ((go_at_call 47; refine (hsplit _ hm.out).mono ?_; rintro e w1 ⟨g, rfl, hg2, hcs, hb⟩; have HC := Bx.mk hcs; have HB := Bx.mk hb; clear hcs hb hsplit))
  go_loopw [3, 9] (fun v i wr => ∃ (k : Nat) (qs : List (List UInt8)), k ≤ ps.length ∧ qs.length ≤ k ∧ i = .int .i64 k ∧ wr.ownsRow w1.heap.size 9 1 v qs.length (strs qs) ∧ Below w1.heap.size w1 wr ∧ Bx (wordsP (ps.take k) = qs)) (fun _ i _ => ps.length - (intOf i).toNat)
  case atStart => exact ⟨0, [], Nat.zero_le _, Nat.le_refl _, rfl, World.ownsRow_nil _ _ _ _, Below.refl _ _, Bx.mk rfl⟩
  case round =>
    obtain ⟨k, qs, hk, hqk, rfl, hown, hb, HP⟩ := hrel
    have hsize := hb.size
    by_cases hlt : k < ps.length
    · have hc : wr.cell? ⟨g, k, none⟩ = some (.string ⟨(ps.getD k []).toArray⟩) := (hb.cell (p := ⟨g, k, none⟩) hg2).trans (HC.out k hlt)
      by_cases hq : ps.getD k [] = []
      · have HN : Bx (wordsP (ps.take (k + 1)) = qs) := Bx.mk (by rw [wordsP_none ps k hlt hq, HP.out])
        rw [hq] at hc
        clear HP hq
        go_wp2
        go_roundw
        case rel => exact ⟨k + 1, qs, by omega, by omega, by go_num, hown, hb, HN⟩
        case measure => simp [intOf]; omega
      · have HN : Bx (wordsP (ps.take (k + 1)) = qs ++ [ps.getD k []]) := Bx.mk (by rw [wordsP_some ps k hlt hq, HP.out])
        generalize ps.getD k [] = q at hc HN hq
        have hq2 : q.isEmpty = false := by simpa using hq
        clear HP
        go_wp2_with ((at_builtin; refine wpList_append_own _ rfl _ _ 40 rfl w1.heap.size 9 i0 (.string ByteArray.empty) 1 16 Tryd.underlying40 hi hz0 hz1 hz2 rfl (by decide) _ _ _ rfl (hown.alloc _) ⟨wr.heap.size, 0, none⟩ 1 1 [.string ⟨q.toArray⟩] rfl rfl (cell_one_new _ _ _) (fun x hx => by simp at hx; subst hx; rfl) (by unfold maxLen; omega) (by omega) (by simp; omega) ?_; intro v' w3 hown' hgrow3 hnil3))
        have hown2 : w3.ownsRow w1.heap.size 9 1 v' (qs ++ [q]).length (strs (qs ++ [q])) := by
          rw [strs_snoc, List.length_append]; exact hown'
        have hb2 := below_app' hb hown (Nat.le_refl _) hgrow3
        clear hown' hgrow3 hnil3 hown
        go_roundw
        case rel => exact ⟨k + 1, qs ++ [q], by omega, by simp; omega, by go_num, hown2, hb2, HN⟩
        case measure => simp [intOf]; omega
    · obtain rfl : k = ps.length := by omega
      have HN : Bx (wordsL s.data.toList = qs) := Bx.mk (by rw [HR.out, ← HP.out, List.take_of_length_le (Nat.le_refl _)])
      clear HP HR
      go_wp2
      go_ret
      exact ⟨_, rfl, by rw [HN.out]; exact own_mono hown HB.out.size, HB.out.trans (hb.mono HB.out.size)⟩
end Go.Proofs.YtfogcabhafhlmaaDoor
