/- Melodies that are made out of others: plain facts; the model's own and done. -/
import Derived.Test.YtendfnimhmnioaaDoorNi6
import Derived.Test.YtendfnimhmnioaaDoorNe3
namespace Go.Proofs.YtendfnimhmnioaaDoor
open Go.ChangeShapes Go.WideShapes Go.ChangeAt Go.RowKit
set_option linter.unusedVariables false
set_option linter.unusedSimpArgs false
set_option maxRecDepth 100000

def allN (T : List (Int × Int)) : Bool := (List.range T.length).all (fun i => okN (pat T i))
theorem allN_no {l : List (Int × Int)} (i : Nat) (h : i < l.length) (hs : okN (pat l i) = false) : allN l = false := by
  unfold allN
  rw [List.all_eq_false]
  exact ⟨i, by simpa using h, by simpa using hs⟩
theorem allN_yes {l : List (Int × Int)} (h : ∀ i, i < l.length → okN (pat l i) = true) : allN l = true := by
  unfold allN
  rw [List.all_eq_true]; intro i hi; exact h i (by simpa using hi)
theorem allN_at {l : List (Int × Int)} (h : allN l = true) (i : Nat) (hi : i < l.length) : okN (pat l i) = true := by
  unfold allN at h
  rw [List.all_eq_true] at h
  exact h i (by simpa using hi)
theorem allN_ok {l : List (Int × Int)} (h : okM l = true) : allN l = true := allN_yes (okM_yes h).2
/-- a melody that was made, or why there is none -/
def donE (T : List (Int × Int)) : List (Int × Int) × Int := if allN T = true then (if T.length ≤ 48 then (T, 0) else ([], 5)) else ([], 6)
theorem donE_len (T : List (Int × Int)) : (donE T).1.length ≤ 48 := by
  unfold donE
  split
  · split
    · assumption
    · simp
  · simp
theorem pat_map (f : Int × Int → Int × Int) (l : List (Int × Int)) (k : Nat) (h : k < l.length) : pat (l.map f) k = f (pat l k) := by simp [pat, h]
/-- a list of which the first k have been turned -/
def mixM (f : Int × Int → Int × Int) (l : List (Int × Int)) (k : Nat) : List (Int × Int) := (l.take k).map f ++ l.drop k
theorem mixM_len (f : Int × Int → Int × Int) (l : List (Int × Int)) (k : Nat) (h : k ≤ l.length) : (mixM f l k).length = l.length := by simp [mixM]; omega
theorem mixM_zero (f : Int × Int → Int × Int) (l : List (Int × Int)) : mixM f l 0 = l := by simp [mixM]
theorem mixM_all (f : Int × Int → Int × Int) (l : List (Int × Int)) : mixM f l l.length = l.map f := by simp [mixM]
theorem mixM_at (f : Int × Int → Int × Int) (l : List (Int × Int)) (k : Nat) (h : k < l.length) : pat (mixM f l k) k = pat l k := by
  rw [pat_get (by rw [mixM_len f l k (by omega)]; exact h), pat_get h]
  simp only [mixM]
  rw [List.getElem_append_right (by simp; omega)]
  simp [Nat.min_eq_left (Nat.le_of_lt h)]
theorem mixM_step (f : Int × Int → Int × Int) (l : List (Int × Int)) (k : Nat) (h : k < l.length) : (mixM f l k).set k (f (pat l k)) = mixM f l (k + 1) := by
  unfold mixM
  rw [List.drop_eq_getElem_cons h, List.set_append_right _ _ (by simp; omega), show k - ((l.take k).map f).length = 0 by simp; omega, List.set_cons_zero, List.take_succ_eq_append_getElem h, List.map_append, List.append_assoc, pat_get h]
  rfl
theorem pcl_set1 (l : List (Int × Int)) (k : Nat) (a : Int) (h : k < l.length) : (pcl l).set (k * 2) (.int .i64 a) = pcl (l.set k (a, (pat l k).2)) := by
  rw [← pcl_set l k (a, (pat l k).2) h]
  apply List.ext_getElem?
  intro j
  by_cases e : j = k * 2 + 1
  · subst e
    rw [List.getElem?_set_ne (by omega), pcl_at1 l k h, List.getElem?_set_self (by rw [List.length_set, pcl_len]; omega)]
  · rw [List.getElem?_set_ne (by omega) (i := k * 2 + 1)]
theorem pcl_set2 (l : List (Int × Int)) (k : Nat) (b : Int) (h : k < l.length) : (pcl l).set (k * 2 + 1) (.int .i64 b) = pcl (l.set k ((pat l k).1, b)) := by
  rw [← pcl_set l k ((pat l k).1, b) h]
  apply List.ext_getElem?
  intro j
  by_cases e : j = k * 2
  · subst e
    rw [List.getElem?_set_ne (by omega), pcl_at0 l k h, List.getElem?_set_ne (by omega), List.getElem?_set_self (by rw [pcl_len]; omega)]
  · by_cases e2 : j = k * 2 + 1
    · subst e2
      rw [List.getElem?_set_self (by rw [pcl_len]; omega), List.getElem?_set_self (by rw [List.length_set, pcl_len]; omega)]
    · rw [List.getElem?_set_ne (by omega), List.getElem?_set_ne (by omega), List.getElem?_set_ne (by omega)]
/-- what the model hands back -/
def dnV (T : List (Int × Int)) (v : Value) : Value := if (donE T).2 = 0 then v else .slice none 0 0
theorem dn_own {w : World} {base te : Nat} {T : List (Int × Int)} {v : Value} (h : w.ownsRow base te 2 v T.length (pcl T)) : w.ownsRow base te 2 (dnV T v) (donE T).1.length (pcl (donE T).1) := by
  unfold dnV donE
  split
  · split
    · rw [if_pos rfl]; exact h
    · rw [if_neg (by decide)]; exact World.ownsRow_nil _ _ _ _
  · rw [if_neg (by decide)]; exact World.ownsRow_nil _ _ _ _
def trF (by' : Int) (p : Int × Int) : Int × Int := (p.1 + by', p.2)
def miF (ax : Int) (p : Int × Int) : Int × Int := (2 * ax - p.1, p.2)
def stF (nu de : Int) (p : Int × Int) : Int × Int := (p.1, (p.2 * nu).tdiv de)
/-- no rest is left -/
def stOk (l : List (Int × Int)) (nu de : Int) : Bool := (List.range l.length).all fun i => decide (((pat l i).2 * nu).tmod de = 0)
theorem stOk_no {l : List (Int × Int)} {nu de : Int} (i : Nat) (h : i < l.length) (hs : ((pat l i).2 * nu).tmod de ≠ 0) : stOk l nu de = false := by
  unfold stOk
  rw [List.all_eq_false]
  exact ⟨i, by simpa using h, by simpa using hs⟩
theorem stOk_yes {l : List (Int × Int)} {nu de : Int} (h : ∀ i, i < l.length → ((pat l i).2 * nu).tmod de = 0) : stOk l nu de = true := by
  unfold stOk
  rw [List.all_eq_true]; intro i hi; simpa using h i (by simpa using hi)
/-- TransposeMelody, MirrorMelody, StretchMelody, JoinMelodies -/
def trE (l : List (Int × Int)) (n : Int) : List (Int × Int) × Int := if okM l = true then (if inB n (-35) 35 = true then donE (l.map (trF n)) else ([], 2)) else ([], 1)
def miE (l : List (Int × Int)) (n : Int) : List (Int × Int) × Int := if okM l = true then (if inB n (-12) 23 = true then donE (l.map (miF n)) else ([], 2)) else ([], 1)
def stE (l : List (Int × Int)) (nu de : Int) : List (Int × Int) × Int := if okM l = true then (if (inB nu 1 64 && inB de 1 64) = true then (if stOk l nu de = true then donE (l.map (stF nu de)) else ([], 6)) else ([], 2)) else ([], 1)
def joE (l m : List (Int × Int)) : List (Int × Int) × Int := if (okM l && okM m) = true then donE (l ++ m) else ([], 1)
theorem trE_len (l : List (Int × Int)) (n : Int) : (trE l n).1.length ≤ 48 := by
  unfold trE; split
  · split
    · exact donE_len _
    · simp
  · simp
theorem miE_len (l : List (Int × Int)) (n : Int) : (miE l n).1.length ≤ 48 := by
  unfold miE; split
  · split
    · exact donE_len _
    · simp
  · simp
theorem stE_len (l : List (Int × Int)) (nu de : Int) : (stE l nu de).1.length ≤ 48 := by
  unfold stE; split
  · split
    · split
      · exact donE_len _
      · simp
    · simp
  · simp
theorem joE_len (l m : List (Int × Int)) : (joE l m).1.length ≤ 48 := by
  unfold joE; split
  · exact donE_len _
  · simp
set_option maxHeartbeats 2000000 in
theorem spec_own9 (v : Value) (l : List (Int × Int)) (w : World) (h : PrsAt w v l) (hm : l.length ≤ 48) :
    Calls Tryd.prog 34 #[v] w (NewNts l w) := by
  obtain ⟨i0, hi, hz0, hz1, hz2⟩ := info_parts infoNoteL
  have HO : Bx ((w.alloc (.cells #[] 45)).ownsRow w.heap.size 45 2 (.slice (some ⟨w.heap.size, 0, none⟩) 0 0) 0 []) := Bx.mk (World.ownsRow_lit _ _ _ (Nat.le_refl _) (by decide) (by decide))
  rcases h with ⟨rfl, A, c, rfl⟩ | ⟨b, o, c, rfl, hb, hc⟩
  · cases A with
    | none =>
      go_enter Tryd.func34, Tryd.ntmps34
      go_wp2_with (fail)
      go_ret
      exact ⟨_, rfl, by simpa [pcl] using HO.out, (Below.refl _ _).alloc (Nat.le_refl _) _⟩
    | some a =>
      go_enter Tryd.func34, Tryd.ntmps34
      go_wp2_with ((at_builtin; refine wpList_append_own _ rfl _ _ 24 rfl w.heap.size 45 i0 _ 2 16 Tryd.underlying24 hi hz0 hz1 hz2 rfl (by decide) _ _ _ rfl HO.out a 0 c [] rfl rfl (by intro j u hj; simp at hj) (by intro u hu; cases hu) (by unfold maxLen; omega) (by omega) (by simp) ?_; intro v' w3 hown' hgrow3 hnil3; have HO3 := Bx.mk hown'; have HB3 := Bx.mk (Below.grown ((Below.refl w.heap.size w).alloc (Nat.le_refl _) (.cells #[] 45)) hgrow3 (by simp) (fun k hk => own_lo HO.out k hk)); clear hown' hgrow3 hnil3))
      go_ret
      exact ⟨_, rfl, by have := HO3.out; simpa [pcl] using this, HB3.out⟩
  · have HN := Bx.mk (prs_news (w := w.alloc (.cells #[] 45)) (b := b) (o := o) (l := l) (fun k hk => ⟨(((Below.refl w.heap.size w).alloc (Nat.le_refl _) (.cells #[] 45)).cell (p := ⟨b, o + k * 2, none⟩) hb).trans (hc k hk).1, (((Below.refl w.heap.size w).alloc (Nat.le_refl _) (.cells #[] 45)).cell (p := ⟨b, o + k * 2 + 1, none⟩) hb).trans (hc k hk).2⟩))
    clear hc
    go_enter Tryd.func34, Tryd.ntmps34
    go_wp2_with ((at_builtin; refine wpList_append_own _ rfl _ _ 24 rfl w.heap.size 45 i0 _ 2 16 Tryd.underlying24 hi hz0 hz1 hz2 rfl (by decide) _ _ _ rfl HO.out ⟨b, o, none⟩ l.length c (pcl l) rfl (by rw [pcl_len]; omega) HN.out (pcl_one l) (by unfold maxLen; omega) (by omega) (by simp) ?_; intro v' w3 hown' hgrow3 hnil3; have HO3 := Bx.mk hown'; have HB3 := Bx.mk (Below.grown ((Below.refl w.heap.size w).alloc (Nat.le_refl _) (.cells #[] 45)) hgrow3 (by simp) (fun k hk => own_lo HO.out k hk)); clear hown' hgrow3 hnil3))
    go_ret
    exact ⟨_, rfl, by have := HO3.out; simpa using this, HB3.out⟩
theorem spec_by9 (n : Int) (w : World) : Calls Tryd.prog 33 #[.int .i64 n] w fun e w' => e = .returned (.bool (inB n (-35) 35)) ∧ w = w' := by
  have hin := fun W => in_any n (-35) 35 W
  generalize inB n (-35) 35 = b at hin ⊢
  go_enter Tryd.func33, Tryd.ntmps33
  go_wp2_with (fail)
  refine (hin _).mono ?_
  rintro e w' ⟨rfl, rfl⟩
  go_wp2_with (fail)
  go_ret
  exact ⟨rfl, rfl⟩
set_option maxHeartbeats 2000000 in
theorem spec_done9 (A : Option Addr) (c : Nat) (l : List (Int × Int)) (w : World) (h : PrsAt w (.slice A l.length c) l) (hm : l.length ≤ 1048576) :
    Calls Tryd.prog 35 #[.slice A l.length c] w fun e w' => e = .returned (.tuple #[dnV l (.slice A l.length c), .int .i64 (donE l).2]) ∧ w = w' := by
  have HI := Bx.mk h
  have HU : Bx (∀ v, allN l = false → (dnV l v = .slice none 0 0 ∧ (donE l).2 = 6)) := Bx.mk (fun v h => by simp [dnV, donE, h])
  have HU2 : Bx (∀ v, allN l = true → 48 < l.length → (dnV l v = .slice none 0 0 ∧ (donE l).2 = 5)) := Bx.mk (fun v h h2 => by simp [dnV, donE, h, show ¬ l.length ≤ 48 by omega])
  have HU3 : Bx (∀ v, allN l = true → l.length ≤ 48 → (dnV l v = v ∧ (donE l).2 = 0)) := Bx.mk (fun v h h2 => by simp [dnV, donE, h, h2])
  have HR : Bx (∀ code v, (dnV l (.slice A l.length c) = v ∧ (donE l).2 = code) → (.tuple #[v, .int .i64 code] : Value) = .tuple #[dnV l (.slice A l.length c), .int .i64 (donE l).2]) := Bx.mk (fun code v h => by rw [h.1, h.2])
  clear h
  go_enter Tryd.func35, Tryd.ntmps35
  go_wp2_with (fail)
  go_loopw [4] (fun i wr => ∃ k : Nat, k ≤ l.length ∧ i = .int .i64 k ∧ Bx (∀ i, i < k → okN (pat l i) = true) ∧ wr = w) (fun i _ => l.length - (intOf i).toNat)
  case atStart => exact ⟨0, Nat.zero_le _, rfl, Bx.mk (fun i hi => absurd hi (Nat.not_lt_zero _)), rfl⟩
  case round =>
    obtain ⟨k, hk, rfl, HK, rfl⟩ := hrel
    by_cases hlt : k < l.length
    · obtain ⟨b, o, rfl, hb, hc⟩ := prs_form HI.out (by omega)
      obtain ⟨h1, h2⟩ := hc k hlt
      have k1 : (0 : Int) ≤ (k : Int) := by omega
      have k2 : (k : Int) < (l.length : Int) := by omega
      have HN := Bx.mk (allN_no (l := l) k hlt)
      have HS := Bx.mk (fun h : okN (pat l k) = true => (fun i (hi : i < k + 1) => by
        by_cases hik : i = k
        · subst hik; exact h
        · exact HK.out i (by omega) : ∀ i, i < k + 1 → okN (pat l i) = true))
      clear hc HK HI HU2 HU3
      generalize pat l k = p at *
      obtain ⟨p1, p2⟩ := p
      dsimp only at h1 h2
      have hp := fun W => spec_pitch p1 W
      have hq := fun W => spec_nlen p2 W
      cases hb1 : inB p1 (-12) 23
      · have HE := Bx.mk (HN.out (by simp [okN, hb1]))
        rw [hb1] at hp
        clear HN HS hb1
        go_wp2_with (fail)
        refine (hp _).mono ?_
        rintro r w1 ⟨rfl, rfl⟩
        go_wp2_with (fail)
        go_ret2
        exact ⟨congrArg Ending.returned (HR.out 6 _ (HU.out _ HE.out)), rfl⟩
      · cases hb2 : inB p2 1 64
        · have HE := Bx.mk (HN.out (by simp [okN, hb2]))
          rw [hb1] at hp
          rw [hb2] at hq
          clear HN HS hb1 hb2
          go_wp2_with (fail)
          refine (hp _).mono ?_
          rintro r w1 ⟨rfl, rfl⟩
          go_wp2_with (fail)
          refine (hq _).mono ?_
          rintro r w1 ⟨rfl, rfl⟩
          go_wp2_with (fail)
          go_ret2
          exact ⟨congrArg Ending.returned (HR.out 6 _ (HU.out _ HE.out)), rfl⟩
        · have HS2 := Bx.mk (HS.out (by simp [okN, hb1, hb2]))
          rw [hb1] at hp
          rw [hb2] at hq
          clear HN HS hb1 hb2
          go_wp2_with (fail)
          refine (hp _).mono ?_
          rintro r w1 ⟨rfl, rfl⟩
          go_wp2_with (fail)
          refine (hq _).mono ?_
          rintro r w1 ⟨rfl, rfl⟩
          go_wp2_with (fail)
          go_roundw
          case rel => exact ⟨k + 1, by omega, by go_num, HS2, by first | rfl | trivial⟩
          case measure => simp [intOf]; omega
    · obtain rfl : k = l.length := by omega
      have HE := Bx.mk (allN_yes HK.out)
      by_cases h48 : l.length ≤ 48
      · have d1 : decide ((l.length : Int) > 48) = false := decide_eq_false (by omega)
        have d2 : ¬ ((l.length : Int) > 48) := by omega
        go_wp2_with (fail)
        go_ret2
        exact ⟨congrArg Ending.returned (HR.out 0 _ (HU3.out _ HE.out h48)), rfl⟩
      · have d1 : decide ((l.length : Int) > 48) = true := decide_eq_true (by omega)
        have d2 : (l.length : Int) > 48 := by omega
        go_wp2_with (fail)
        go_ret2
        exact ⟨congrArg Ending.returned (HR.out 5 _ (HU2.out _ HE.out (by omega))), rfl⟩
end Go.Proofs.YtendfnimhmnioaaDoor
