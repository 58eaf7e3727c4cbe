/- ReadPhrases, by the model. -/
import Derived.Test.YtgkdonnkiljplaaDoorPy0
namespace Go.Proofs.YtgkdonnkiljplaaDoor
open Go.ChangeShapes Go.WideShapes Go.ChangeAt Go.RowKit
set_option linter.unusedVariables false
set_option linter.unusedSimpArgs false
set_option maxRecDepth 100000

set_option maxHeartbeats 4000000 in
theorem spec_l06read (s : ByteArray) (w : World) (hs : s.size ≤ 1048576) : Calls Tryd.prog 9 #[.string s] w (RowsOut (readPh s.data.toList) w) := by
  obtain ⟨i0, hi, hz0, hz1, hz2⟩ := info_parts infoRow
  by_cases h1 : s.data.toList = []
  · have HR : Bx (readPh s.data.toList = some []) := Bx.mk (by unfold readPh; rw [if_pos h1])
    have hE : (s.toList == []) = true := by rw [ByteArray.toList_eq, h1]; rfl
    have hE2 : s.toList = [] := by rw [ByteArray.toList_eq, h1]
    clear h1
    go_enter Tryd.func9, Tryd.ntmps9
    go_wp2_with (fail)
    go_returns
    exact ro_some (V := fun _ => .bool false) HR.out ⟨World.ownsRow_lit _ _ _ (Nat.le_refl _) (by decide) (by decide), fun k hk => absurd hk (Nat.not_lt_zero _), fun k hk => absurd hk (Nat.not_lt_zero _), fun j k _ hk => absurd hk (Nat.not_lt_zero _)⟩ ((Below.refl _ _).alloc (Nat.le_refl _) _)
  · have HR : Bx (readPh s.data.toList = phsOf (cutL 59 s.data.toList)) := Bx.mk (by unfold readPh; rw [if_neg h1])
    have hE : (s.toList == []) = false := by rw [ByteArray.toList_eq]; simpa using h1
    have hE2 : ¬ s.toList = [] := by rw [ByteArray.toList_eq]; exact h1
    have hE3 : s.toList.isEmpty = false := by cases h : s.toList with
      | nil => exact absurd h hE2
      | cons a b => rfl
    have HPL : Bx (∀ p ∈ cutL 59 s.data.toList, p.length ≤ 1048576) := Bx.mk (fun p hp => by have := piece_len 59 _ p hp; simp at this; omega)
    have hcl : (cutL 59 s.data.toList).length ≤ 1048577 := by have := cut_len 59 s.data.toList; simp at this; omega
    have hsplit := fun W => spec_split s 59 W (by omega)
    obtain ⟨p0, pr, hne⟩ := cut_ne 59 s.data.toList
    have hn1 : 1 ≤ (cutL 59 s.data.toList).length := by rw [hne]; simp
    clear h1 hne
    generalize readPh s.data.toList = o at HR ⊢
    generalize cutL 59 s.data.toList = ps at *
    go_enter Tryd.func9, Tryd.ntmps9
    go_wp2_with (fail)
    refine (hsplit _).mono ?_
    rintro r w1 ⟨v, rfl, hown, hb⟩
    obtain ⟨g, cap, rfl, hg1, hg2⟩ := hown.form (by omega)
    have HPS := Bx.mk (owndown (b1 := w.heap.size) (by simp) hown)
    have HB1 : Bx (Below w.heap.size w w1) := Bx.mk (((Below.refl _ _).alloc (Nat.le_refl _) _).trans (hb.mono (by simp)))
    have HR0 : Bx (w1.ownsRow w.heap.size 31 1 (.slice (some ⟨w.heap.size, 0, none⟩) 0 0) 0 []) := Bx.mk (own_below (World.ownsRow_lit _ _ _ (Nat.le_refl _) (by decide) (by decide)) hb)
    clear hown hb hsplit hg1
    go_wp2_with (fail)
    go_loopw [4, 6] (fun v i wr => ∃ (k : Nat) (L : List (List Int)) (V : Nat → Value), k ≤ ps.length ∧ L.length = k ∧ i = .int .i64 k ∧ Bx (RowsOwn wr w.heap.size v L V) ∧ Bx (wr.ownsRow w.heap.size 9 1 (.slice (some ⟨g, 0, none⟩) ps.length cap) ps.length (strs ps)) ∧ Bx (Below w.heap.size w wr) ∧ Bx (readRows ps = (readRows (ps.drop k)).map (L ++ ·)) ∧ Bx (∀ i, i < L.length → (L.getD i []).length ≤ 64)) (fun _ i _ => ps.length - (intOf i).toNat)
    case atStart => exact ⟨0, [], fun _ => .bool false, Nat.zero_le _, rfl, rfl, Bx.mk ⟨HR0.out, fun k hk => absurd hk (Nat.not_lt_zero _), fun k hk => absurd hk (Nat.not_lt_zero _), fun j k _ hk => absurd hk (Nat.not_lt_zero _)⟩, HPS, HB1, Bx.mk (by simp), Bx.mk (fun i hi => absurd hi (Nat.not_lt_zero _))⟩
    case round =>
      clear HR0 HPS HB1
      obtain ⟨k, L, V, hk, hLk, rfl, HO, HPS, HBW, HP, HG⟩ := hrel
      by_cases hlt : k < ps.length
      · have hc : wr.cell? ⟨g, k, none⟩ = some (.string ⟨(ps.getD k []).toArray⟩) := str_cells HPS.out k hlt
        have hql : (ps.getD k []).length ≤ 1048576 := by
          have : ps.getD k [] ∈ ps := by simp [List.getD, hlt]
          exact HPL.out _ this
        have H0 := Bx.mk (rr_none ps L k hlt HP.out)
        have H1 := Bx.mk (fun v => rr_some ps L k v hlt HP.out)
        have HZ := Bx.mk (readL_len (ps.getD k []))
        have k1 : (0 : Int) ≤ (k : Int) := by omega
        have k2 : (k : Int) < (ps.length : Int) := by omega
        have d1 : decide ((k : Int) < (ps.length : Int)) = true := decide_eq_true k2
        generalize ps.getD k [] = q at *
        have hq := spec_readlist ⟨q.toArray⟩ wr (by show q.toArray.size ≤ 1048576; simp; omega)
        have e0 : (⟨q.toArray⟩ : ByteArray).data.toList = q := by simp
        rw [e0] at hq
        clear e0 hql
        cases hz : readL q with
        | none =>
          have HN : Bx (o = none) := Bx.mk (HR.out.trans (phsOf_none (H0.out hz)))
          rw [hz] at hq
          clear H0 H1 HP HR HO HG HZ hz
          go_wp2_with (fail)
          refine hq.mono ?_
          rintro r w4 ho
          obtain ⟨v4, rfl, ho4, hb4⟩ := lo_parts ho
          have HB4 := Bx.mk (HBW.out.trans (hb4.mono HBW.out.size))
          obtain ⟨A4, c4, rfl⟩ := own_len ho4
          clear ho ho4 hb4
          simp only [Option.isSome_none, Option.getD_none]
          go_wp2_with (fail)
          go_returns
          exact ro_none HN.out HB4.out
        | some zs =>
          have HN := Bx.mk (H1.out zs hz)
          rw [hz] at hq HZ
          clear H0 H1 HP hz
          obtain ⟨Av, cv, rfl⟩ := own_len HO.out.out
          go_wp2_with (fail)
          refine hq.mono ?_
          rintro r w4 ho
          obtain ⟨v4, rfl, ho4, hb4⟩ := lo_parts ho
          simp only [Option.isSome_some, Option.getD_some] at ho4 ⊢
          obtain ⟨A4, c4, rfl⟩ := own_len ho4
          have HO4 := Bx.mk ho4
          have HOr := Bx.mk (RowsOwn.below HO.out hb4)
          have HPS4 := Bx.mk (own_below HPS.out hb4)
          have HBW4 := Bx.mk (HBW.out.trans (hb4.mono HBW.out.size))
          have HV1 := Bx.mk (own_hi HO.out.out)
          have HV2 := Bx.mk (fun i (hi : i < L.length) => own_hi (HO.out.row i hi))
          have hszw := HBW4.out.size
          have HSW := Bx.mk HBW.out.size
          clear ho ho4 hb4 hq HO HPS
          go_wp2_with ((at_builtin; refine wpList_append_own _ rfl _ _ 22 rfl w.heap.size 31 i0 (.slice none 0 0) 1 24 Tryd.underlying22 hi hz0 hz1 hz2 rfl (by decide) _ _ _ rfl (HOr.out.out.alloc _) ⟨w4.heap.size, 0, none⟩ 1 1 [.slice A4 zs.length c4] rfl rfl (cell_one_new _ _ _) (fun x hx => by simp at hx; subst hx; rfl) (by unfold maxLen; omega) (by omega) (by simp; omega) ?_; intro v' w3 hown' hgrow3 hnil3))
          have HN2 := Bx.mk (RowsOwn.snoc HOr.out HO4.out HSW.out HV1.out HV2.out hgrow3 hown')
          have HB2 := Bx.mk (below_app' HBW4.out HOr.out.out (Nat.le_refl _) hgrow3)
          have HPS2 := Bx.mk ((HPS4.out.alloc _).kept hgrow3 (ne_row (own_types HOr.out.out HPS4.out (by decide))))
          have HG2 := Bx.mk (rows_lens HG.out HZ.out)
          clear hown' hgrow3 hnil3
          go_roundw
          case rel => exact ⟨k + 1, L ++ [zs], _, by omega, by simp; omega, by go_num, HN2, HPS2, HB2, HN, HG2⟩
          case measure => simp [intOf]; omega
      · obtain rfl : k = ps.length := by omega
        have d1 : decide ((ps.length : Int) < (ps.length : Int)) = false := decide_eq_false (by omega)
        have HN := Bx.mk (rr_end ps L HP.out)
        have hq := spec_ok6W _ L wr HO.out.at (by omega) (fun i hi => Nat.le_trans (HG.out i hi) (by decide))
        obtain ⟨Av, cv, rfl⟩ := own_len HO.out.out
        clear HP HG hLk HPS hcl
        cases hp : phsB L
        · have HE : Bx (o = none) := Bx.mk (HR.out.trans (phsOf_no HN.out hp))
          rw [hp] at hq
          clear hp HR HN HO
          go_wp2_with (fail)
          refine hq.mono ?_
          rintro r w5 ⟨rfl, n, rfl⟩
          go_wp2_with (fail)
          go_returns
          exact ro_none HE.out (below_draws HBW.out n)
        · have HE : Bx (o = some L) := Bx.mk (HR.out.trans (phsOf_yes HN.out hp))
          rw [hp] at hq
          clear hp HR HN
          go_wp2_with (fail)
          refine hq.mono ?_
          rintro r w5 ⟨rfl, n, rfl⟩
          go_wp2_with (fail)
          go_returns
          exact ro_some HE.out (RowsOwn.below HO.out (below_draws (Below.refl _ _) n)) (below_draws HBW.out n)
end Go.Proofs.YtgkdonnkiljplaaDoor
