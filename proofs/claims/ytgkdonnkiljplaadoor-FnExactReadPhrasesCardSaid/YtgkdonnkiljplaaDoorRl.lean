/- readLists, by the program. -/
import Derived.Test.YtgkdonnkiljplaaDoorPy0
namespace Go.Proofs.YtgkdonnkiljplaaDoor
open Go.ChangeShapes Go.WideShapes Go.ChangeAt Go.RowKit
set_option linter.unusedVariables false
set_option linter.unusedSimpArgs false
set_option maxRecDepth 100000

/-- rows of pieces, where there are not too many -/
def fewOf (most : Nat) (o : Option (List (List Int))) : Option (List (List Int)) := match o with
  | some L => if L.length ≤ most then some L else none
  | none => none
/-- what readLists reads -/
def readLs (most : Nat) (l : List UInt8) : Option (List (List Int)) := fewOf most (readRows (cutL 59 l))
theorem few_none {most : Nat} {o : Option (List (List Int))} (h : o = none) : fewOf most o = none := by rw [h]; rfl
theorem few_yes {most : Nat} {o : Option (List (List Int))} {L : List (List Int)} (h : o = some L) (hl : L.length ≤ most) : fewOf most o = some L := by rw [h]; simp [fewOf, hl]
theorem few_many {most : Nat} {ps : List (List UInt8)} (h : most < ps.length) : fewOf most (readRows ps) = none := by
  cases hr : readRows ps with
  | none => rfl
  | some L =>
    have := rr_len ps L hr
    show (if L.length ≤ most then some L else none) = none
    rw [if_neg (by omega)]
theorem few_cutN (most k : Nat) (l : List UInt8) (hk : k = most ∨ l.length ≤ k) : fewOf most (readRows (cutN 59 k l)) = readLs most l := by
  unfold readLs
  rcases cutN_ways 59 k l with ⟨h, _⟩ | ⟨h1, h2, p, hp, h59⟩
  · rw [h]
  · rw [rr_bad _ p hp (readL_59 h59)]
    rcases hk with hk | hk
    · subst hk
      exact (few_many (by omega)).symm
    · exfalso
      have := cut_len 59 l
      omega
theorem impl_splitL (s : ByteArray) (c : UInt8) (n : Nat) (w : World) (hs : s.size < 4294967281) (hm : ∃ m, w.cell? ⟨0, 0, none⟩ = some (.int .i64 m)) (hn : 1 ≤ n) (hn2 : n ≤ 1000) :
    Calls Tryd.prog 18 #[.string s, .string ⟨#[c]⟩, .int .i64 (n : Int)] w fun e w' => ∃ g cap, e = .returned (.slice (some ⟨g, 0, none⟩) (cutN c (min n (s.size + 1) - 1) s.data.toList).length cap) ∧ g < w'.heap.size ∧
      (∀ k, k < (cutN c (min n (s.size + 1) - 1) s.data.toList).length → w'.cell? ⟨g, k, none⟩ = some (.string ⟨((cutN c (min n (s.size + 1) - 1) s.data.toList).getD k []).toArray⟩)) ∧ Below w.heap.size w w' := by
  obtain ⟨m, hm⟩ := hm
  refine (Tryd.strings_SplitN s ⟨#[c]⟩ n m w hs hm (Nat.le_refl 1) hn (by omega)).mono ?_
  rintro e w' ⟨rfl, rfl⟩
  have h1 := split_cutN c (min n (s.size + 1) - 1) s
  have h3 : (cutN c (min n (s.size + 1) - 1) s.data.toList).length = (Lib.splitB ⟨#[c]⟩ 0 (min n (s.size + 1) - 1) s).length := by rw [← h1, List.length_map]
  refine ⟨w.heap.size, _, by rw [h3], by simp, fun k hk => ?_, (Below.refl _ _).alloc (Nat.le_refl _) _⟩
  rw [World.cell?_alloc_at _ _ _ _ rfl, ← h1]
  have hk2 : k < (Lib.splitB ⟨#[c]⟩ 0 (min n (s.size + 1) - 1) s).length := by rw [← h3]; exact hk
  unfold Lib.cellsOf
  rw [List.getElem?_toArray, List.getElem?_append_left (by simpa using hk2)]
  simp only [List.getElem?_map, List.getElem?_eq_getElem hk2, Option.map_some, List.getD, Option.getD_some]
set_option maxHeartbeats 4000000 in
theorem impl_readlists (s : ByteArray) (most : Nat) (w : World) (hs : s.size ≤ 1048576) (hmo : most ≤ 998) (hv : Bx (Vars w)) (hm : Bx (∃ m, w.cell? ⟨0, 0, none⟩ = some (.int .i64 m))) (hgm : 0 < w.heap.size) :
    Calls Tryd.prog 10 #[.string s, .int .i64 (most : Int)] w (RowsOut (readLs most s.data.toList) w) := by
  obtain ⟨i0, hi, hz0, hz1, hz2⟩ := info_parts infoRow
  have hsz : s.data.toList.length = s.size := by simp
  have HR : Bx (readLs most s.data.toList = fewOf most (readRows (cutN 59 (min (most + 1) (s.size + 1) - 1) s.data.toList))) := Bx.mk (by
    rw [few_cutN]
    rcases Nat.lt_or_ge s.size most with h | h
    · right; omega
    · left; omega)
  have hcl := cutN_len 59 (min (most + 1) (s.size + 1) - 1) s.data.toList
  have HPL : Bx (∀ k, k < (cutN 59 (min (most + 1) (s.size + 1) - 1) s.data.toList).length → ((cutN 59 (min (most + 1) (s.size + 1) - 1) s.data.toList).getD k []).length ≤ 1048576) := Bx.mk (fun k hk => by
    have hp : (cutN 59 (min (most + 1) (s.size + 1) - 1) s.data.toList).getD k [] ∈ cutN 59 (min (most + 1) (s.size + 1) - 1) s.data.toList := by rw [List.getD, List.getElem?_eq_getElem hk, Option.getD_some]; exact List.getElem_mem hk
    have := cutN_piece 59 (min (most + 1) (s.size + 1) - 1) s.data.toList _ hp
    omega)
  have hsplit := fun W hm => impl_splitL s 59 (most + 1) W (by omega) hm (by omega) (by omega)
  rw [show ((most + 1 : Nat) : Int) = (most : Int) + 1 by omega] at hsplit
  have hcl2 : (cutN 59 (min (most + 1) (s.size + 1) - 1) s.data.toList).length ≤ most + 1 := by omega
  clear hcl hsz
  generalize readLs most s.data.toList = o at HR ⊢
  generalize cutN 59 (min (most + 1) (s.size + 1) - 1) s.data.toList = ps at *
  have HS := Bx.mk hsplit
  clear hsplit
  go_enter Tryd.func10, Tryd.ntmps10
  go_wp2_with (fail)
  refine (HS.out _ hm.out).mono ?_
  rintro r w1 ⟨g, cap, rfl, hg2, hcs, hb⟩
  have HC := Bx.mk hcs
  have HB1 := Bx.mk hb
  have HG2 := Bx.mk hg2
  clear hcs hb hg2 HS
  go_wp2_with (fail)
  go_loopw [6, 16] (fun v i wr => ∃ (k : Nat) (L : List (List Int)) (V : Nat → Value), k ≤ ps.length ∧ k ≤ most ∧ L.length = k ∧ i = .int .i64 k ∧ Bx (RowsOwn wr w1.heap.size v L V) ∧ Bx (Below w1.heap.size w1 wr) ∧ Bx (readRows ps = (readRows (ps.drop k)).map (L ++ ·))) (fun _ i _ => ps.length - (intOf i).toNat)
  case atStart => exact ⟨0, [], fun _ => .bool false, Nat.zero_le _, Nat.zero_le _, rfl, rfl, Bx.mk (RowsOwn.nil _ _ _), Bx.mk (Below.refl _ _), Bx.mk (by simp)⟩
  case round =>
    obtain ⟨k, L, V, hk, hkm, hLk, rfl, HO, HBr, HP⟩ := hrel
    by_cases hlt : k < ps.length
    · have hc : wr.cell? ⟨g, k, none⟩ = some (.string ⟨(ps.getD k []).toArray⟩) := (HBr.out.cell (p := ⟨g, k, none⟩) HG2.out).trans (HC.out k hlt)
      have hql := HPL.out k hlt
      have H0 := Bx.mk (rr_none ps L k hlt HP.out)
      have H1 := Bx.mk (fun v => rr_some ps L k v hlt HP.out)
      have k1 : (0 : Int) ≤ (k : Int) := by omega
      have k2 : (k : Int) < (ps.length : Int) := by omega
      have d1 : decide ((k : Int) < (ps.length : Int)) = true := decide_eq_true k2
      have HBW := Bx.mk (HB1.out.trans (HBr.out.mono HB1.out.size))
      generalize ps.getD k [] = q at *
      have hq := impl_readlist ⟨q.toArray⟩ wr (by show q.toArray.size ≤ 1048576; simp; omega) (Bx.mk (hv.out.below HBW.out)) (Bx.mk (maxlen_below hm.out hgm HBW.out))
      have e0 : (⟨q.toArray⟩ : ByteArray).data.toList = q := by simp
      rw [e0] at hq
      clear e0 hql
      cases hz : readL q with
      | none =>
        have HN : Bx (o = none) := Bx.mk (HR.out.trans (few_none (H0.out hz)))
        rw [hz] at hq
        clear H0 H1 HP HR HO hz
        go_wp2_with (fail)
        refine hq.mono ?_
        rintro r w4 ho
        obtain ⟨v4, rfl, ho4, hb4⟩ := lo_parts ho
        have HB4 := Bx.mk (HBW.out.trans (hb4.mono HBW.out.size))
        obtain ⟨A4, c4, rfl⟩ := own_len ho4
        clear ho ho4 hb4
        simp only [Option.isSome_none, Option.getD_none]
        go_wp2_with (fail)
        go_returns
        exact ro_none HN.out HB4.out
      | some zs =>
        have HN := Bx.mk (H1.out zs hz)
        rw [hz] at hq
        clear H0 H1 HP hz
        obtain ⟨Av, cv, rfl⟩ := own_len HO.out.out
        by_cases hful : k = most
        · have HE : Bx (o = none) := Bx.mk (HR.out.trans (few_many (by omega)))
          have HFU := Bx.mk hful
          have HLK := Bx.mk hLk
          have hbq : ((L.length : Int) == (most : Int)) = true := by rw [beq_iff_eq]; omega
          have hbq2 : decide ((L.length : Int) = (most : Int)) = true := decide_eq_true (by omega)
          clear HN HR hful hLk
          go_wp2_with (fail)
          refine hq.mono ?_
          rintro r w4 ho
          obtain ⟨v4, rfl, ho4, hb4⟩ := lo_parts ho
          have HB4 := Bx.mk (HBW.out.trans (hb4.mono HBW.out.size))
          simp only [Option.isSome_some, Option.getD_some] at ho4 ⊢
          obtain ⟨A4, c4, rfl⟩ := own_len ho4
          clear ho ho4 hb4 HO
          go_wp2_with (fail)
          go_returns
          exact ro_none HE.out HB4.out
        · have hbq : ((L.length : Int) == (most : Int)) = false := beq_eq_false_iff_ne.2 (by omega)
          have hbq2 : decide ((L.length : Int) = (most : Int)) = false := decide_eq_false (by omega)
          go_wp2_with (fail)
          refine hq.mono ?_
          rintro r w4 ho
          obtain ⟨v4, rfl, ho4, hb4⟩ := lo_parts ho
          simp only [Option.isSome_some, Option.getD_some] at ho4 ⊢
          obtain ⟨A4, c4, rfl⟩ := own_len ho4
          have HO4 := Bx.mk ho4
          have HOr := Bx.mk (RowsOwn.below HO.out hb4)
          have HBr4 := Bx.mk (HBr.out.trans (hb4.mono HBr.out.size))
          have HV1 := Bx.mk (own_hi HO.out.out)
          have HV2 := Bx.mk (fun i (hi : i < L.length) => own_hi (HO.out.row i hi))
          have hszw := HBr4.out.size
          have HSW := Bx.mk HBr.out.size
          clear ho ho4 hb4 hq HO HBr
          go_wp2_with ((at_builtin; refine wpList_append_own _ rfl _ _ 22 rfl w1.heap.size 31 i0 (.slice none 0 0) 1 24 Tryd.underlying22 hi hz0 hz1 hz2 rfl (by decide) _ _ _ rfl (HOr.out.out.alloc _) ⟨w4.heap.size, 0, none⟩ 1 1 [.slice A4 zs.length c4] rfl rfl (cell_one_new _ _ _) (fun x hx => by simp at hx; subst hx; rfl) (by unfold maxLen; omega) (by omega) (by simp; omega) ?_; intro v' w3 hown' hgrow3 hnil3))
          have HN2 := Bx.mk (RowsOwn.snoc HOr.out HO4.out HSW.out HV1.out HV2.out hgrow3 hown')
          have HB2 := Bx.mk (below_app' HBr4.out HOr.out.out (Nat.le_refl _) hgrow3)
          clear hown' hgrow3 hnil3
          go_roundw
          case rel => exact ⟨k + 1, L ++ [zs], _, by omega, by omega, by simp; omega, by go_num, HN2, HB2, HN⟩
          case measure => simp [intOf]; omega
    · obtain rfl : k = ps.length := by omega
      have d1 : decide ((ps.length : Int) < (ps.length : Int)) = false := decide_eq_false (by omega)
      have HN := Bx.mk (rr_end ps L HP.out)
      have HE : Bx (o = some L) := Bx.mk (HR.out.trans (few_yes HN.out (by omega)))
      have HBW := Bx.mk (HB1.out.trans (HBr.out.mono HB1.out.size))
      have HOW := Bx.mk (RowsOwn.down HB1.out.size HO.out)
      obtain ⟨Av, cv, rfl⟩ := own_len HO.out.out
      clear HP hLk hcl2 HO HBr HR HN
      go_wp2_with (fail)
      go_returns
      exact ro_some HE.out HOW.out HBW.out
end Go.Proofs.YtgkdonnkiljplaaDoor
