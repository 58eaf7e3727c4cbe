/- MelodyText: the program, its loop. -/
import Derived.Test.YtendfnimhmnioaaDoorNm3
import Derived.Test.YtendfnimhmnioaaDoorNap
import Derived.Test.YtendfnimhmnioaaDoorNe3
namespace Go.Proofs.YtendfnimhmnioaaDoor
open Go.ChangeShapes Go.WideShapes Go.ChangeAt Go.RowKit
set_option linter.unusedVariables false
set_option linter.unusedSimpArgs false
set_option maxRecDepth 100000

/-- the notes' texts as lists of bytes -/
def qsN (l : List (Int × Int)) (k : Nat) : List (List UInt8) := (wdN l k).map (·.data.toList)
theorem qsN_len (l : List (Int × Int)) (k : Nat) : (qsN l k).length = k := by simp [qsN, wdN]
theorem qsN_succ (l : List (Int × Int)) (k : Nat) : qsN l (k + 1) = qsN l k ++ [(ntS (pat l k)).data.toList] := by simp [qsN, wdN, List.range_succ]
theorem str_of (X : ByteArray) : (⟨X.data.toList.toArray⟩ : ByteArray) = X := rfl
theorem qsN_join (l : List (Int × Int)) (k : Nat) : (⟨(Lib.join (qsN l k) [32]).toArray⟩ : ByteArray) = txS l k := txS_join l k
set_option maxHeartbeats 4000000 in
theorem impl_melodytext (v : Value) (l : List (Int × Int)) (w : World) (h : PrsAt w v l) (hm : l.length ≤ 1048576) (htab : Bx (Lib.TabIs Tryd.prog w "internal/strconv.uint64pow10" .u64 Lib.pow10Tab)) :
    Calls Tryd.prog 29 #[v] w fun e w' => e = .returned (.string (textM l)) ∧ Below w.heap.size w w' := by
  have hq := fun W h => impl_validmelody v l W h hm
  have h' := h
  obtain ⟨A, c, rfl⟩ := prs_len h'
  have HI := Bx.mk h
  clear h hm h'
  cases hok : okM l
  · have HE : Bx (textM l = ⟨#[]⟩) := Bx.mk (by simp [textM, hok])
    rw [hok] at hq
    rw [HE.out]
    clear hok HE
    go_enter Tryd.func29, Tryd.ntmps29
    go_wp2_with (fail)
    refine (hq _ HI.out).mono ?_
    rintro r w1 ⟨rfl, hb1⟩
    go_wp2_with (fail)
    go_ret
    exact ⟨rfl, hb1⟩
  · have h48 := (okM_yes hok).1
    have HOK := Bx.mk (fun k hk => okM_at hok k hk)
    have HSZ := Bx.mk (txS_size hok l.length (Nat.le_refl _))
    have HE0 : Bx (textM l = if l.length = 0 then ⟨#[45]⟩ else txS l l.length) := Bx.mk (by simp [textM, hok])
    rw [hok] at hq
    rw [HE0.out]
    clear hok HE0
    by_cases h0 : l.length = 0
    · rw [if_pos h0]
      have d0 : ((l.length : Int) == 0) = true := by rw [h0]; rfl
      clear h0
      go_enter Tryd.func29, Tryd.ntmps29
      go_wp2_with (fail)
      refine (hq _ HI.out).mono ?_
      rintro r w1 ⟨rfl, hb1⟩
      go_wp2_with (fail)
      go_ret
      exact ⟨rfl, hb1⟩
    · rw [if_neg h0]
      have d0 : ((l.length : Int) == 0) = false := beq_false_of_ne (by omega)
      have HPOS := Bx.mk h0
      clear h0
      obtain ⟨i0, hi, hz0, hz1, hz2⟩ := info_parts infoStr
      go_enter Tryd.func29, Tryd.ntmps29
      go_wp2_with (fail)
      refine (hq _ HI.out).mono ?_
      rintro r w1 ⟨rfl, hb1⟩
      have B1 := Bx.mk hb1
      clear hb1 hq
      obtain ⟨wm, hmk, hom, hgm⟩ := make_strs9 w1 l.length (by omega)
      have hbm : Below w.heap.size w wm := B1.out.grown hgm B1.out.size (fun k hk => by cases hk)
      have HOM := Bx.mk (own_downP (b1 := w.heap.size) B1.out.size hom)
      have HBM := Bx.mk hbm
      clear hom hgm hbm
      go_wp2_with (fail)
      go_loopw [3, 19] (fun v i wr => ∃ k : Nat, k ≤ l.length ∧ i = .int .i64 k ∧ wr.ownsRow w.heap.size 9 1 v k (strs (qsN l k)) ∧ Bx (Below w.heap.size w wr)) (fun _ i _ => l.length - (intOf i).toNat)
      case atStart => exact ⟨0, Nat.zero_le _, rfl, HOM.out, HBM⟩
      case round =>
        obtain ⟨k, hk, rfl, hown, HB⟩ := hrel
        obtain ⟨A1, c1, ev⟩ := own_len hown
        subst ev
        by_cases hlt : k < l.length
        · have dlt : decide ((k : Int) < (l.length : Int)) = true := decide_eq_true (by omega)
          obtain ⟨b, o, rfl, lb, hc⟩ := prs_form (HI.out.below HB.out) (by omega)
          obtain ⟨y0, y1⟩ := hc k hlt
          have k1 : (0 : Int) ≤ (k : Int) := by omega
          have k2 : (k : Int) < (l.length : Int) := by omega
          have HQ := Bx.mk (qsN_succ l k)
          obtain ⟨r1, r2⟩ := HOK.out k hlt
          clear hc HOK
          generalize pat l k = p at *
          obtain ⟨p1, p2⟩ := p
          dsimp only at y0 y1 r1 r2
          have hAl : Below wr.heap.size wr (wr.alloc (.cells #[.int .i64 p1, .int .i64 p2] 45)) := (Below.refl _ _).alloc (Nat.le_refl _) _
          have HB1 := Bx.mk (HB.out.trans (hAl.mono HB.out.size))
          have HO1 := Bx.mk (own_below hown hAl)
          have hnt := impl_notetext p1 p2 (wr.alloc (.cells #[.int .i64 p1, .int .i64 p2] 45)) r1 r2 (Bx.mk (tab_below HB1.out htab.out))
          unfold nt at hnt
          generalize ntS (p1, p2) = X at *
          generalize hqs : qsN l k = qs at *
          clear hAl hown hqs
          go_wp2_with (fail)
          refine hnt.mono ?_
          rintro e w4 ⟨rfl, hb4⟩
          have HO4 := Bx.mk (own_below HO1.out hb4)
          have HB4 := Bx.mk (HB1.out.trans (hb4.mono HB1.out.size))
          have hs4 := HB4.out.size
          clear hb4 hnt y0 y1
          go_wp2_with ((at_builtin; refine wpList_append_own _ rfl _ _ 67 rfl w.heap.size 9 i0 (.string ByteArray.empty) 1 16 Tryd.underlying67 hi hz0 hz1 hz2 rfl (by decide) (.slice A1 k c1) k (strs qs) rfl (HO4.out.alloc _) ⟨w4.heap.size, 0, none⟩ 1 1 [.string X] rfl rfl (cell_one_new _ _ _) (fun x hx => by simp at hx; subst hx; rfl) (by unfold maxLen; omega) (by omega) (by simp; omega) ?_; intro v' w3 hown' hgrow3 hnil3))
          have hown2 : w3.ownsRow w.heap.size 9 1 v' (k + 1) (strs (qsN l (k + 1))) := by
            rw [HQ.out, strs_snoc]; exact hown'
          have hb3 := Bx.mk (below_appN HB4.out HO4.out (Nat.le_refl _) hgrow3)
          clear hown' hgrow3 hnil3
          go_roundw
          case rel => exact ⟨k + 1, by omega, by go_num, hown2, hb3⟩
          case measure => simp [intOf]; omega
        · obtain rfl : k = l.length := by omega
          have dlt : decide ((l.length : Int) < (l.length : Int)) = false := decide_eq_false (by omega)
          have hnl := qsN_len l l.length
          have HJ := Bx.mk (qsN_join l l.length)
          have hjl : (Lib.join (qsN l l.length) [32]).length ≤ 140737488355328 := by
            have h1 := HSZ.out
            rw [← HJ.out] at h1
            have e : (⟨(Lib.join (qsN l l.length) [32]).toArray⟩ : ByteArray).size = (Lib.join (qsN l l.length) [32]).length := by show Array.size _ = _; simp
            omega
          obtain ⟨g, cap, hv, hg1, hg2⟩ := hown.form (by have := HPOS.out; omega)
          injection hv with hA _ hC
          subst hA hC
          have hj := join_any9 g c1 w.heap.size (qsN l l.length) 32 wr (by rw [hnl]; exact hown) (by have := HPOS.out; omega) (by omega) hjl
          rw [HJ.out, hnl] at hj
          have HJJ := Bx.mk hj
          clear hj hjl hown HJ HSZ hnl
          go_wp2_with (fail)
          refine HJJ.out.mono ?_
          rintro r w7 ⟨rfl, hb7⟩
          have HB7 := Bx.mk (HB.out.trans (hb7.mono HB.out.size))
          clear hb7
          go_wp2_with (fail)
          go_ret
          exact ⟨rfl, HB7.out⟩
end Go.Proofs.YtendfnimhmnioaaDoor
