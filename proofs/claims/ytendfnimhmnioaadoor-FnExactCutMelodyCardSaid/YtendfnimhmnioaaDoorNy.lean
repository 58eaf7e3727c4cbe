/- CutMelody: plain facts; the model. -/
import Derived.Test.YtendfnimhmnioaaDoorNt
import Derived.Test.YtendfnimhmnioaaDoorNs
import Derived.Test.YtendfnimhmnioaaDoorNe4
namespace Go.Proofs.YtendfnimhmnioaaDoor
open Go.ChangeShapes Go.WideShapes Go.ChangeAt Go.RowKit
set_option linter.unusedVariables false
set_option linter.unusedSimpArgs false
set_option maxRecDepth 100000

/-- the part of a note between two times -/
def cutX (f u : Int) (x : Int × Int × Int) : List (Int × Int) := if max x.1 f < min (x.1 + x.2.2) u then [(x.2.1, min (x.1 + x.2.2) u - max x.1 f)] else []
def cutK (f u : Int) (xs : List (Int × Int × Int)) : List (Int × Int) := xs.flatMap (cutX f u)
theorem cutK_snoc (f u : Int) (xs : List (Int × Int × Int)) (x : Int × Int × Int) : cutK f u (xs ++ [x]) = cutK f u xs ++ cutX f u x := by simp [cutK]
theorem cutX_len (f u : Int) (x : Int × Int × Int) : (cutX f u x).length ≤ 1 := by unfold cutX; split <;> simp
theorem cutK_len (f u : Int) (xs : List (Int × Int × Int)) : (cutK f u xs).length ≤ xs.length := by
  induction xs with
  | nil => simp [cutK]
  | cons x xs ih =>
    have h := cutX_len f u x
    simp only [cutK, List.flatMap_cons, List.length_append, List.length_cons] at ih ⊢
    omega
/-- CutMelody -/
def cutE (l : List (Int × Int)) (f u : Int) : List (Int × Int) × Int := if okM l = true then (if (inB f 0 (durL l) && inB u f (durL l)) = true then (cutK f u (sndK l l.length), 0) else ([], 2)) else ([], 1)
theorem cutE_len (l : List (Int × Int)) (f u : Int) : (cutE l f u).1.length ≤ 48 := by
  unfold cutE
  split
  · rename_i h
    split
    · have h1 := cutK_len f u (sndK l l.length)
      rw [sndK_len] at h1
      have := (okM_yes h).1
      show (cutK f u (sndK l l.length)).length ≤ 48
      omega
    · simp
  · simp
set_option maxHeartbeats 4000000 in
theorem spec_cutL (v : Value) (l : List (Int × Int)) (f u : Int) (w : World) (h : PrsAt w v l) (hok : okM l = true) (hf : 0 ≤ f ∧ f ≤ 3072) (hu : 0 ≤ u ∧ u ≤ 3072) :
    Calls Tryd.prog 52 #[v, .int .i64 f, .int .i64 u] w (NewNts (cutK f u (sndK l l.length)) w) := by
  obtain ⟨i0, hi, hz0, hz1, hz2⟩ := info_parts infoNoteL
  obtain ⟨A, c, rfl⟩ := prs_len h
  have HI := Bx.mk h
  have hm := (okM_yes hok).1
  have HOK := Bx.mk (fun k hk => okM_at hok k hk)
  have HR := Bx.mk (fun k hk => durN_rng hok k hk)
  have qmin := fun a b W => spec_min9 a b W
  have qmax := fun a b W => spec_max9 a b W
  clear h hok
  go_enter Tryd.func52, Tryd.ntmps52
  go_wp2_with (fail)
  go_loopw [7, 8, 9] (fun v t i wr => ∃ k : Nat, k ≤ l.length ∧ i = .int .i64 k ∧ t = .int .i64 (durN l k) ∧ wr.ownsRow w.heap.size 45 2 v (cutK f u (sndK l k)).length (pcl (cutK f u (sndK l k))) ∧ Below w.heap.size w wr) (fun _ _ i _ => l.length - (intOf i).toNat)
  case atStart => exact ⟨0, Nat.zero_le _, rfl, rfl, World.ownsRow_lit _ _ _ (Nat.le_refl _) (by decide) (by decide), (Below.refl _ _).alloc (Nat.le_refl _) _⟩
  case round =>
    obtain ⟨k, hk, rfl, rfl, hown, hbw⟩ := hrel
    obtain ⟨A1, c1, ev⟩ := own_len hown
    subst ev
    by_cases hlt : k < l.length
    · have dlt : decide ((k : Int) < (l.length : Int)) = true := decide_eq_true (by omega)
      obtain ⟨b, o, rfl, lb, hc⟩ := prs_form HI.out (by omega)
      obtain ⟨h1, h2⟩ := hc k hlt
      have h1 := (hbw.cell (p := ⟨b, o + k * 2, none⟩) lb).trans h1
      have h2 := (hbw.cell (p := ⟨b, o + k * 2 + 1, none⟩) lb).trans h2
      have hb : b < wr.heap.size := Nat.lt_of_lt_of_le lb hbw.size
      have H20 := Bx.mk (hc k hlt).2
      have x1 : (0 : Int) ≤ (k : Int) := by omega
      have x2 : (k : Int) < (l.length : Int) := by omega
      have HSN := Bx.mk (sndK_succ l k)
      have HD : Bx (durN l (k + 1) = durN l k + (pat l k).2) := Bx.mk rfl
      have hln := cutK_len f u (sndK l k)
      rw [sndK_len] at hln
      obtain ⟨_, r1, r2⟩ := HOK.out k hlt
      have rd := HR.out k (by omega)
      have hsz := hbw.size
      have HCK : Bx (cutK f u (sndK l (k + 1)) = cutK f u (sndK l k) ++ cutX f u (durN l k, pat l k)) := Bx.mk (by rw [HSN.out, cutK_snoc])
      clear hc HI HSN
      generalize pat l k = p at *
      generalize cutK f u (sndK l k) = out at *
      generalize durN l k = t at *
      obtain ⟨p1, p2⟩ := p
      dsimp only at h1 h2 r1 r2
      have HO := Bx.mk hown
      have HBW := Bx.mk hbw
      have HLL := Bx.mk hln
      have y0 : IntKind.i64.wrap (t + p2) = t + p2 := IntWalk.i64_in _ (by omega)
      by_cases hcut : max t f < min (t + p2) u
      · have HX : Bx (cutX f u (t, p1, p2) = [(p1, min (t + p2) u - max t f)]) := Bx.mk (by unfold cutX; rw [if_pos hcut])
        have d2 : decide (max t f < min (t + p2) u) = true := decide_eq_true hcut
        have y1 : IntKind.i64.wrap (min (t + p2) u - max t f) = min (t + p2) u - max t f := IntWalk.i64_in _ (by omega)
        go_wp2_with (fail)
        refine (qmax _ _ _).mono ?_
        rintro r w1 ⟨rfl, rfl⟩
        go_wp2_with (fail)
        refine (qmin _ _ _).mono ?_
        rintro r w1 ⟨rfl, rfl⟩
        generalize min (t + p2) u = bb at *
        generalize max t f = aa at *
        go_wp2_with ((at_builtin; refine wpList_append_own _ rfl _ _ 24 rfl w.heap.size 45 i0 _ 2 16 Tryd.underlying24 hi hz0 hz1 hz2 rfl (by decide) (.slice A1 out.length c1) out.length (pcl out) rfl (HO.out.alloc _) ⟨wr.heap.size, 0, none⟩ 1 1 [.int .i64 p1, .int .i64 (bb - aa)] rfl rfl (cells_newN _ _ _) (by simp [Value.oneCell']) (by have := HLL.out; unfold maxLen; omega) (by have := HLL.out; omega) (by simp; omega) ?_; intro v' w3 hown' hgrow3 hnil3; have hb3 : Below w.heap.size w w3 := below_appN HBW.out HO.out (Nat.le_refl _) hgrow3; have h23 := (hb3.cell (p := ⟨b, o + k * 2 + 1, none⟩) lb).trans H20.out; have hb33 : b < w3.heap.size := Nat.lt_of_lt_of_le lb hb3.size))
        have hown2 : w3.ownsRow w.heap.size 45 2 v' (cutK f u (sndK l (k + 1))).length (pcl (cutK f u (sndK l (k + 1)))) := by
          rw [HCK.out, HX.out, pcl_snoc, List.length_append]; exact hown'
        clear hown' hgrow3 hnil3 hown hbw
        go_roundw
        case rel => exact ⟨k + 1, by omega, by go_num, by rw [HD.out], hown2, hb3⟩
        case measure => simp [intOf]; omega
      · have HX : Bx (cutX f u (t, p1, p2) = []) := Bx.mk (by unfold cutX; rw [if_neg hcut])
        have d2 : decide (max t f < min (t + p2) u) = false := decide_eq_false hcut
        go_wp2_with (fail)
        refine (qmax _ _ _).mono ?_
        rintro r w1 ⟨rfl, rfl⟩
        go_wp2_with (fail)
        refine (qmin _ _ _).mono ?_
        rintro r w1 ⟨rfl, rfl⟩
        go_wp2_with (fail)
        go_roundw
        case rel => exact ⟨k + 1, by omega, by go_num, by rw [HD.out], by rw [HCK.out, HX.out, List.append_nil]; exact hown, hbw⟩
        case measure => simp [intOf]; omega
    · obtain rfl : k = l.length := by omega
      have dlt : decide ((l.length : Int) < (l.length : Int)) = false := decide_eq_false (by omega)
      have HO := Bx.mk hown
      clear hown
      go_wp2_with (fail)
      go_ret
      exact ⟨_, rfl, HO.out, hbw⟩
theorem spec_cut (v : Value) (l : List (Int × Int)) (f u : Int) (w : World) (h : PrsAt w v l) (hm : l.length ≤ 1048576) :
    Calls Tryd.prog 24 #[v, .int .i64 f, .int .i64 u] w (NtOut (cutE l f u).1 (.int .i64 (cutE l f u).2) w) := by
  have hq := fun W h => spec_okm v l W h hm
  have HI := Bx.mk h
  clear h hm
  cases hok : okM l
  · have HE : Bx (cutE l f u = ([], 1)) := Bx.mk (by simp [cutE, hok])
    rw [hok] at hq
    rw [HE.out]
    clear hok
    go_enter Tryd.func24, Tryd.ntmps24
    go_wp2_with (fail)
    refine (hq _ HI.out).mono ?_
    rintro r w1 ⟨rfl, rfl⟩
    go_wp2_with (fail)
    go_ret2
    exact ⟨_, rfl, World.ownsRow_nil _ _ _ _, Below.refl _ _⟩
  · rw [hok] at hq
    have hs := fun W h => spec_sum9 v l W h hok
    have hi1 := fun W => in_any f 0 (durL l) W
    have hi2 := fun W => in_any u f (durL l) W
    have hdr := durL_rng hok
    cases e1 : inB f 0 (durL l)
    · have HE : Bx (cutE l f u = ([], 2)) := Bx.mk (by simp [cutE, hok, e1])
      rw [e1] at hi1
      rw [HE.out]
      clear hok e1
      go_enter Tryd.func24, Tryd.ntmps24
      go_wp2_with (fail)
      refine (hq _ HI.out).mono ?_
      rintro r w1 ⟨rfl, rfl⟩
      go_wp2_with (fail)
      refine (hs _ HI.out).mono ?_
      rintro r w1 ⟨rfl, rfl⟩
      go_wp2_with (fail)
      refine (hi1 _).mono ?_
      rintro r w1 ⟨rfl, rfl⟩
      go_wp2_with (fail)
      go_ret2
      exact ⟨_, rfl, World.ownsRow_nil _ _ _ _, Below.refl _ _⟩
    · rw [e1] at hi1
      cases e2 : inB u f (durL l)
      · have HE : Bx (cutE l f u = ([], 2)) := Bx.mk (by simp [cutE, hok, e1, e2])
        rw [e2] at hi2
        rw [HE.out]
        clear hok e1 e2
        go_enter Tryd.func24, Tryd.ntmps24
        go_wp2_with (fail)
        refine (hq _ HI.out).mono ?_
        rintro r w1 ⟨rfl, rfl⟩
        go_wp2_with (fail)
        refine (hs _ HI.out).mono ?_
        rintro r w1 ⟨rfl, rfl⟩
        go_wp2_with (fail)
        refine (hi1 _).mono ?_
        rintro r w1 ⟨rfl, rfl⟩
        go_wp2_with (fail)
        refine (hs _ HI.out).mono ?_
        rintro r w1 ⟨rfl, rfl⟩
        go_wp2_with (fail)
        refine (hi2 _).mono ?_
        rintro r w1 ⟨rfl, rfl⟩
        go_wp2_with (fail)
        go_ret2
        exact ⟨_, rfl, World.ownsRow_nil _ _ _ _, Below.refl _ _⟩
      · have HE : Bx (cutE l f u = (cutK f u (sndK l l.length), 0)) := Bx.mk (by simp [cutE, hok, e1, e2])
        rw [e2] at hi2
        rw [HE.out]
        have b1 := inB_yes e1
        have b2 := inB_yes e2
        have hcut := fun W h => spec_cutL v l f u W h hok ⟨b1.1, by omega⟩ ⟨by omega, by omega⟩
        clear hok e1 e2
        go_enter Tryd.func24, Tryd.ntmps24
        go_wp2_with (fail)
        refine (hq _ HI.out).mono ?_
        rintro r w1 ⟨rfl, rfl⟩
        go_wp2_with (fail)
        refine (hs _ HI.out).mono ?_
        rintro r w1 ⟨rfl, rfl⟩
        go_wp2_with (fail)
        refine (hi1 _).mono ?_
        rintro r w1 ⟨rfl, rfl⟩
        go_wp2_with (fail)
        refine (hs _ HI.out).mono ?_
        rintro r w1 ⟨rfl, rfl⟩
        go_wp2_with (fail)
        refine (hi2 _).mono ?_
        rintro r w1 ⟨rfl, rfl⟩
        go_wp2_with (fail)
        refine (hcut _ HI.out).mono ?_
        rintro r w1 ⟨v1, rfl, ho, hb⟩
        have HO := Bx.mk ho
        have HB := Bx.mk hb
        obtain ⟨A1, c1, ev⟩ := own_len ho
        subst ev
        clear ho hb
        go_wp2_with (fail)
        go_ret2
        exact ⟨_, rfl, HO.out, HB.out⟩
end Go.Proofs.YtendfnimhmnioaaDoor
