/- TieMelody: plain facts; the model. -/
import Derived.Test.YtendfnimhmnioaaDoorNt
import Derived.BigRegion
namespace Go.Proofs.YtendfnimhmnioaaDoor
open Go.ChangeShapes Go.WideShapes Go.ChangeAt Go.RowKit
set_option linter.unusedVariables false
set_option linter.unusedSimpArgs false
set_option maxRecDepth 100000

def lastN (out : List (Int × Int)) : Int × Int := pat out (out.length - 1)
/-- a note added to the last one, or behind it -/
def tieB (out : List (Int × Int)) (p : Int × Int) : Bool := decide (0 < out.length) && (decide ((lastN out).1 = p.1) && inB ((lastN out).2 + p.2) 1 64)
def tieS (out : List (Int × Int)) (p : Int × Int) : List (Int × Int) := if tieB out p = true then out.set (out.length - 1) ((lastN out).1, (lastN out).2 + p.2) else out ++ [p]
def tieL (l : List (Int × Int)) : Nat → List (Int × Int)
  | 0 => []
  | k + 1 => tieS (tieL l k) (pat l k)
theorem tieS_len (out : List (Int × Int)) (p : Int × Int) : (tieS out p).length ≤ out.length + 1 := by
  unfold tieS; split
  · simp
  · simp
theorem tieL_len (l : List (Int × Int)) : ∀ k, (tieL l k).length ≤ k := by
  intro k
  induction k with
  | zero => simp [tieL]
  | succ k ih => have := tieS_len (tieL l k) (pat l k); simp only [tieL]; omega
theorem pat_setN (l : List (Int × Int)) (k i : Nat) (x : Int × Int) (h : i < l.length) : pat (l.set k x) i = if k = i then x else pat l i := by
  rw [pat_get (by rw [List.length_set]; exact h), List.getElem_set, pat_get h]
theorem pat_appN (l : List (Int × Int)) (x : Int × Int) (i : Nat) (h : i < l.length + 1) : pat (l ++ [x]) i = if i < l.length then pat l i else x := by
  rw [pat_get (by simp; exact h)]
  split
  · rename_i h1; rw [List.getElem_append_left h1, pat_get h1]
  · rw [List.getElem_append_right (by omega)]; simp
theorem tieS_ok {out : List (Int × Int)} {p : Int × Int} (h : ∀ i, i < out.length → okN (pat out i) = true) (hp : okN p = true) : ∀ i, i < (tieS out p).length → okN (pat (tieS out p) i) = true := by
  intro i hi
  unfold tieS at hi ⊢
  split at hi
  · rename_i hb
    rw [if_pos hb]
    rw [List.length_set] at hi
    rw [pat_setN _ _ _ _ hi]
    split
    · have hb2 := hb
      unfold tieB at hb2
      simp only [Bool.and_eq_true, decide_eq_true_eq] at hb2
      have h1 := h (out.length - 1) (by omega)
      unfold okN at h1 ⊢
      rw [Bool.and_eq_true] at h1
      rw [Bool.and_eq_true]
      exact ⟨h1.1, hb2.2.2⟩
    · exact h i hi
  · rename_i hb
    rw [if_neg hb]
    rw [List.length_append, List.length_singleton] at hi
    rw [pat_appN _ _ _ hi]
    split
    · rename_i h1; exact h i h1
    · exact hp
theorem tieL_ok {l : List (Int × Int)} (h : okM l = true) : ∀ k, k ≤ l.length → ∀ i, i < (tieL l k).length → okN (pat (tieL l k) i) = true := by
  intro k
  induction k with
  | zero => intro _ i hi; simp [tieL] at hi
  | succ k ih => intro hk; exact tieS_ok (ih (by omega)) ((okM_yes h).2 k (by omega))
/-- TieMelody -/
def tieE (l : List (Int × Int)) : List (Int × Int) × Int := if okM l = true then (tieL l l.length, 0) else ([], 1)
theorem tieE_len (l : List (Int × Int)) : (tieE l).1.length ≤ 48 := by
  unfold tieE; split
  · rename_i h
    have := tieL_len l l.length
    have := (okM_yes h).1
    show (tieL l l.length).length ≤ 48
    omega
  · simp
/-- the last note of a row of one's own grows longer -/
theorem tie_own {w : World} {base te g c n : Nat} {out : List (Int × Int)} (hn : n = out.length) (h : w.ownsRow base te 2 (.slice (some ⟨g, 0, none⟩) n c) n (pcl out)) (h0 : 0 < n) (z : Int) :
    (w.setCell ⟨g, (n - 1) * 2 + 1, none⟩ (.int .i64 z)).ownsRow base te 2 (.slice (some ⟨g, 0, none⟩) n c) n (pcl (out.set (out.length - 1) ((lastN out).1, z))) := by
  subst hn
  have s := h.stored ((out.length - 1) * 2 + 1) (.int .i64 z)
  rw [pcl_set2 _ _ _ (by omega)] at s
  exact s.1
theorem nlen_dr {w : World} (z : Int) (n : Nat) : Calls Tryd.prog 44 #[.int .i64 z] (w.drewN n) fun e w' => e = .returned (.bool (inB z 1 64)) ∧ ∃ m, w' = w.drewN m :=
  (spec_nlen z _).mono fun _ _ ⟨h1, h2⟩ => ⟨h1, n, h2.symm⟩
set_option maxHeartbeats 8000000 in
theorem spec_tieL (v : Value) (l : List (Int × Int)) (w : World) (h : PrsAt w v l) (hok : okM l = true) :
    Calls Tryd.prog 55 #[v] w (NewNts (tieL l l.length) w) := by
  obtain ⟨i0, hi, hz0, hz1, hz2⟩ := info_parts infoNoteL
  obtain ⟨A, c, rfl⟩ := prs_len h
  have HI := Bx.mk h
  have hm := (okM_yes hok).1
  have HOK := Bx.mk (fun k hk => okM_at hok k hk)
  have HOT := Bx.mk (fun k hk => tieL_ok hok k hk)
  clear h hok
  go_enter Tryd.func55, Tryd.ntmps55
  go_wp2_with (fail)
  go_loopw [3, 4] (fun v i wr => ∃ k : Nat, k ≤ l.length ∧ i = .int .i64 k ∧ wr.ownsRow w.heap.size 45 2 v (tieL l k).length (pcl (tieL l k)) ∧ Below w.heap.size w wr) (fun _ i _ => l.length - (intOf i).toNat)
  case atStart => exact ⟨0, Nat.zero_le _, rfl, World.ownsRow_lit _ _ _ (Nat.le_refl _) (by decide) (by decide), (Below.refl _ _).alloc (Nat.le_refl _) _⟩
  case round =>
    obtain ⟨k, hk, rfl, hown, hbw⟩ := hrel
    obtain ⟨A1, c1, ev⟩ := own_len hown
    subst ev
    by_cases hlt : k < l.length
    · have dlt : decide ((k : Int) < (l.length : Int)) = true := decide_eq_true (by omega)
      obtain ⟨b, o, rfl, hb, hc⟩ := prs_form (HI.out.below hbw) (by omega)
      obtain ⟨h1, h2⟩ := hc k hlt
      have x1 : (0 : Int) ≤ (k : Int) := by omega
      have x2 : (k : Int) < (l.length : Int) := by omega
      have HTN : Bx (tieL l (k + 1) = tieS (tieL l k) (pat l k)) := Bx.mk rfl
      have hln := tieL_len l k
      have HTO := Bx.mk (HOT.out k (by omega))
      obtain ⟨_, r1, r2⟩ := HOK.out k hlt
      have hsz := hbw.size
      clear hc HI
      generalize pat l k = p at *
      generalize tieL l k = out at *
      obtain ⟨p1, p2⟩ := p
      dsimp only at h1 h2 r1 r2
      have HO := Bx.mk hown
      have HBW := Bx.mk hbw
      have HLL := Bx.mk hln
      -- what is done where the note stands behind the last one
      have HAP : Bx (tieB out (p1, p2) = false → tieL l (k + 1) = out ++ [(p1, p2)]) := Bx.mk (fun h => by rw [HTN.out]; unfold tieS; rw [h]; rfl)
      have HAS : Bx (tieB out (p1, p2) = true → tieL l (k + 1) = out.set (out.length - 1) ((lastN out).1, (lastN out).2 + p2)) := Bx.mk (fun h => by rw [HTN.out]; unfold tieS; rw [h]; rfl)
      have H1 := Bx.mk h1
      have H2 := Bx.mk h2
      have HBL := Bx.mk hb
      clear hown hbw
      by_cases h0 : out.length = 0
      · have HF : Bx (tieB out (p1, p2) = false) := Bx.mk (by simp [tieB, h0])
        have e0 : decide ((out.length : Int) > 0) = false := decide_eq_false (by omega)
        have e1 : decide (0 < (out.length : Int)) = false := decide_eq_false (by omega)
        have e2 : ¬ (0 < (out.length : Int)) := by omega
        have e3 : decide (0 < out.length) = false := decide_eq_false (by omega)
        clear h0
        go_wp2_with (fail)
        go_quiet (fail)
        have HOw : Bx ((wr.drewN nq).ownsRow w.heap.size 45 2 (.slice A1 out.length c1) out.length (pcl out)) := Bx.mk HO.out
        have HBw : Bx (Below w.heap.size w (wr.drewN nq)) := Bx.mk (below_draws HBW.out nq)
        have g1 : (wr.drewN nq).cell? ⟨b, o + k * 2, none⟩ = some (.int .i64 p1) := H1.out
        have g2 : (wr.drewN nq).cell? ⟨b, o + k * 2 + 1, none⟩ = some (.int .i64 p2) := H2.out
        have gsz : w.heap.size ≤ (wr.drewN nq).heap.size := hsz
        have hb2 : b < (wr.drewN nq).heap.size := HBL.out
        clear h1 h2 hb HO HBW e0 e1 e2 e3
        generalize wr.drewN nq = W at *
        go_wp2_with ((at_builtin; refine wpList_append_own _ rfl _ _ 24 rfl w.heap.size 45 i0 _ 2 16 Tryd.underlying24 hi hz0 hz1 hz2 rfl (by decide) (.slice A1 out.length c1) out.length (pcl out) rfl (HOw.out.alloc _) ⟨W.heap.size, 0, none⟩ 1 1 [.int .i64 p1, .int .i64 p2] rfl rfl (cells_newN _ _ _) (by simp [Value.oneCell']) (by have := HLL.out; unfold maxLen; omega) (by have := HLL.out; omega) (by simp; omega) ?_; intro v' w3 hown' hgrow3 hnil3))
        have hown2 : w3.ownsRow w.heap.size 45 2 v' (tieL l (k + 1)).length (pcl (tieL l (k + 1))) := by
          rw [HAP.out HF.out, pcl_snoc, List.length_append]; exact hown'
        have hb3 : Below w.heap.size w w3 := below_appN HBw.out HOw.out (Nat.le_refl _) hgrow3
        clear hown' hgrow3 hnil3 HOw HBw
        go_roundw
        case rel => exact ⟨k + 1, by omega, by go_num, hown2, hb3⟩
        case measure => simp [intOf]; omega
      
      · have e0 : decide ((out.length : Int) > 0) = true := decide_eq_true (by omega)
        have e1 : decide (0 < (out.length : Int)) = true := decide_eq_true (by omega)
        have e2 : 0 < (out.length : Int) := by omega
        have e3 : decide (0 < out.length) = true := decide_eq_true (by omega)
        have hp0 : 0 < out.length := by omega
        obtain ⟨g, cap, ee, hbg, hgl⟩ := HO.out.form hp0
        injection ee with e5 _ e6
        subst e5 e6
        have s0 := (HO.out.cellAt ((out.length - 1) * 2) (by omega)).trans (pcl_at0 out (out.length - 1) (by omega))
        have s1 := (HO.out.cellAt ((out.length - 1) * 2 + 1) (by omega)).trans (pcl_at1 out (out.length - 1) (by omega))
        have sf := HO.out.frozenAt ((out.length - 1) * 2 + 1)
        have y1 : (0 : Int) ≤ (out.length : Int) - 1 := by omega
        have y2 : (out.length : Int) - 1 < (out.length : Int) := by omega
        have y3 : ((out.length : Int) - 1).toNat = out.length - 1 := by omega
        have y4 : IntKind.i64.wrap ((out.length : Int) - 1) = (out.length : Int) - 1 := IntWalk.i64_in _ (by omega)
        have hlast := okN_yes (HTO.out (out.length - 1) (by omega))
        have HTI := Bx.mk (tie_own rfl HO.out hp0 ((lastN out).2 + p2))
        have HTB : Bx (tieB out (p1, p2) = (decide ((lastN out).1 = p1) && inB ((lastN out).2 + p2) 1 64)) := Bx.mk (by simp [tieB, hp0])
        change wr.cell? _ = some (.int .i64 (lastN out).1) at s0
        change wr.cell? _ = some (.int .i64 (lastN out).2) at s1
        change (-12 ≤ (lastN out).1 ∧ (lastN out).1 ≤ 23) ∧ (1 ≤ (lastN out).2 ∧ (lastN out).2 ≤ 64) at hlast
        generalize lastN out = la at *
        obtain ⟨q1, q2⟩ := la
        dsimp only at s0 s1 hlast HTI HTB HAS
        obtain ⟨_, l1, l2⟩ := hlast
        by_cases he : q1 = p1
        · subst he
          have f1 : (q1 == q1) = true := by simp
          have y5 : IntKind.i64.wrap (q2 + p2) = q2 + p2 := IntWalk.i64_in _ (by omega)
          have hq := fun n => nlen_dr (w := wr) (q2 + p2) n
          cases hin : inB (q2 + p2) 1 64
          · have HF : Bx (tieB out (q1, p2) = false) := Bx.mk (HTB.out.trans (by rw [hin]; simp))
            rw [hin] at hq
            clear hin HTB HTI HAS
            go_wp2_with (fail)
            go_quiet ((go_at_call 44; with_reducible exact hq _))
            have HOw : Bx ((wr.drewN nq).ownsRow w.heap.size 45 2 (.slice (some ⟨g, 0, none⟩) out.length c1) out.length (pcl out)) := Bx.mk HO.out
            have HBw : Bx (Below w.heap.size w (wr.drewN nq)) := Bx.mk (below_draws HBW.out nq)
            have g1 : (wr.drewN nq).cell? ⟨b, o + k * 2, none⟩ = some (.int .i64 q1) := H1.out
            have g2 : (wr.drewN nq).cell? ⟨b, o + k * 2 + 1, none⟩ = some (.int .i64 p2) := H2.out
            have gsz : w.heap.size ≤ (wr.drewN nq).heap.size := hsz
            have hb2 : b < (wr.drewN nq).heap.size := HBL.out
            clear h1 h2 hb HO HBW s0 s1 sf hq
            generalize wr.drewN nq = W at *
            go_wp2_with ((at_builtin; refine wpList_append_own _ rfl _ _ 24 rfl w.heap.size 45 i0 _ 2 16 Tryd.underlying24 hi hz0 hz1 hz2 rfl (by decide) (.slice (some ⟨g, 0, none⟩) out.length c1) out.length (pcl out) rfl (HOw.out.alloc _) ⟨W.heap.size, 0, none⟩ 1 1 [.int .i64 q1, .int .i64 p2] rfl rfl (cells_newN _ _ _) (by simp [Value.oneCell']) (by have := HLL.out; unfold maxLen; omega) (by have := HLL.out; omega) (by simp; omega) ?_; intro v' w3 hown' hgrow3 hnil3))
            have hown2 : w3.ownsRow w.heap.size 45 2 v' (tieL l (k + 1)).length (pcl (tieL l (k + 1))) := by
              rw [HAP.out HF.out, pcl_snoc, List.length_append]; exact hown'
            have hb3 : Below w.heap.size w w3 := below_appN HBw.out HOw.out (Nat.le_refl _) hgrow3
            clear hown' hgrow3 hnil3 HOw HBw
            go_roundw
            case rel => exact ⟨k + 1, by omega, by go_num, hown2, hb3⟩
            case measure => simp [intOf]; omega
      
          · have HT : Bx (tieB out (q1, p2) = true) := Bx.mk (HTB.out.trans (by rw [hin]; simp))
            rw [hin] at hq
            clear hin HTB HAP
            go_wp2_with (fail)
            go_quiet ((go_at_call 44; with_reducible exact hq _))
            have HIw : Bx (((wr.drewN nq).setCell ⟨g, (out.length - 1) * 2 + 1, none⟩ (.int .i64 (q2 + p2))).ownsRow w.heap.size 45 2 (.slice (some ⟨g, 0, none⟩) out.length c1) out.length (pcl (out.set (out.length - 1) (q1, q2 + p2)))) := Bx.mk HTI.out
            have HBw : Bx (Below w.heap.size w ((wr.drewN nq).setCell ⟨g, (out.length - 1) * 2 + 1, none⟩ (.int .i64 (q2 + p2)))) := Bx.mk ((below_draws HBW.out nq).setCell (p := ⟨g, (out.length - 1) * 2 + 1, none⟩) hbg _)
            have g1 : (wr.drewN nq).cell? ⟨b, o + k * 2, none⟩ = some (.int .i64 q1) := H1.out
            have g2 : (wr.drewN nq).cell? ⟨b, o + k * 2 + 1, none⟩ = some (.int .i64 p2) := H2.out
            have g4 : (wr.drewN nq).cell? ⟨g, (out.length - 1) * 2 + 1, none⟩ = some (.int .i64 q2) := s1
            have g5 : (wr.drewN nq).frozen? ⟨g, (out.length - 1) * 2 + 1, none⟩ = false := sf
            have hb2 : b < (wr.drewN nq).heap.size := HBL.out
            have hg2 : g < (wr.drewN nq).heap.size := hgl
            have HLEN : Bx ((tieL l (k + 1)).length = out.length) := Bx.mk (by rw [HAS.out HT.out, List.length_set])
            clear h1 h2 hb hgl HO HBW s0 s1 sf hq HTI
            generalize wr.drewN nq = W at *
            go_wp2_with (fail)
            go_region
            go_wp2_with (fail)
            go_roundw
            case rel => exact ⟨k + 1, by omega, by go_num, by rw [HLEN.out, HAS.out HT.out]; exact HIw.out, HBw.out.drew⟩
            case measure => simp [intOf]; omega
        · have f1 : (q1 == p1) = false := by simpa using he
          have HF : Bx (tieB out (p1, p2) = false) := Bx.mk (HTB.out.trans (by rw [decide_eq_false he]; rfl))
          clear HTB HTI HAS
          go_wp2_with (fail)
          go_quiet (fail)
          have HOw : Bx ((wr.drewN nq).ownsRow w.heap.size 45 2 (.slice (some ⟨g, 0, none⟩) out.length c1) out.length (pcl out)) := Bx.mk HO.out
          have HBw : Bx (Below w.heap.size w (wr.drewN nq)) := Bx.mk (below_draws HBW.out nq)
          have g1 : (wr.drewN nq).cell? ⟨b, o + k * 2, none⟩ = some (.int .i64 p1) := H1.out
          have g2 : (wr.drewN nq).cell? ⟨b, o + k * 2 + 1, none⟩ = some (.int .i64 p2) := H2.out
          have gsz : w.heap.size ≤ (wr.drewN nq).heap.size := hsz
          have hb2 : b < (wr.drewN nq).heap.size := HBL.out
          clear h1 h2 hb HO HBW s0 s1 sf
          generalize wr.drewN nq = W at *
          go_wp2_with ((at_builtin; refine wpList_append_own _ rfl _ _ 24 rfl w.heap.size 45 i0 _ 2 16 Tryd.underlying24 hi hz0 hz1 hz2 rfl (by decide) (.slice (some ⟨g, 0, none⟩) out.length c1) out.length (pcl out) rfl (HOw.out.alloc _) ⟨W.heap.size, 0, none⟩ 1 1 [.int .i64 p1, .int .i64 p2] rfl rfl (cells_newN _ _ _) (by simp [Value.oneCell']) (by have := HLL.out; unfold maxLen; omega) (by have := HLL.out; omega) (by simp; omega) ?_; intro v' w3 hown' hgrow3 hnil3))
          have hown2 : w3.ownsRow w.heap.size 45 2 v' (tieL l (k + 1)).length (pcl (tieL l (k + 1))) := by
            rw [HAP.out HF.out, pcl_snoc, List.length_append]; exact hown'
          have hb3 : Below w.heap.size w w3 := below_appN HBw.out HOw.out (Nat.le_refl _) hgrow3
          clear hown' hgrow3 hnil3 HOw HBw
          go_roundw
          case rel => exact ⟨k + 1, by omega, by go_num, hown2, hb3⟩
          case measure => simp [intOf]; omega
    · obtain rfl : k = l.length := by omega
      have dlt : decide ((l.length : Int) < (l.length : Int)) = false := decide_eq_false (by omega)
      have HO := Bx.mk hown
      clear hown
      go_wp2_with (fail)
      go_ret
      exact ⟨_, rfl, HO.out, hbw⟩
end Go.Proofs.YtendfnimhmnioaaDoor
