/- ReverseMelody: the model. -/
import Derived.Test.YtendfnimhmnioaaNap
namespace Go.Proofs.Ytendfnimhmnioaa
open Go.ChangeShapes Go.WideShapes Go.ChangeAt Go.RowKit
set_option linter.unusedVariables false
set_option linter.unusedSimpArgs false
set_option maxRecDepth 100000

set_option maxHeartbeats 2000000 in
theorem spec_reverse (v : Value) (l : List (Int × Int)) (w : World) (h : PrsAt w v l) (hm : l.length ≤ 1048576) :
    Calls Try.prog 42 #[v] w (NtOut (revE l).1 (.int .i64 (revE l).2) w) := by
  obtain ⟨i0, hi, hz0, hz1, hz2⟩ := info_parts infoNoteL
  have hq := fun W h => spec_okm v l W h hm
  have h' := h
  obtain ⟨A, c, rfl⟩ := prs_len h'
  have HI := Bx.mk h
  clear h hm h'
  cases hok : okM l
  · have HE : Bx (revE l = ([], 1)) := Bx.mk (by simp [revE, hok])
    rw [hok] at hq
    rw [HE.out]
    clear hok
    go_enter Try.func42, Try.ntmps42
    go_wp2_with (fail)
    refine (hq _ HI.out).mono ?_
    rintro r w1 ⟨rfl, rfl⟩
    go_wp2_with (fail)
    go_ret2
    exact ⟨_, rfl, World.ownsRow_nil _ _ _ _, Below.refl _ _⟩
  · have HE : Bx (revE l = (l.reverse, 0)) := Bx.mk (by simp [revE, hok])
    have hm := (okM_yes hok).1
    rw [hok] at hq
    rw [HE.out]
    have z0 : IntKind.i64.wrap ((l.length : Int) - 1) = (l.length : Int) - 1 := IntWalk.i64_in _ (by omega)
    clear hok
    go_enter Try.func42, Try.ntmps42
    go_wp2_with (fail)
    refine (hq _ HI.out).mono ?_
    rintro r w1 ⟨rfl, rfl⟩
    go_wp2_with (fail)
    clear z0
    go_loopw [4, 5] (fun v i wr => ∃ k : Nat, k ≤ l.length ∧ i = .int .i64 ((l.length : Int) - 1 - k) ∧ wr.ownsRow w.heap.size 76 2 v (l.reverse.take k).length (pcl (l.reverse.take k)) ∧ Below w.heap.size w wr) (fun _ i _ => (intOf i + 1).toNat)
    case atStart => exact ⟨0, Nat.zero_le _, by go_num, World.ownsRow_lit _ _ _ (Nat.le_refl _) (by decide) (by decide), (Below.refl _ _).alloc (Nat.le_refl _) _⟩
    case round =>
      obtain ⟨k, hk, rfl, hown, hbw⟩ := hrel
      have hll : (l.reverse.take k).length = k := by rw [List.length_take, List.length_reverse]; omega
      by_cases hlt : k < l.length
      · obtain ⟨b, o, rfl, hb, hc⟩ := prs_form (HI.out.below hbw) (by omega)
        obtain ⟨h1, h2⟩ := hc (l.length - 1 - k) (by omega)
        have HS := Bx.mk (rev_take l k hlt)
        have k1 : (0 : Int) ≤ (l.length : Int) - 1 - k := by omega
        have k2 : (l.length : Int) - 1 - k < (l.length : Int) := by omega
        have k3 : ((l.length : Int) - 1 - k).toNat = l.length - 1 - k := by omega
        have d1 : decide ((l.length : Int) - 1 - k ≥ 0) = true := decide_eq_true k1
        have y1 : IntKind.i64.wrap ((l.length : Int) - 1 - k - 1) = (l.length : Int) - 1 - k - 1 := IntWalk.i64_in _ (by omega)
        have hsz := hbw.size
        have hlb : Bx (l.length ≤ 48) := Bx.mk hm
        clear hc HI
        generalize pat l (l.length - 1 - k) = p at *
        obtain ⟨p1, p2⟩ := p
        dsimp only at h1 h2
        go_wp2_with ((at_builtin; refine wpList_append_own _ rfl _ _ 39 rfl w.heap.size 76 i0 _ 2 16 Try.underlying39 hi hz0 hz1 hz2 rfl (by decide) _ _ _ rfl (hown.alloc _) ⟨wr.heap.size, 0, none⟩ 1 1 [.int .i64 p1, .int .i64 p2] rfl rfl (cells_newN _ _ _) (by simp [Value.oneCell']) (by unfold maxLen; omega) (by omega) (by simp; omega) ?_; intro v' w3 hown' hgrow3 hnil3))
        have hown2 : w3.ownsRow w.heap.size 76 2 v' (l.reverse.take (k + 1)).length (pcl (l.reverse.take (k + 1))) := by
          rw [HS.out, pcl_snoc, List.length_append]; exact hown'
        have hb2 : Below w.heap.size w w3 := below_appN hbw hown (Nat.le_refl _) hgrow3
        clear hown' hgrow3 hnil3 hown
        go_roundw
        case rel => exact ⟨k + 1, by omega, by go_num, hown2, hb2⟩
        case measure => simp [intOf]; omega
      · obtain rfl : k = l.length := by omega
        have d1 : decide ((l.length : Int) - 1 - l.length ≥ 0) = false := decide_eq_false (by omega)
        have d1n : ¬ ((l.length : Int) - 1 - l.length ≥ 0) := by omega
        have HL : Bx (l.reverse.take l.length = l.reverse) := Bx.mk (List.take_of_length_le (by simp))
        rw [HL.out] at hown
        have HO := Bx.mk hown
        clear hown hll
        go_wp2_with (fail)
        go_ret2
        exact ⟨_, rfl, HO.out, hbw⟩
end Go.Proofs.Ytendfnimhmnioaa
