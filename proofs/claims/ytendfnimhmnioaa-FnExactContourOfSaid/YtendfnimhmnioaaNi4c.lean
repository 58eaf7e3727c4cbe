/- ContourOf: the program. -/
import Derived.Test.YtendfnimhmnioaaNi3
import Derived.Deep.RegionLaw
import Derived.Deep.AppendLies
namespace Go.Proofs.Ytendfnimhmnioaa
open Go.ChangeShapes Go.WideShapes Go.ChangeAt Go.RowKit
set_option linter.unusedVariables false
set_option linter.unusedSimpArgs false
set_option maxRecDepth 100000

set_option maxHeartbeats 4000000 in
theorem impl_contourof (v : Value) (l : List (Int × Int)) (w : World) (h : PrsAt w v l) (hm : l.length ≤ 1048576) :
    Calls Try.prog 39 #[v] w (RowOut (ctrE l).1 (.int .i64 (ctrE l).2) w) := by
  obtain ⟨i0, hi, hz0, hz1, hz2⟩ := info_parts infoI64
  have hq := fun W h => impl_validmelody v l W h hm
  have h' := h
  obtain ⟨A, c, rfl⟩ := prs_len h'
  have HI := Bx.mk h
  clear h hm h'
  cases hok : okM l
  · have HE : Bx (ctrE l = ([], 1)) := Bx.mk (by simp [ctrE, hok])
    rw [hok] at hq
    rw [HE.out]
    clear hok
    go_enter Try.func39, Try.ntmps39
    go_wp2_with (fail)
    refine (hq _ HI.out).mono ?_
    rintro r w1 ⟨rfl, hb1⟩
    have B1 := Bx.mk hb1
    clear hb1
    go_wp2_with (fail)
    go_ret2
    exact ⟨_, rfl, World.ownsRow_nil _ _ _ _, B1.out⟩
  · have HE : Bx (ctrE l = (ctr l (l.length - 1), 0)) := Bx.mk (by simp [ctrE, hok])
    have hm := (okM_yes hok).1
    rw [hok] at hq
    rw [HE.out]
    clear hok
    go_enter Try.func39, Try.ntmps39
    go_wp2_with (fail)
    refine (hq _ HI.out).mono ?_
    rintro r w1 ⟨rfl, hb1⟩
    have B1 := Bx.mk hb1
    clear hb1
    go_wp2_with (fail)
    go_loopw [4, 5] (fun v i wr => ∃ k : Nat, k ≤ l.length - 1 ∧ i = .int .i64 ((k : Int) + 1) ∧ wr.ownsRow w.heap.size 2 1 v (ctr l k).length (ints (ctr l k)) ∧ Below w.heap.size w wr) (fun _ i _ => l.length - (intOf i).toNat)
    case atStart => exact ⟨0, Nat.zero_le _, rfl, World.ownsRow_nil _ _ _ _, B1.out⟩
    case round =>
      obtain ⟨k, hk, rfl, hown, hbw⟩ := hrel
      have hll := ctr_len l k
      by_cases hlt : k + 1 < l.length
      · obtain ⟨b, o, rfl, hb, hc⟩ := prs_form (HI.out.below hbw) (by omega)
        have h1 := (hc (k + 1) hlt).1
        have h0 := (hc k (by omega)).1
        have HS := Bx.mk (ctr_succ l k)
        have k1 : (0 : Int) ≤ (k : Int) + 1 := by omega
        have k2 : (k : Int) + 1 < (l.length : Int) := by omega
        have k3 : ((k : Int) + 1).toNat = k + 1 := by omega
        have k4 : IntKind.i64.wrap ((k : Int) + 1 - 1) = (k : Int) := by rw [show (k : Int) + 1 - 1 = k by omega]; exact IntWalk.i64_in _ (by omega)
        have k4' : IntKind.i64.wrap (k : Int) = (k : Int) := IntWalk.i64_in _ (by omega)
        have k5 : (0 : Int) ≤ (k : Int) := by omega
        have k6 : (k : Int) < (l.length : Int) := by omega
        have y1 : IntKind.i64.wrap ((k : Int) + 1 + 1) = (k : Int) + 1 + 1 := IntWalk.i64_in _ (by omega)
        clear hc HI
        have hcm := fun W => std_cmp (pat l (k + 1)).1 (pat l k).1 W
        generalize cmpI (pat l (k + 1)).1 (pat l k).1 = z at *
        generalize (pat l (k + 1)).1 = p at *
        generalize (pat l k).1 = q at *
        have H0 := Bx.mk h0
        have H1 := Bx.mk h1
        go_wp2_with (fail)
        clear h0 h1
        have h0 : wr.drew.cell? ⟨b, o + k * 2, none⟩ = some (.int .i64 q) := H0.out
        have h1 : wr.drew.cell? ⟨b, o + (k + 1) * 2, none⟩ = some (.int .i64 p) := H1.out
        have HOW := Bx.mk hown
        have HBW := Bx.mk hbw
        have hszw := hbw.size
        clear hown hbw
        go_region_law (first
          | (go_simp; go_at_call 65; (with_reducible refine (hcm _).mono ?_); rintro r w4 ⟨rfl, rfl⟩)
          | (refine step_append_lies _ (by rfl) _ _ _ (by rfl) w.heap.size 2 i0 _ 1 8 Try.underlying24 hi hz0 hz1 hz2 (by rfl) (by omega) _ _ _ (by rfl) (World.ownsRow.alloc (show wr.drew.ownsRow _ _ _ _ _ _ from HOW.out) _) ⟨wr.heap.size, 0, none⟩ 1 1 [.int .i64 z] (by rfl) (by rfl) (World.news_of_block (cs := #[.int .i64 z]) (t := 2) (fr := (0, 0)) (heap_alloc_new wr.drew _)) (by simp [Value.oneCell']) (by omega) (by unfold maxLen; omega) (by omega) (by go_size) (wr.heap.size + 1) (by simp) ?_; intro gg cap w6 hown6 hgrow hat hlt6; have HO6 := Bx.mk hown6; have B6 := Bx.mk (Below.grown ((HBW.out.drew).alloc (by go_size) (.cells #[.int .i64 z] 2)) hgrow (by go_size) (fun k hk => by have := own_lo HOW.out k hk; omega)); clear hown6 hat hgrow))
        all_goals
          have f1 : w6.ownsRow w.heap.size 2 1 (.slice (some ⟨gg, 0, none⟩) ((ctr l k).length + 1) cap) (ctr l (k + 1)).length (ints (ctr l (k + 1))) := by
            rw [HS.out, ints_snocN, List.length_append]; exact HO6.out
          rw [hll] at f1
          go_wp2_with (fail)
          go_roundw
          case rel => exact ⟨k + 1, by omega, by go_num, f1, B6.out⟩
          case measure => simp [intOf]; omega
      · obtain rfl : k = l.length - 1 := by omega
        have k2 : ¬ (((l.length - 1 : Nat) : Int) + 1 < (l.length : Int)) := by omega
        have HO := Bx.mk hown
        clear hown
        go_wp2_with (fail)
        go_ret2
        exact ⟨_, rfl, HO.out, hbw⟩
end Go.Proofs.Ytendfnimhmnioaa
