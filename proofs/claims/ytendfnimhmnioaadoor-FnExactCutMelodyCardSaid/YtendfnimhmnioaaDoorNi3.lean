/- DurationOf and PitchesOf: the program. -/
import Derived.Test.YtendfnimhmnioaaDoorNe3
import Derived.Test.YtendfnimhmnioaaDoorNi
namespace Go.Proofs.YtendfnimhmnioaaDoor
open Go.ChangeShapes Go.WideShapes Go.ChangeAt Go.RowKit
set_option linter.unusedVariables false
set_option linter.unusedSimpArgs false
set_option maxRecDepth 100000

theorem own_capN2 (w : World) (n : Nat) (hn : n ≤ maxLen) : (w.alloc (.cells (madeCells #[.int .i64 0] n) 2)).ownsRow w.heap.size 2 1 (.slice (some ⟨w.heap.size, 0, none⟩) 0 n) 0 [] :=
  ⟨rfl, .inr ⟨w.heap.size, n, _, rfl, Nat.le_refl _, heap_alloc_new w _, Nat.zero_le _, hn, by rw [size_madeCells]; simp, by simp⟩⟩
set_option maxHeartbeats 2000000 in
theorem impl_dur (v : Value) (l : List (Int × Int)) (w : World) (h : PrsAt w v l) (hok : okM l = true) :
    Calls Tryd.prog 53 #[v] w fun e w' => e = .returned (.int .i64 (durL l)) ∧ Below w.heap.size w w' := by
  obtain ⟨A, c, rfl⟩ := prs_len h
  have hm := (okM_yes hok).1
  have HI := Bx.mk h
  have HR := Bx.mk (fun k hk => durN_rng hok k hk)
  clear h hok
  go_enter Tryd.func53, Tryd.ntmps53
  go_wp2_with (fail)
  go_loopw [3, 8] (fun s i wr => ∃ k : Nat, k ≤ l.length ∧ i = .int .i64 k ∧ s = .int .i64 (durN l k) ∧ Bx (Below w.heap.size w wr)) (fun _ i _ => l.length - (intOf i).toNat)
  case atStart => exact ⟨0, Nat.zero_le _, rfl, rfl, Bx.mk (Below.refl _ _)⟩
  case round =>
    obtain ⟨k, hk, rfl, rfl, HW⟩ := hrel
    by_cases hlt : k < l.length
    · obtain ⟨b, o, rfl, hb, hc⟩ := prs_form (HI.out.below HW.out) (by omega)
      obtain ⟨h1, h2⟩ := hc k hlt
      have k1 : (0 : Int) ≤ (k : Int) := by omega
      have k2 : (k : Int) < (l.length : Int) := by omega
      have r1 := HR.out (k + 1) hlt
      have HS : Bx (durN l (k + 1) = durN l k + (pat l k).2) := Bx.mk rfl
      rw [HS.out] at r1
      have B1 : Bx (Below w.heap.size w (wr.alloc (.cells #[.int .i64 (pat l k).1, .int .i64 (pat l k).2] 45))) := Bx.mk (HW.out.alloc HW.out.size _)
      have y0 : IntKind.i64.wrap (durN l k + (pat l k).2) = durN l k + (pat l k).2 := IntWalk.i64_in _ (by omega)
      clear hc HR HI
      generalize durN l k = s at *
      generalize pat l k = p at *
      obtain ⟨p1, p2⟩ := p
      dsimp only at h1 h2 r1 y0 B1
      go_wp2_with (fail)
      go_roundw
      case rel => exact ⟨k + 1, by omega, by go_num, by rw [HS.out], B1⟩
      case measure => simp [intOf]; omega
    · obtain rfl : k = l.length := by omega
      go_wp2_with (fail)
      go_ret
      exact ⟨rfl, HW.out⟩
theorem own_downN {w : World} {b1 b2 e size n : Nat} {v : Value} {xs : List Value} (hb : b1 ≤ b2) (h : w.ownsRow b2 e size v n xs) : w.ownsRow b1 e size v n xs := by
  refine ⟨h.1, ?_⟩
  rcases h.2 with h | ⟨g, cap, cur, hv, hg, hr⟩
  · exact .inl h
  · exact .inr ⟨g, cap, cur, hv, Nat.le_trans hb hg, hr⟩
end Go.Proofs.YtendfnimhmnioaaDoor
