/- DurationOf and PitchesOf: the model. -/
import Derived.Test.YtendfnimhmnioaaDoorNe
namespace Go.Proofs.YtendfnimhmnioaaDoor
open Go.ChangeShapes Go.WideShapes Go.ChangeAt Go.RowKit
set_option linter.unusedVariables false
set_option linter.unusedSimpArgs false
set_option maxRecDepth 100000

theorem below_appN {w0 w w' : World} {base e size n : Nat} {v : Value} {xs : List Value} {o : Obj} (hbw : Below w0.heap.size w0 w) (hown : w.ownsRow base e size v n xs) (hB : w0.heap.size ≤ base) (hg : (w.alloc o).grownBy w' v.ownBlock) : Below w0.heap.size w0 w' :=
  (hbw.alloc hbw.size _).grown hg (by have := hbw.size; simp; omega) (fun g hg => Nat.le_trans hB (own_lo hown g hg))
theorem ints_snocN (l : List Int) (z : Int) : ints (l ++ [z]) = ints l ++ [.int .i64 z] := by simp [ints]
theorem spec_sum9 (v : Value) (l : List (Int × Int)) (w : World) (h : PrsAt w v l) (hok : okM l = true) :
    Calls Tryd.prog 51 #[v] w fun e w' => e = .returned (.int .i64 (durL l)) ∧ w = w' := by
  obtain ⟨A, c, rfl⟩ := prs_len h
  have hm := (okM_yes hok).1
  have HI := Bx.mk h
  have HR := Bx.mk (fun k hk => durN_rng hok k hk)
  clear h hok
  go_enter Tryd.func51, Tryd.ntmps51
  go_wp2_with (fail)
  go_loopw [3, 4] (fun s i wr => ∃ k : Nat, k ≤ l.length ∧ i = .int .i64 k ∧ s = .int .i64 (durN l k) ∧ wr = w) (fun _ i _ => l.length - (intOf i).toNat)
  case atStart => exact ⟨0, Nat.zero_le _, rfl, rfl, rfl⟩
  case round =>
    obtain ⟨k, hk, rfl, rfl, rfl⟩ := hrel
    by_cases hlt : k < l.length
    · obtain ⟨b, o, rfl, hb, hc⟩ := prs_form HI.out (by omega)
      obtain ⟨h1, h2⟩ := hc k hlt
      have k1 : (0 : Int) ≤ (k : Int) := by omega
      have k2 : (k : Int) < (l.length : Int) := by omega
      have r1 := HR.out (k + 1) hlt
      have HS : Bx (durN l (k + 1) = durN l k + (pat l k).2) := Bx.mk rfl
      rw [HS.out] at r1
      have y0 : IntKind.i64.wrap (durN l k + (pat l k).2) = durN l k + (pat l k).2 := IntWalk.i64_in _ (by omega)
      clear hc HR HI
      generalize durN l k = s at *
      generalize pat l k = p at *
      obtain ⟨p1, p2⟩ := p
      dsimp only at h1 h2 r1 y0
      go_wp2_with (fail)
      go_roundw
      case rel => exact ⟨k + 1, by omega, by go_num, by rw [HS.out], by first | rfl | trivial⟩
      case measure => simp [intOf]; omega
    · obtain rfl : k = l.length := by omega
      go_wp2_with (fail)
      go_ret
      exact ⟨rfl, rfl⟩
def NewInts (vs : List Int) (w : World) (e : Ending) (w' : World) : Prop := ∃ v, e = .returned v ∧ w'.ownsRow w.heap.size 2 1 v vs.length (ints vs) ∧ Below w.heap.size w w'
theorem pits_takeN (l : List (Int × Int)) (k : Nat) (h : k ≤ l.length) : ((pits l).take k).length = k := by rw [List.length_take, pits_len]; omega
end Go.Proofs.YtendfnimhmnioaaDoor
