/- Scales: the model's small functions. -/
import Derived.Test.YtendfnimhmnioaaDoorNum
import Derived.Test.YtendfnimhmnioaaDoorRow
import Derived.LoopTactic
import Derived.BigRegion
import Derived.Handy
namespace Go.Proofs.YtendfnimhmnioaaDoor
open Go.ChangeShapes Go.WideShapes Go.ChangeAt Go.RowKit
set_option linter.unusedVariables false
set_option linter.unusedSimpArgs false
set_option maxRecDepth 100000

theorem IntsAt.form {w : World} {v : Value} {zs : List Int} (h : IntsAt w v zs) (hl : 0 < zs.length) : ∃ b o c, v = .slice (some ⟨b, o, none⟩) zs.length c ∧ b < w.heap.size ∧ ∀ k, k < zs.length → w.cell? ⟨b, o + k, none⟩ = some (.int .i64 (zs.getD k 0)) := by
  rcases h with ⟨rfl, _⟩ | h
  · cases hl
  · exact h
theorem IntsAt.len {w : World} {v : Value} {zs : List Int} (h : IntsAt w v zs) : ∃ A c, v = .slice A zs.length c := by
  rcases h with ⟨rfl, A, c, h⟩ | ⟨b, o, c, h, _⟩
  · exact ⟨A, c, h⟩
  · exact ⟨_, c, h⟩
theorem tone_rng (p : Int) : 0 ≤ p % 12 ∧ p % 12 < 12 := ⟨Int.emod_nonneg _ (by decide), Int.emod_lt_of_pos _ (by decide)⟩
theorem tmod12 (p : Int) : -11 ≤ p.tmod 12 ∧ p.tmod 12 ≤ 11 ∧ (p.tmod 12 + 12) % 12 = p % 12 := by
  rcases Int.lt_or_le p 0 with h | h
  · have e : p.tmod 12 = -((-p) % 12) := by
      have := Int.neg_tmod (-p) 12
      rw [Int.neg_neg] at this
      rw [this, Int.tmod_eq_emod_of_nonneg (by omega)]
    rw [e]; omega
  · rw [Int.tmod_eq_emod_of_nonneg h]; omega
theorem spec_tone (p : Int) (w : World) : Calls Tryd.prog 86 #[.int .i64 p] w fun e w' => e = .returned (.int .i64 (p % 12)) ∧ w = w' := by
  obtain ⟨t1, t2, t3⟩ := tmod12 p
  have H := Bx.mk t3
  clear t3
  go_enter Tryd.func86, Tryd.ntmps86
  go_wp2
  go_ret
  exact ⟨ret_int H.out, rfl⟩
/-- rising numbers within bounds -/
def riseB (lo hi : Int) (zs : List Int) : Bool := decide (∀ i, i < zs.length → (lo ≤ zs.getD i 0 ∧ zs.getD i 0 ≤ hi) ∧ (0 < i → zs.getD (i - 1) 0 < zs.getD i 0))
theorem rise_no {lo hi : Int} {zs : List Int} (i : Nat) (h : i < zs.length) (hn : ¬ ((lo ≤ zs.getD i 0 ∧ zs.getD i 0 ≤ hi) ∧ (0 < i → zs.getD (i - 1) 0 < zs.getD i 0))) : riseB lo hi zs = false := by
  unfold riseB
  exact decide_eq_false (fun hh => hn (hh i h))
theorem rise_yes {lo hi : Int} {zs : List Int} (h : ∀ i, i < zs.length → (lo ≤ zs.getD i 0 ∧ zs.getD i 0 ≤ hi) ∧ (0 < i → zs.getD (i - 1) 0 < zs.getD i 0)) : riseB lo hi zs = true := decide_eq_true h
theorem drew_more {w wr : World} (h : ∃ n, wr = w.drewN n) (m : Nat) : ∃ n, wr.drewN m = w.drewN n := by
  obtain ⟨n, rfl⟩ := h
  exact ⟨n + m, World.drewN_drewN ..⟩
theorem quiet_m {P : Program} {f : FuncId} {args : Array Value} {w : World} {n : Nat} {v : Value}
    (h : Calls P f args (w.drewN n) fun e w' => e = .returned v ∧ ∃ m, w' = (w.drewN n).drewN m) : Calls P f args (w.drewN n) fun e w'' => e = .returned v ∧ ∃ m, w'' = w.drewN m :=
  h.mono fun _ _ ⟨he, m, hm⟩ => ⟨he, n + m, by rw [hm]; exact World.drewN_drewN ..⟩
theorem quiet_n' {P : Program} {f : FuncId} {args : Array Value} {w : World} {n : Nat} {v : Value}
    (h : Calls P f args (w.drewN n) fun e w' => e = .returned v ∧ w.drewN n = w') : Calls P f args (w.drewN n) fun e w'' => e = .returned v ∧ ∃ m, w'' = w.drewN m :=
  h.mono fun _ _ ⟨he, hm⟩ => ⟨he, n, hm.symm⟩
end Go.Proofs.YtendfnimhmnioaaDoor
