/- Slices of ratios: the laws' own functions heldRatioS and toRatioS. -/
import Derived.Test.YtobhmoohalkijaaDoorTu2
namespace Go.Proofs.YtobhmoohalkijaaDoor
open Go.ChangeShapes Go.WideShapes Go.ChangeAt Go.RowKit
set_option linter.unusedVariables false
set_option linter.unusedSimpArgs false
set_option maxRecDepth 100000

theorem held_prs (v : Value) (n : Nat) (k : Int) (w : World) (h : PrsAt w v (pmk n k)) (hn : n ≤ 281474976710656) (hk : 0 ≤ k) (hk2 : k ≤ 1000000000) :
    Calls Tryd.prog 33 #[v, .int .i64 k] w fun e w' => e = .returned (.int .i64 (k + 2 * n)) ∧ w = w' := by
  rcases h with ⟨h0, A, c, rfl⟩ | ⟨b, o, c, rfl, _, h1⟩
  · obtain rfl : n = 0 := by have := congrArg List.length h0; rw [pmk_len] at this; simpa using this
    clear h0
    go_enter Tryd.func33, Tryd.ntmps33
    go_wp2
    refine wp_loop_rounds 1 ?_
    rw [rounds_succ]
    go_wp2
    go_ret
    exact ⟨ret_int (by simp), rfl⟩
  · rw [pmk_len] at h1 ⊢
    have H1 := Bx.mk h1
    clear h1
    go_enter Tryd.func33, Tryd.ntmps33
    go_wp2
    go_loop [1, 5] (fun q i => ∃ j : Nat, j ≤ n ∧ i = .int .i64 j ∧ q = .int .i64 (k + 2 * j)) (fun _ i => n - (intOf i).toNat)
    case atStart => exact ⟨0, Nat.zero_le _, rfl, by go_num⟩
    case round =>
      obtain ⟨j, hj, rfl, rfl⟩ := hrel
      by_cases hlt : j < n
      · have h1 := H1.out j hlt
        rw [pmk_at n k j hlt] at h1
        obtain ⟨h1, h2⟩ := h1
        go_wp2
        go_round
        case rel => exact ⟨j + 1, by omega, by go_num, by go_num⟩
        case measure => simp [intOf]; omega
      · obtain rfl : j = n := by omega
        go_wp2
        go_ret
        exact ⟨rfl, rfl⟩
theorem infoRatL : (Tryd.prog.info? 50).map (fun i => (i.zero, i.size, i.bytes)) = some (some (.agg #[.int .i64 0, .int .i64 0]), 2, 16) := by kernel_rfl
theorem made_two (n : Nat) : (madeCells #[.int .i64 0, .int .i64 0] (n * 2)).toList = pcl (List.replicate n (0, 0)) := by
  have h : (madeCells #[.int .i64 0, .int .i64 0] (n * 2)).toList = List.replicate (n * 2) (.int .i64 0) := by
    apply List.ext_getElem?
    intro j
    by_cases hj : j < n * 2
    · rcases Nat.mod_two_eq_zero_or_one j with e | e <;> simp [madeCells, hj, e]
    · simp [madeCells, hj]
  rw [h]
  clear h
  induction n with
  | zero => rfl
  | succ n ih => rw [show (n + 1) * 2 = n * 2 + 1 + 1 by omega, List.replicate_succ, List.replicate_succ, ih, List.replicate_succ, pcl_cons]
theorem zero_prow (w : World) (n : Nat) (hn : n ≤ 17592186044416) : (Instr.makeSlice 22 (.int .i64 (n : Int)) (.int .i64 (n : Int))).run Tryd.prog w = .ok (.slice (some ⟨w.heap.size, 0, none⟩) n n) (w.alloc (.cells (madeCells #[.int .i64 0, .int .i64 0] (n * 2)) 50)) := by
  obtain ⟨i0, hi, hz0, hz1, hz2⟩ := info_parts infoRatL
  have := run_make (P := Tryd.prog) w 22 50 i0 (.agg #[.int .i64 0, .int .i64 0]) Tryd.underlying22 hi hz0 .i64 .i64 (n : Int) (n : Int) (by omega) (by omega) (by rw [hz2]; omega) (by omega)
  rw [this, hz1]
  simp [Value.cells]
def pfil (l : List (Int × Int)) (i : Nat) : List (Int × Int) := l.take i ++ List.replicate (l.length - i) (0, 0)
theorem pfil_len (l : List (Int × Int)) (i : Nat) (h : i ≤ l.length) : (pfil l i).length = l.length := by simp [pfil]; omega
theorem pfil_zero (l : List (Int × Int)) : pfil l 0 = List.replicate l.length (0, 0) := by simp [pfil]
theorem pfil_all (l : List (Int × Int)) : pfil l l.length = l := by simp [pfil]
theorem pfil_step (l : List (Int × Int)) (i : Nat) (h : i < l.length) : (pfil l i).set i (pat l i) = pfil l (i + 1) := by
  unfold pfil
  rw [show l.length - i = (l.length - (i + 1)) + 1 by omega, List.replicate_succ, List.set_append_right _ _ (by rw [List.length_take]; omega), show i - (l.take i).length = 0 by rw [List.length_take]; omega, List.set_cons_zero, pat_get h, List.take_succ_eq_append_getElem h, List.append_assoc]
  rfl
end Go.Proofs.YtobhmoohalkijaaDoor
