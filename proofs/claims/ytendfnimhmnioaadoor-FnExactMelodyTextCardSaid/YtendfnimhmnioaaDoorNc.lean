/- Slices of notes: the laws' own functions heldNoteS, toNoteS. -/
import Derived.Test.YtendfnimhmnioaaDoorNb
namespace Go.Proofs.YtendfnimhmnioaaDoor
open Go.ChangeShapes Go.WideShapes Go.ChangeAt Go.RowKit
set_option linter.unusedVariables false
set_option linter.unusedSimpArgs false
set_option maxRecDepth 100000

theorem held_prs (v : Value) (n : Nat) (k : Int) (w : World) (h : PrsAt w v (pmk n k)) (hn : n ≤ 281474976710656) (hk : 0 ≤ k) (hk2 : k ≤ 1000000000) :
    Calls Tryd.prog 17 #[v, .int .i64 k] w fun e w' => e = .returned (.int .i64 (k + 2 * n)) ∧ w = w' := by
  rcases h with ⟨h0, A, c, rfl⟩ | ⟨b, o, c, rfl, _, h1⟩
  · obtain rfl : n = 0 := by have := congrArg List.length h0; rw [pmk_len] at this; simpa using this
    clear h0
    go_enter Tryd.func17, Tryd.ntmps17
    go_wp2
    refine wp_loop_rounds 1 ?_
    rw [rounds_succ]
    go_wp2
    go_ret
    exact ⟨ret_int (by simp), rfl⟩
  · rw [pmk_len] at h1 ⊢
    have H1 := Bx.mk h1
    clear h1
    go_enter Tryd.func17, Tryd.ntmps17
    go_wp2
    go_loop [1, 5] (fun q i => ∃ j : Nat, j ≤ n ∧ i = .int .i64 j ∧ q = .int .i64 (k + 2 * j)) (fun _ i => n - (intOf i).toNat)
    case atStart => exact ⟨0, Nat.zero_le _, rfl, by go_num⟩
    case round =>
      obtain ⟨j, hj, rfl, rfl⟩ := hrel
      by_cases hlt : j < n
      · have h1 := H1.out j hlt
        rw [pmk_at n k j hlt] at h1
        obtain ⟨h1, h2⟩ := h1
        go_wp2
        go_round
        case rel => exact ⟨j + 1, by omega, by go_num, by go_num⟩
        case measure => simp [intOf]; omega
      · obtain rfl : j = n := by omega
        go_wp2
        go_ret
        exact ⟨rfl, rfl⟩
theorem infoNoteL : (Tryd.prog.info? 45).map (fun i => (i.zero, i.size, i.bytes)) = some (some (.agg #[.int .i64 0, .int .i64 0]), 2, 16) := by kernel_rfl
theorem made_two (n : Nat) : (madeCells #[.int .i64 0, .int .i64 0] (n * 2)).toList = pcl (List.replicate n (0, 0)) := by
  have h : (madeCells #[.int .i64 0, .int .i64 0] (n * 2)).toList = List.replicate (n * 2) (.int .i64 0) := by
    apply List.ext_getElem?
    intro j
    by_cases hj : j < n * 2
    · rcases Nat.mod_two_eq_zero_or_one j with e | e <;> simp [madeCells, hj, e]
    · simp [madeCells, hj]
  rw [h]
  clear h
  induction n with
  | zero => rfl
  | succ n ih => rw [show (n + 1) * 2 = n * 2 + 1 + 1 by omega, List.replicate_succ, List.replicate_succ, ih, List.replicate_succ, pcl_cons]
theorem zero_prow (w : World) (n : Nat) (hn : n ≤ 17592186044416) : (Instr.makeSlice 24 (.int .i64 (n : Int)) (.int .i64 (n : Int))).run Tryd.prog w = .ok (.slice (some ⟨w.heap.size, 0, none⟩) n n) (w.alloc (.cells (madeCells #[.int .i64 0, .int .i64 0] (n * 2)) 45)) := by
  obtain ⟨i0, hi, hz0, hz1, hz2⟩ := info_parts infoNoteL
  have := run_make (P := Tryd.prog) w 24 45 i0 (.agg #[.int .i64 0, .int .i64 0]) Tryd.underlying24 hi hz0 .i64 .i64 (n : Int) (n : Int) (by omega) (by omega) (by rw [hz2]; omega) (by omega)
  rw [this, hz1]
  simp [Value.cells]
def pfil (l : List (Int × Int)) (i : Nat) : List (Int × Int) := l.take i ++ List.replicate (l.length - i) (0, 0)
theorem pfil_len (l : List (Int × Int)) (i : Nat) (h : i ≤ l.length) : (pfil l i).length = l.length := by simp [pfil]; omega
theorem pfil_zero (l : List (Int × Int)) : pfil l 0 = List.replicate l.length (0, 0) := by simp [pfil]
theorem pfil_all (l : List (Int × Int)) : pfil l l.length = l := by simp [pfil]
theorem pfil_step (l : List (Int × Int)) (i : Nat) (h : i < l.length) : (pfil l i).set i (pat l i) = pfil l (i + 1) := by
  unfold pfil
  rw [show l.length - i = (l.length - (i + 1)) + 1 by omega, List.replicate_succ, List.set_append_right _ _ (by rw [List.length_take]; omega), show i - (l.take i).length = 0 by rw [List.length_take]; omega, List.set_cons_zero, pat_get h, List.take_succ_eq_append_getElem h, List.append_assoc]
  rfl
set_option maxHeartbeats 1000000 in
theorem copy_prs (v : Value) (l : List (Int × Int)) (w : World) (h : PrsAt w v l) (hn : l.length ≤ 17592186044416) :
    Calls Tryd.prog 13 #[v] w fun e w' => ∃ u, e = .returned u ∧ w'.ownsRow w.heap.size 45 2 u l.length (pcl l) ∧ Below w.heap.size w w' := by
  rcases h with ⟨rfl, A, c, rfl⟩ | ⟨b, o, c, rfl, hb, h1⟩
  · have hm0 : ∀ W : World, (Instr.makeSlice 24 (.int .i64 0) (.int .i64 0)).run Tryd.prog W = .ok (.slice (some ⟨W.heap.size, 0, none⟩) 0 0) (W.alloc (.cells #[] 45)) := fun _ => by kernel_rfl
    have hmw := hm0 w
    clear hm0
    go_enter Tryd.func13, Tryd.ntmps13
    go_wp2
    refine wp_loop_rounds 1 ?_
    rw [rounds_succ]
    go_wp2
    go_ret
    exact ⟨_, rfl, World.ownsRow_lit _ _ _ (Nat.le_refl _) (by decide) (by decide), (Below.refl _ _).alloc (Nat.le_refl _) _⟩
  · have hmk0 := zero_prow w l.length hn
    have H1 := Bx.mk h1
    clear h1
    go_enter Tryd.func13, Tryd.ntmps13
    go_wp2
    go_loopw [4] (fun i wr => ∃ j : Nat, j ≤ l.length ∧ i = .int .i64 j ∧ Bx (wr.ownsRow w.heap.size 45 2 (.slice (some ⟨w.heap.size, 0, none⟩) l.length l.length) l.length (pcl (pfil l j)) ∧ Below w.heap.size w wr)) (fun i _ => l.length - (intOf i).toNat)
    case atStart =>
      refine ⟨0, Nat.zero_le _, rfl, Bx.mk ⟨?_, (Below.refl _ _).alloc (Nat.le_refl _) _⟩⟩
      have := World.ownsRow_lit (base := w.heap.size) (e := 45) (size := 2) w (madeCells #[.int .i64 0, .int .i64 0] (l.length * 2)) l.length (Nat.le_refl _) (by unfold maxLen; omega) (by rw [size_madeCells])
      rw [made_two, ← pfil_zero] at this
      exact this
    case round =>
      obtain ⟨j, hj, rfl, HB⟩ := hrel
      by_cases hlt : j < l.length
      · have hml := pfil_len l j hj
        have h1 := (HB.out.2.cell (p := ⟨b, o + j * 2, none⟩) hb).trans (H1.out j hlt).1
        have h2 := (HB.out.2.cell (p := ⟨b, o + j * 2 + 1, none⟩) hb).trans (H1.out j hlt).2
        have HP := Bx.mk (pfil_step l j hlt)
        generalize pat l j = p at h1 h2 HP
        obtain ⟨p1, p2⟩ := p
        have hq := fun W => law_tonote p1 p2 W
        unfold nt at hq
        go_wp2_with (fail)
        refine (hq _).mono ?_
        rintro r w1 ⟨rfl, hb1⟩
        have HO : Bx (w1.ownsRow w.heap.size 45 2 (.slice (some ⟨w.heap.size, 0, none⟩) l.length l.length) l.length (pcl (pfil l j)) ∧ Below w.heap.size w w1) := Bx.mk ⟨own_below HB.out.1 hb1, HB.out.2.trans (hb1.mono HB.out.2.size)⟩
        clear HB hb1 h1 h2
        have hc : w1.cell? ⟨w.heap.size, j * 2, none⟩ = some (.int .i64 (pat (pfil l j) j).1) := (HO.out.1.cellAt (j * 2) (by omega)).trans (pcl_at0 _ j (by omega))
        have hc1 : w1.cell? ⟨w.heap.size, j * 2 + 1, none⟩ = some (.int .i64 (pat (pfil l j) j).2) := (HO.out.1.cellAt (j * 2 + 1) (by omega)).trans (pcl_at1 _ j (by omega))
        have hf := HO.out.1.frozenAt (j * 2)
        have hf1 := HO.out.1.frozenAt (j * 2 + 1)
        have HS : Bx (((w1.setCell ⟨w.heap.size, j * 2, none⟩ (.int .i64 p1)).setCell ⟨w.heap.size, j * 2 + 1, none⟩ (.int .i64 p2)).ownsRow w.heap.size 45 2 (.slice (some ⟨w.heap.size, 0, none⟩) l.length l.length) l.length (pcl (pfil l (j + 1))) ∧ Below w.heap.size w ((w1.setCell ⟨w.heap.size, j * 2, none⟩ (.int .i64 p1)).setCell ⟨w.heap.size, j * 2 + 1, none⟩ (.int .i64 p2))) := Bx.mk (by
          have hs := HO.out.1.stored (j * 2) (.int .i64 p1)
          have hs2 := hs.1.stored (j * 2 + 1) (.int .i64 p2)
          rw [pcl_set _ j (p1, p2) (by omega), HP.out] at hs2
          exact ⟨hs2.1, (HO.out.2.setCell (Nat.le_refl _) _).setCell (Nat.le_refl _) _⟩)
        generalize (pat (pfil l j) j).1 = u0 at hc
        generalize (pat (pfil l j) j).2 = u1 at hc1
        clear HO hml HP hq
        go_wp2_with (fail)
        go_roundw
        case rel => exact ⟨j + 1, by omega, by go_num, HS⟩
        case measure => simp [intOf]; omega
      · obtain rfl : j = l.length := by omega
        have HE := HB.out
        rw [pfil_all] at HE
        have HE := Bx.mk HE
        clear HB
        go_wp2
        go_ret
        exact ⟨_, rfl, HE.out.1, HE.out.2⟩
end Go.Proofs.YtendfnimhmnioaaDoor
