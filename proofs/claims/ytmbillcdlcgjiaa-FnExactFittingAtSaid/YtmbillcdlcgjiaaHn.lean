/- The laws' marks in items. -/
import Derived.Test.YtmbillcdlcgjiaaHc
import Derived.Test.YtmbillcdlcgjiaaRm
import Derived.Test.YtmbillcdlcgjiaaRowS
namespace Go.Proofs.Ytmbillcdlcgjiaa
open Go.ChangeShapes Go.WideShapes Go.ChangeAt Go.RowKit
set_option linter.unusedVariables false
set_option linter.unusedSimpArgs false
set_option maxRecDepth 100000

theorem below_row {w w' : World} (h : Below w.heap.size w w') (row : Option Nat) : w.grownBy w' row := ⟨h.os, h.tape, h.output, h.size, fun k hk _ => h.block k hk⟩
set_option maxHeartbeats 4000000 in
theorem mark_its (v : Value) (l : List It) (base : Nat) (k : Nat) (w : World) (h : w.ownsRow base 48 6 v l.length (icl l)) (hn : l.length ≤ 1048576) (hk2 : k ≤ 1000000000) :
    Calls Try.prog 43 #[v, .int .i64 k] w fun e w' => e = .returned (.int .i64 ((k : Int) + 6 * l.length)) ∧ w.grownBy w' v.ownBlock := by
  rcases Nat.eq_zero_or_pos l.length with h0 | h0
  · obtain rfl := List.eq_nil_of_length_eq_zero h0
    obtain ⟨A, c, rfl⟩ := own_len h
    clear h
    go_enter Try.func43, Try.ntmps43
    go_wp2
    refine wp_loop_rounds 1 ?_
    rw [rounds_succ]
    go_wp2
    go_ret
    exact ⟨ret_int (by simp), World.grownBy.refl w _⟩
  · obtain ⟨g, cap, rfl, hbg, hlt⟩ := h.form h0
    have HO := Bx.mk h
    clear h
    go_enter Try.func43, Try.ntmps43
    go_wp2_with (fail)
    go_loopw [1, 5] (fun q i wr => ∃ (j : Nat) (m : List It), j ≤ l.length ∧ m.length = l.length ∧ i = .int .i64 j ∧ q = .int .i64 ((k : Int) + 6 * j) ∧ Bx (wr.ownsRow base 48 6 (.slice (some ⟨g, 0, none⟩) l.length cap) l.length (icl m) ∧ w.grownBy wr (some g))) (fun _ i _ => l.length - (intOf i).toNat)
    case atStart => exact ⟨0, l, Nat.zero_le _, rfl, rfl, by go_num, Bx.mk ⟨HO.out, World.grownBy.refl w _⟩⟩
    case round =>
      obtain ⟨j, m, hj, hml, rfl, rfl, HB⟩ := hrel
      by_cases hlt : j < l.length
      · have hmt := mark_text (k + 6 * j) wr (by omega)
        rw [show (((k + 6 * j : Nat) : Int)) = (k : Int) + 6 * j by omega] at hmt
        have HM := Bx.mk hml
        clear hml
        go_wp2_with (fail)
        refine hmt.mono ?_
        rintro r w4 ⟨rfl, hb4⟩
        have HO4 : Bx (w4.ownsRow base 48 6 (.slice (some ⟨g, 0, none⟩) l.length cap) l.length (icl m) ∧ w.grownBy w4 (some g)) := Bx.mk ⟨own_below HB.out.1 hb4, HB.out.2.trans (below_row hb4 _)⟩
        clear HB hb4 hmt
        obtain ⟨y0, y1, y2, y3, y4, y5⟩ := icl_at m j (by rw [HM.out]; exact hlt)
        have hc0 := (HO4.out.1.cellAt (j * 6) (by omega)).trans y0
        have hf0 := HO4.out.1.frozenAt (j * 6)
        have hc1 := (HO4.out.1.cellAt (j * 6 + 1) (by omega)).trans y1
        have hf1 := HO4.out.1.frozenAt (j * 6 + 1)
        have hc2 := (HO4.out.1.cellAt (j * 6 + 2) (by omega)).trans y2
        have hf2 := HO4.out.1.frozenAt (j * 6 + 2)
        have hc3 := (HO4.out.1.cellAt (j * 6 + 3) (by omega)).trans y3
        have hf3 := HO4.out.1.frozenAt (j * 6 + 3)
        have hc4 := (HO4.out.1.cellAt (j * 6 + 4) (by omega)).trans y4
        have hf4 := HO4.out.1.frozenAt (j * 6 + 4)
        have hc5 := (HO4.out.1.cellAt (j * 6 + 5) (by omega)).trans y5
        have hf5 := HO4.out.1.frozenAt (j * 6 + 5)
        have HS : Bx (((((((w4.setCell ⟨g, j * 6, none⟩ (.string ⟨(markT (k + 6 * j)).toArray⟩)).setCell ⟨g, j * 6 + 1, none⟩ (.int .i64 ((k : Int) + 6 * j + 1))).setCell ⟨g, j * 6 + 2, none⟩ (.int .i64 ((k : Int) + 6 * j + 1 + 1))).setCell ⟨g, j * 6 + 3, none⟩ (.int .i64 ((k : Int) + 6 * j + 1 + 1 + 1))).setCell ⟨g, j * 6 + 4, none⟩ (.int .i64 ((k : Int) + 6 * j + 1 + 1 + 1 + 1))).setCell ⟨g, j * 6 + 5, none⟩ (.int .i64 ((k : Int) + 6 * j + 1 + 1 + 1 + 1 + 1))).ownsRow base 48 6 (.slice (some ⟨g, 0, none⟩) l.length cap) l.length (icl (m.set j ⟨⟨(markT (k + 6 * j)).toArray⟩, (k : Int) + 6 * j + 1, (k : Int) + 6 * j + 1 + 1, (k : Int) + 6 * j + 1 + 1 + 1, (k : Int) + 6 * j + 1 + 1 + 1 + 1, (k : Int) + 6 * j + 1 + 1 + 1 + 1 + 1⟩)) ∧ w.grownBy ((((((w4.setCell ⟨g, j * 6, none⟩ (.string ⟨(markT (k + 6 * j)).toArray⟩)).setCell ⟨g, j * 6 + 1, none⟩ (.int .i64 ((k : Int) + 6 * j + 1))).setCell ⟨g, j * 6 + 2, none⟩ (.int .i64 ((k : Int) + 6 * j + 1 + 1))).setCell ⟨g, j * 6 + 3, none⟩ (.int .i64 ((k : Int) + 6 * j + 1 + 1 + 1))).setCell ⟨g, j * 6 + 4, none⟩ (.int .i64 ((k : Int) + 6 * j + 1 + 1 + 1 + 1))).setCell ⟨g, j * 6 + 5, none⟩ (.int .i64 ((k : Int) + 6 * j + 1 + 1 + 1 + 1 + 1))) (some g)) := Bx.mk (by
          have hs := own_item HM.out.symm HO4.out.1 j (by rw [HM.out]; exact hlt) ⟨⟨(markT (k + 6 * j)).toArray⟩, (k : Int) + 6 * j + 1, (k : Int) + 6 * j + 1 + 1, (k : Int) + 6 * j + 1 + 1 + 1, (k : Int) + 6 * j + 1 + 1 + 1 + 1, (k : Int) + 6 * j + 1 + 1 + 1 + 1 + 1⟩
          have s0 := HO4.out.1.stored (j * 6) (.string ⟨(markT (k + 6 * j)).toArray⟩)
          have s1 := s0.1.stored (j * 6 + 1) (.int .i64 ((k : Int) + 6 * j + 1))
          have s2 := s1.1.stored (j * 6 + 2) (.int .i64 ((k : Int) + 6 * j + 1 + 1))
          have s3 := s2.1.stored (j * 6 + 3) (.int .i64 ((k : Int) + 6 * j + 1 + 1 + 1))
          have s4 := s3.1.stored (j * 6 + 4) (.int .i64 ((k : Int) + 6 * j + 1 + 1 + 1 + 1))
          have s5 := s4.1.stored (j * 6 + 5) (.int .i64 ((k : Int) + 6 * j + 1 + 1 + 1 + 1 + 1))
          exact ⟨hs, (((((HO4.out.2.trans s0.2).trans s1.2).trans s2.2).trans s3.2).trans s4.2).trans s5.2⟩)
        generalize iat m j = u at *
        have HL : Bx ((m.set j ⟨⟨(markT (k + 6 * j)).toArray⟩, (k : Int) + 6 * j + 1, (k : Int) + 6 * j + 1 + 1, (k : Int) + 6 * j + 1 + 1 + 1, (k : Int) + 6 * j + 1 + 1 + 1 + 1, (k : Int) + 6 * j + 1 + 1 + 1 + 1 + 1⟩).length = l.length) := Bx.mk (by rw [List.length_set]; exact HM.out)
        clear HO4 y0 y1 y2 y3 y4 y5
        go_wp2_with (fail)
        go_roundw
        case rel => exact ⟨j + 1, _, by omega, HL.out, by go_num, by go_num, HS⟩
        case measure => simp [intOf]; omega
      · obtain rfl : j = l.length := by omega
        have HE := HB
        clear HB
        go_wp2_with (fail)
        go_ret
        exact ⟨rfl, HE.out.2⟩
end Go.Proofs.Ytmbillcdlcgjiaa
