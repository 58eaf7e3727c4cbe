/- JoinMelodies: the program. -/
import Derived.Test.YtendfnimhmnioaaDoorNj
import Derived.Test.YtendfnimhmnioaaDoorNv
import Derived.Lib.AppendZeros
namespace Go.Proofs.YtendfnimhmnioaaDoor
open Go.ChangeShapes Go.WideShapes Go.ChangeAt Go.RowKit
set_option linter.unusedVariables false
set_option linter.unusedSimpArgs false
set_option maxRecDepth 100000

theorem row_zero2 {w : World} {base e g cap : Nat} {cur : Array Value} (hb : base ≤ g) (hc : w.heap[g]? = some (.cells cur e (0, 0))) (hm : cap ≤ maxLen) (hs : cur.size = cap * 2) : w.ownsRow base e 2 (.slice (some ⟨g, 0, none⟩) 0 cap) 0 [] :=
  ⟨rfl, .inr ⟨g, cap, cur, rfl, hb, hc, Nat.zero_le _, hm, hs, by simp⟩⟩
set_option maxHeartbeats 1000000 in
theorem std_grow9 (n : Nat) (w : World) (h2 : n ≤ 96) :
    Calls Tryd.prog 66 #[.slice none 0 0, .int .i64 (n : Int)] w fun e w' => ∃ u, e = .returned u ∧ w'.ownsRow w.heap.size 45 2 u 0 [] ∧ Below w.heap.size w w' := by
  rcases Nat.eq_zero_or_pos n with rfl | h1
  · go_enter Tryd.func66, Tryd.ntmps66
    go_wp2_with (fail)
    go_ret
    exact ⟨_, rfl, World.ownsRow_nil _ _ _ _, Below.refl _ _⟩
  · obtain ⟨i0, hi, hz0, hz1, hz2⟩ := info_parts infoNoteL
    have happ := fun W => Lib.run_append_nil_zeros (P := Tryd.prog) W 24 3 24 45 i0 (.agg #[.int .i64 0, .int .i64 0]) .i64 .i64 Tryd.underlying24 Tryd.underlying3 hi hz0 n h1 (by rw [hz1]; decide) (by omega) (by rw [hz2]; omega)
    have hc1 := grownCap_ge w n 0 45
    have hc2 := grownCap_le_maxLen w n 0 45 (by unfold maxLen; omega)
    have happ := happ w
    generalize grownCap w n 0 45 = cap at happ hc1 hc2
    have hsz : (Builtin.zeroCells (Value.agg #[.int .i64 0, .int .i64 0]).cells n ++ Builtin.zeroCells (Value.agg #[.int .i64 0, .int .i64 0]).cells (cap - n)).size = cap * 2 := by
      rw [Array.size_append, size_zeroCells, size_zeroCells]
      simp [Value.cells]; omega
    generalize (Builtin.zeroCells (Value.agg #[.int .i64 0, .int .i64 0]).cells n ++ Builtin.zeroCells (Value.agg #[.int .i64 0, .int .i64 0]).cells (cap - n)) = cur at happ hsz
    have d1 : decide ((n : Int) < 0) = false := decide_eq_false (by omega)
    have d2 : decide ((n : Int) > 0) = true := decide_eq_true (by omega)
    have HO := Bx.mk (row_zero2 (w := w.drew.alloc (.cells cur 45)) (base := w.heap.size) (g := w.heap.size) (cap := cap) (Nat.le_refl _) (heap_alloc_new w.drew _) hc2 hsz)
    unfold maxLen at hc2
    go_enter Tryd.func66, Tryd.ntmps66
    go_wp2_with (at_builtin; refine Lib.wpList_append_run _ rfl _ _ _ _ rfl _ _ rfl rfl _ _ happ ?_)
    go_ret
    exact ⟨_, rfl, HO.out, (Below.refl _ _).drew.alloc (Nat.le_refl _) _⟩
set_option maxHeartbeats 2000000 in
theorem std_concat9 (g : Nat) (l m T : List (Int × Int)) (A B : Option Addr) (c d : Nat) (w : World) (hT : Bx (T = l ++ m)) (h1 : PrsC w (.slice A l.length c) l) (h2 : PrsC w (.slice B m.length d) m) (hx : l.length ≤ 48) (hy : m.length ≤ 48)
    (c0 : w.cell? ⟨g, 0, none⟩ = some (.slice A l.length c)) (c1 : w.cell? ⟨g, 1, none⟩ = some (.slice B m.length d)) (hl : g < w.heap.size) :
    Calls Tryd.prog 49 #[.slice (some ⟨g, 0, none⟩) 2 2] w (NewNts T w) := by
  have X1 := Bx.mk h1
  have X2 := Bx.mk h2
  have C := Bx.mk (And.intro c0 (And.intro c1 hl))
  clear h1 h2
  have hw1 : IntKind.i64.wrap ((0 : Int) + l.length) = l.length := by rw [Int.zero_add]; exact IntWalk.i64_in _ (by omega)
  have hw2 : IntKind.i64.wrap ((l.length : Int) + m.length) = ((l.length + m.length : Nat) : Int) := by rw [IntWalk.i64_in _ (by omega)]; omega
  have d1 : decide ((l.length : Int) < 0) = false := decide_eq_false (by omega)
  have d2 : decide (((l.length + m.length : Nat) : Int) < 0) = false := decide_eq_false (by omega)
  have hgr := std_grow9 (l.length + m.length) w (by omega)
  generalize hn : l.length + m.length = n at *
  go_enter Tryd.func49, Tryd.ntmps49
  go_wp2_with (fail)
  refine wp_loop_rounds 3 ?_
  rw [rounds_succ]
  go_wp2_with (fail)
  rw [rounds_succ]
  go_wp2_with (fail)
  rw [rounds_succ]
  go_wp2_with (fail)
  refine hgr.mono ?_
  rintro r w1 ⟨u, rfl, ho, hb⟩
  obtain ⟨Au, cu, rfl⟩ := own_len ho
  have HO := Bx.mk ho
  have B1 := Bx.mk hb
  have c0 := (hb.cell (p := ⟨g, 0, none⟩) hl).trans c0
  have c1 := (hb.cell (p := ⟨g, 1, none⟩) hl).trans c1
  have Y1 := Bx.mk (X1.out.below hb)
  have gl1 := Nat.lt_of_lt_of_le hl hb.size
  clear ho hb hgr d1 d2 hw1 hw2
  go_wp2_with (fail)
  refine wp_loop_rounds 3 ?_
  rw [rounds_succ]
  go_wp2_with ((at_builtin; refine append_prs rfl _ _ rfl w.heap.size (.slice Au 0 cu) 0 [] rfl HO.out (.slice A l.length c) l rfl Y1.out (by omega) B1.out.size ?_; intro v2 w2 ho2 hb2 _; have B2 := Bx.mk (hb2 w B1.out (Nat.le_refl _)); have HO2 : Bx (w2.ownsRow w.heap.size 45 2 v2 l.length (pcl l)) := Bx.mk (by simpa using ho2); obtain ⟨A2, c2, rfl⟩ := own_len HO2.out; clear ho2 hb2))
  have c1 := (B2.out.cell (p := ⟨g, 1, none⟩) hl).trans C.out.2.1
  have Y2 := Bx.mk (X2.out.below B2.out)
  have gl2 := Nat.lt_of_lt_of_le hl B2.out.size
  clear HO Y1 c0
  rw [rounds_succ]
  go_wp2_with ((at_builtin; refine append_prs rfl _ _ rfl w.heap.size (.slice A2 l.length c2) l.length (pcl l) rfl HO2.out (.slice B m.length d) m rfl Y2.out (by omega) B2.out.size ?_; intro v3 w3 ho3 hb3 _; have B3 := Bx.mk (hb3 w B2.out (Nat.le_refl _)); have HO3 : Bx (w3.ownsRow w.heap.size 45 2 v3 T.length (pcl T)) := Bx.mk (by rw [hT.out, List.length_append, pcl_app]; exact ho3); obtain ⟨A3, c3, rfl⟩ := own_len HO3.out; clear ho3 hb3))
  clear HO2 Y2 c1
  rw [rounds_succ]
  go_wp2_with (fail)
  go_ret
  exact ⟨_, rfl, HO3.out, B3.out⟩
end Go.Proofs.YtendfnimhmnioaaDoor
