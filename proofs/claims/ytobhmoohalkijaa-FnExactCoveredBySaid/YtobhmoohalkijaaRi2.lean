/- The program: slices.Grow and slices.Concat at two lists. -/
import Derived.Test.YtobhmoohalkijaaRi
import Derived.Test.YtobhmoohalkijaaRmap
import Derived.Lib.AppendZeros
namespace Go.Proofs.Ytobhmoohalkijaa
open Go.ChangeShapes Go.WideShapes Go.ChangeAt Go.RowKit
set_option linter.unusedVariables false
set_option linter.unusedSimpArgs false
set_option maxRecDepth 100000

theorem row_zero {w : World} {base e g cap : Nat} {cur : Array Value} (hb : base ≤ g) (hc : w.heap[g]? = some (.cells cur e (0, 0))) (hm : cap ≤ maxLen) (hs : cur.size = cap) : w.ownsRow base e 1 (.slice (some ⟨g, 0, none⟩) 0 cap) 0 [] :=
  ⟨rfl, .inr ⟨g, cap, cur, rfl, hb, hc, Nat.zero_le _, hm, by omega, by simp⟩⟩
set_option maxHeartbeats 1000000 in
theorem std_grow (n : Nat) (w : World) (h1 : 0 < n) (h2 : n ≤ 2097152) :
    Calls Try.prog 105 #[.slice none 0 0, .int .i64 (n : Int)] w fun e w' => ∃ u, e = .returned u ∧ w'.ownsRow w.heap.size 2 1 u 0 [] ∧ Below w.heap.size w w' := by
  obtain ⟨i0, hi, hz0, hz1, hz2⟩ := info_parts infoI64
  have happ := fun W => Lib.run_append_nil_zeros (P := Try.prog) W 27 3 27 2 i0 (.int .i64 0) .i64 .i64 Try.underlying27 Try.underlying3 hi hz0 n h1 (by rw [hz1]; decide) (by omega) (by rw [hz2]; omega)
  have hc1 := grownCap_ge w n 0 2
  have hc2 := grownCap_le_maxLen w n 0 2 (by unfold maxLen; omega)
  have happ := happ w
  generalize grownCap w n 0 2 = cap at happ hc1 hc2
  have hsz : (Builtin.zeroCells (Value.int .i64 0).cells n ++ Builtin.zeroCells (Value.int .i64 0).cells (cap - n)).size = cap := by
    rw [Array.size_append, size_zeroCells, size_zeroCells]
    simp [Value.cells]; omega
  generalize (Builtin.zeroCells (Value.int .i64 0).cells n ++ Builtin.zeroCells (Value.int .i64 0).cells (cap - n)) = cur at happ hsz
  have d1 : decide ((n : Int) < 0) = false := decide_eq_false (by omega)
  have d2 : decide ((n : Int) > 0) = true := decide_eq_true (by omega)
  have HO := Bx.mk (row_zero (w := w.drew.alloc (.cells cur 2)) (base := w.heap.size) (g := w.heap.size) (cap := cap) (Nat.le_refl _) (heap_alloc_new w.drew _) hc2 hsz)
  unfold maxLen at hc2
  go_enter Try.func105, Try.ntmps105
  go_wp2_with (at_builtin; refine Lib.wpList_append_run _ rfl _ _ _ _ rfl _ _ rfl rfl _ _ happ ?_)
  go_ret
  exact ⟨_, rfl, HO.out, (Below.refl _ _).drew.alloc (Nat.le_refl _) _⟩
theorem ints_oneCell (zs : List Int) : ∀ u ∈ ints zs, u.oneCell' = true := by
  intro u hu
  simp only [ints, List.mem_map] at hu
  obtain ⟨z, _, rfl⟩ := hu
  rfl
theorem ints_news {w : World} {b o : Nat} {zs : List Int} (h : ∀ k, k < zs.length → w.cell? ⟨b, o + k, none⟩ = some (.int .i64 (zs.getD k 0))) : ∀ j u, (ints zs)[j]? = some u → w.cell? ((⟨b, o, none⟩ : Addr).add j) = some u := by
  intro j u hj
  have hlt : j < zs.length := by
    rcases Nat.lt_or_ge j zs.length with h1 | h1
    · exact h1
    · rw [List.getElem?_eq_none (by rw [ints_len]; exact h1)] at hj; cases hj
  rw [add_off, h j hlt, ← ints_at zs j hlt]
  exact hj
set_option maxHeartbeats 2000000 in
theorem std_concat (g : Nat) (xs ys : List Int) (v1 v2 : Value) (w : World) (h1 : IntsAt w v1 xs) (h2 : IntsAt w v2 ys) (hx : 0 < xs.length ∧ xs.length ≤ 1048576) (hy : 0 < ys.length ∧ ys.length ≤ 1048576)
    (c0 : w.cell? ⟨g, 0, none⟩ = some v1) (c1 : w.cell? ⟨g, 1, none⟩ = some v2) (hl : g < w.heap.size) :
    Calls Try.prog 89 #[.slice (some ⟨g, 0, none⟩) 2 2] w fun e w' => ∃ u, e = .returned u ∧ w'.ownsRow w.heap.size 2 1 u (xs ++ ys).length (ints (xs ++ ys)) ∧ Below w.heap.size w w' := by
  obtain ⟨b1, o1, k1, rfl, l1, x1⟩ := h1.form hx.1
  obtain ⟨b2, o2, k2, rfl, l2, x2⟩ := h2.form hy.1
  obtain ⟨i0, hi, hz0, hz1, hz2⟩ := info_parts infoI64
  have X1 := Bx.mk x1
  have X2 := Bx.mk x2
  have C := Bx.mk (And.intro c0 (And.intro c1 hl))
  have HI := Bx.mk (And.intro hi (And.intro hz0 (And.intro hz1 hz2)))
  clear x1 x2 h1 h2 hi hz0 hz1 hz2
  have hw1 : IntKind.i64.wrap ((0 : Int) + xs.length) = xs.length := by rw [Int.zero_add]; exact IntWalk.i64_in _ (by omega)
  have hw2 : IntKind.i64.wrap ((xs.length : Int) + ys.length) = ((xs.length + ys.length : Nat) : Int) := by rw [IntWalk.i64_in _ (by omega)]; omega
  have d1 : decide ((xs.length : Int) < 0) = false := decide_eq_false (by omega)
  have d2 : decide (((xs.length + ys.length : Nat) : Int) < 0) = false := decide_eq_false (by omega)
  have hgr := std_grow (xs.length + ys.length) w (by omega) (by omega)
  generalize hn : xs.length + ys.length = n at *
  go_enter Try.func89, Try.ntmps89
  go_wp2_with (fail)
  refine wp_loop_rounds 3 ?_
  rw [rounds_succ]
  go_wp2_with (fail)
  rw [rounds_succ]
  go_wp2_with (fail)
  rw [rounds_succ]
  go_wp2_with (fail)
  refine hgr.mono ?_
  rintro r w1 ⟨u, rfl, ho, hb⟩
  obtain ⟨Au, cu, rfl⟩ := own_len ho
  have HO := Bx.mk ho
  have B1 := Bx.mk hb
  have c0 := (hb.cell (p := ⟨g, 0, none⟩) hl).trans c0
  have c1 := (hb.cell (p := ⟨g, 1, none⟩) hl).trans c1
  have X1 := Bx.mk (fun k hk => (B1.out.cell (p := ⟨b1, o1 + k, none⟩) l1).trans (X1.out k hk))
  have X2 := Bx.mk (fun k hk => (B1.out.cell (p := ⟨b2, o2 + k, none⟩) l2).trans (X2.out k hk))
  clear ho hb hgr d1 d2 hw1 hw2
  obtain ⟨hi, hz0, hz1, hz2⟩ := HI.out
  go_wp2_with (fail)
  refine wp_loop_rounds 3 ?_
  rw [rounds_succ]
  go_wp2_with (at_builtin; refine wpList_append_own _ rfl _ _ 27 rfl w.heap.size 2 i0 (.int .i64 0) 1 8 Try.underlying27 hi hz0 hz1 hz2 rfl (by decide) (.slice Au 0 cu) 0 [] rfl HO.out ⟨b1, o1, none⟩ xs.length k1 (ints xs) rfl (by rw [ints_len]; simp) (ints_news X1.out) (ints_oneCell xs) (by unfold maxLen; omega) (by omega) (by have := B1.out.size; omega) ?_; intro v2 w2 hown hgrow hnil)
  obtain ⟨A2, c2, rfl⟩ := own_len hown
  have B2 := Bx.mk (B1.out.grown hgrow B1.out.size (fun k hk => own_lo HO.out k hk))
  have c1 := (B2.out.cell (p := ⟨g, 1, none⟩) hl).trans C.out.2.1
  have X3 := Bx.mk (fun k hk => (B2.out.cell (p := ⟨b2, o2 + k, none⟩) l2).trans ((B1.out.cell (p := ⟨b2, o2 + k, none⟩) l2).symm.trans (X2.out k hk)))
  have HO2 := Bx.mk hown
  clear hnil hgrow hown HO X1 X2 c0
  simp only [Nat.zero_add, List.nil_append] at HO2
  rw [Nat.zero_add]
  rw [rounds_succ]
  go_wp2_with (at_builtin; refine wpList_append_own _ rfl _ _ 27 rfl w.heap.size 2 i0 (.int .i64 0) 1 8 Try.underlying27 hi hz0 hz1 hz2 rfl (by decide) (.slice A2 xs.length c2) xs.length (ints xs) rfl HO2.out ⟨b2, o2, none⟩ ys.length k2 (ints ys) rfl (by rw [ints_len]; simp) (ints_news X3.out) (ints_oneCell ys) (by unfold maxLen; omega) (by omega) (by have := B2.out.size; omega) ?_; intro v3 w3 hown hgrow hnil)
  obtain ⟨A3, c3, rfl⟩ := own_len hown
  have B3 := Bx.mk (B2.out.grown hgrow B2.out.size (fun k hk => own_lo HO2.out k hk))
  have HO3 : Bx (w3.ownsRow w.heap.size 2 1 (.slice A3 (xs.length + ys.length) c3) (xs ++ ys).length (ints (xs ++ ys))) := Bx.mk (by
    rw [List.length_append]
    simpa [ints] using hown)
  clear hnil hgrow hown HO2 X3 c1
  rw [rounds_succ]
  go_wp2_with (fail)
  go_ret
  exact ⟨_, rfl, HO3.out, B3.out⟩
end Go.Proofs.Ytobhmoohalkijaa
