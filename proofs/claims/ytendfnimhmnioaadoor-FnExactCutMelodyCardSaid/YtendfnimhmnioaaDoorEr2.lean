/- errors.Is, walked. -/
import Derived.Test.YtendfnimhmnioaaDoorEr
namespace Go.Proofs.YtendfnimhmnioaaDoor
open Go.ChangeShapes Go.WideShapes Go.ChangeAt Go.RowKit
open Go.RowKit Go.Extern.Stop Go.Stop Go.Extern
set_option linter.unusedVariables false
set_option linter.unusedSimpArgs false
set_option maxRecDepth 100000

/-- one reason joined -/
structure JnAt (W : World) (j : Nat) (x : Addr) : Prop where
  ex : ∃ k c cs, BoxN W j #[.slice (some ⟨k, 0, none⟩) 1 c] 104 ∧ BoxN W k cs 53 ∧ cs[0]? = some (erV x)
theorem JnAt.below {W W' : World} {j : Nat} {x : Addr} (h : JnAt W j x) (hb : Below W.heap.size W W') : JnAt W' j x := by
  obtain ⟨k, c, cs, h1, h2, h3⟩ := h.ex
  exact ⟨k, c, cs, h1.below hb, h2.below hb, h3⟩
theorem is_leaf_same (a : Addr) (w : World) :
    Calls Tryd.prog 85 #[erV a, erV a, .bool true] w fun e w' => e = .returned (.bool true) ∧ w' = w := by
  obtain ⟨i, hi, hcmp⟩ := Option.map_eq_some_iff.1 erComp
  obtain ⟨j, hj, hjs⟩ := Option.map_eq_some_iff.1 erSize
  have heq := run_eql_iface_ptr_same (P := Tryd.prog) w a Tryd.underlying53 Tryd.underlying166 hi hcmp hj
  unfold erV
  go_enter Tryd.func85, Tryd.ntmps85
  go_wp2
  refine wp_loop_rounds 1 ?_
  rw [rounds_succ]
  go_wp2
  go_ret
  exact ⟨rfl, rfl⟩
theorem is_leaf_other (a b : Addr) (ca cb : Array Value) (ta tb : TypeId) (w : World) (hne : a ≠ b) (ha : w.heap[a.block]? = some (.cells ca ta (0, 0))) (hb : w.heap[b.block]? = some (.cells cb tb (0, 0))) :
    Calls Tryd.prog 85 #[erV a, erV b, .bool true] w fun e w' => e = .returned (.bool false) ∧ w' = w := by
  obtain ⟨i, hi, hcmp⟩ := Option.map_eq_some_iff.1 erComp
  obtain ⟨j, hj, hjs⟩ := Option.map_eq_some_iff.1 erSize
  have nE := noIsE
  have uE := noUnE
  have vE := noUsE
  have heq := run_eql_iface_ptr_other (P := Tryd.prog) w Tryd.underlying53 Tryd.underlying166 hi hcmp hj (by rw [hjs]; decide) hne ha hb
  clear ha hb
  unfold erV
  go_enter Tryd.func85, Tryd.ntmps85
  go_wp2
  refine wp_loop_rounds 1 ?_
  rw [rounds_succ]
  go_wp2
  go_ret
  exact ⟨rfl, rfl⟩
theorem jn_unwrap (j k c : Nat) (w : World) (h : w.cell? ⟨j, 0, none⟩ = some (.slice (some ⟨k, 0, none⟩) 1 c)) :
    Calls Tryd.prog 160 #[.pointer (some ⟨j, 0, none⟩)] w fun e w' => e = .returned (.slice (some ⟨k, 0, none⟩) 1 c) ∧ w' = w := by
  have hl := cell_lt h
  dsimp only at hl
  go_enter Tryd.func160, Tryd.ntmps160
  go_wp2
  go_ret
  exact ⟨rfl, rfl⟩
set_option maxHeartbeats 2000000 in
theorem is_join (j : Nat) (x b : Addr) (r : Bool) (w : World) (h : JnAt w j x) (hr : Calls Tryd.prog 85 #[erV x, erV b, .bool true] w fun e w' => e = .returned (.bool r) ∧ w' = w) :
    Calls Tryd.prog 85 #[jnV j, erV b, .bool true] w fun e w' => e = .returned (.bool r) ∧ w' = w := by
  obtain ⟨k, c, cs, hx1, hx2, hx3⟩ := h.ex
  have hu := jn_unwrap j k c w (hx1.c (k := 0) rfl)
  have h2 := hx2.c hx3
  have hkl := hx2.lt
  have nJ := noIsJ
  have uJ := noUnJ
  have vJ := hasUsJ
  have mU := unMethod
  have hty := run_eql_iface_types (P := Tryd.prog) 102 166 (.pointer (some ⟨j, 0, none⟩)) (.pointer (some b)) Tryd.underlying53 (by decide) w
  clear h hx1 hx2 hx3
  unfold erV jnV at *
  go_enter Tryd.func85, Tryd.ntmps85
  go_wp2
  refine wp_loop_rounds 1 ?_
  rw [rounds_succ]
  go_wp2_with (fail)
  refine hu.mono ?_
  rintro e w1 ⟨rfl, rfl⟩
  clear hu
  go_wp2_with (fail)
  cases r
  · refine wp_loop_rounds 2 ?_
    rw [rounds_succ]
    go_wp2_with (fail)
    refine hr.mono ?_
    rintro e w1 ⟨rfl, rfl⟩
    go_wp2_with (fail)
    rw [rounds_succ]
    go_wp2_with (fail)
    go_ret
    exact ⟨rfl, rfl⟩
  · refine wp_loop_rounds 1 ?_
    rw [rounds_succ]
    go_wp2_with (fail)
    refine hr.mono ?_
    rintro e w1 ⟨rfl, rfl⟩
    go_wp2_with (fail)
    go_ret
    exact ⟨rfl, rfl⟩
end Go.Proofs.YtendfnimhmnioaaDoor
