/- errors.Is and errors.Join: their contracts. -/
import Derived.Test.YtendfnimhmnioaaDoorEr2
import Derived.Test.YtendfnimhmnioaaDoorNap
namespace Go.Proofs.YtendfnimhmnioaaDoor
open Go.ChangeShapes Go.WideShapes Go.ChangeAt Go.RowKit
open Go.RowKit Go.Extern.Stop Go.Stop Go.Extern
set_option linter.unusedVariables false
set_option linter.unusedSimpArgs false
set_option maxRecDepth 100000

/-- what a writer has for reasons: none, or one joined -/
def RsAt (W : World) (v : Value) (q : Option Addr) : Prop := match q with | none => v = .nilIface | some x => ∃ j, v = jnV j ∧ JnAt W j x
theorem RsAt.below {W W' : World} {v : Value} {q : Option Addr} (h : RsAt W v q) (hb : Below W.heap.size W W') : RsAt W' v q := by
  cases q with
  | none => exact h
  | some x => obtain ⟨j, e, hj⟩ := h; exact ⟨j, e, hj.below hb⟩
theorem std_is_nil (b : Addr) (w : World) :
    Calls Tryd.prog 64 #[.nilIface, erV b] w fun e w' => e = .returned (.bool false) ∧ w' = w := by
  have hn := run_eql_iface_nil_left (P := Tryd.prog) w 166 (.pointer (some b)) Tryd.underlying53
  unfold erV
  go_enter Tryd.func64, Tryd.ntmps64
  go_wp2
  go_ret
  exact ⟨rfl, rfl⟩
theorem std_is_join (j : Nat) (b : Addr) (r : Bool) (w : World) (hr : Calls Tryd.prog 85 #[jnV j, erV b, .bool true] w fun e w' => e = .returned (.bool r) ∧ w' = w) :
    Calls Tryd.prog 64 #[jnV j, erV b] w fun e w' => e = .returned (.bool r) ∧ w' = w := by
  have h8 := @run_callFunc_extern Tryd.prog 84 _ Extern.ReflectliteType.typeOf Tryd.func84 (by kernel_rfl) (by kernel_rfl) (by kernel_rfl) (by kernel_rfl)
  have h32 := @run_callFunc_extern Tryd.prog 164 _ erCmp Tryd.func164 (by kernel_rfl) (by kernel_rfl) (by kernel_rfl) (by kernel_rfl)
  have tT := erTypeOf
  have cT := erComparable
  have mR := erMethod
  unfold erV jnV at *
  go_enter Tryd.func64, Tryd.ntmps64
  go_wp2_with (fail)
  refine hr.mono ?_
  rintro e w1 ⟨rfl, rfl⟩
  go_wp2_with (fail)
  go_ret
  exact ⟨rfl, rfl⟩
/-- whether a reason is among them -/
def hasR (q : Option Addr) (b : Addr) : Bool := decide (q = some b)
theorem std_is (v : Value) (q : Option Addr) (b : Addr) (w : World) (h : RsAt w v q) (hq : ∀ x, q = some x → x ≠ b → (∃ ca ta, w.heap[x.block]? = some (.cells ca ta (0, 0))) ∧ ∃ cb tb, w.heap[b.block]? = some (.cells cb tb (0, 0))) :
    Calls Tryd.prog 64 #[v, erV b] w fun e w' => e = .returned (.bool (hasR q b)) ∧ w' = w := by
  cases q with
  | none => subst h; exact std_is_nil b w
  | some x =>
    obtain ⟨j, rfl, hj⟩ := h
    by_cases e : x = b
    · subst e
      rw [show hasR (some x) x = true by simp [hasR]]
      exact std_is_join j x true w (is_join j x x true w hj (is_leaf_same x w))
    · obtain ⟨⟨ca, ta, ha⟩, cb, tb, hb⟩ := hq x rfl e
      rw [show hasR (some x) b = false by simp [hasR, e]]
      exact std_is_join j b false w (is_join j x b false w hj (is_leaf_other x b ca cb ta tb w e ha hb))
theorem BoxN.grownE {w w' : World} {g : Nat} {xs : Array Value} {t : TypeId} {row : Option Nat} (h : BoxN w g xs t) (hg : w.grownBy w' row) (hn : row ≠ some g) : BoxN w' g xs t := by
  have := hg.block g h.lt (fun e => hn e.symm)
  unfold BoxN at h ⊢
  rw [this, h]
theorem box_ne_rowE {w : World} {base e size n g : Nat} {v : Value} {xs : List Value} {ys : Array Value} {t : TypeId} (h : w.ownsRow base e size v n xs) (hb : BoxN w g ys t) (hne : t ≠ e) : v.ownBlock ≠ some g := by
  intro hv
  rcases h.2 with ⟨hv2, _⟩ | ⟨g2, cap, cur, hv2, _, hg, _⟩
  · rw [hv2] at hv; simp [Value.ownBlock] at hv
  · rw [hv2] at hv
    simp [Value.ownBlock] at hv
    subst hv
    unfold BoxN at hb
    rw [hg] at hb
    injection hb with hb
    injection hb with _ h2
    exact hne h2.symm
theorem own_one {w : World} {base e g c : Nat} {v : Value} {xs : List Value} (h : w.ownsRow base e 1 (.slice (some ⟨g, 0, none⟩) (0 + 1) c) (0 + 1) (xs ++ [v])) : ∃ cs, BoxN w g cs e ∧ cs[0]? = some v := by
  obtain ⟨hl, h2⟩ := h
  have hx : xs = [] := List.eq_nil_of_length_eq_zero (by simpa using hl)
  subst hx
  rcases h2 with ⟨hv, _⟩ | ⟨g2, cap, cur, hv, _, hg, hn, _, hs, ht⟩
  · cases hv
  · injection hv with hv _ _
    injection hv with hv
    injection hv with hv _ _
    subst hv
    refine ⟨cur, hg, ?_⟩
    have h1 : (cur.toList.take ((0 + 1) * 1))[0]? = some v := by rw [ht]; rfl
    simpa using h1
theorem infoErr : (Tryd.prog.info? 53).map (fun i => (i.zero, i.size, i.bytes)) = some (some .nilIface, 1, 16) := by kernel_rfl
set_option maxHeartbeats 4000000 in
theorem std_join (s c : Nat) (x : Addr) (w : World) (h0 : w.cell? ⟨s, 0, none⟩ = some .nilIface) (h1 : w.cell? ⟨s, 1, none⟩ = some (erV x)) :
    Calls Tryd.prog 65 #[.slice (some ⟨s, 0, none⟩) 2 c] w fun e w' => ∃ j, e = .returned (jnV j) ∧ JnAt w' j x ∧ Below w.heap.size w w' := by
  obtain ⟨i0, hi, hz0, hz1, hz2⟩ := info_parts infoErr
  have hm0 : ∀ W : World, (Instr.makeSlice 101 (.int .i64 0) (.int .i64 1)).run Tryd.prog W = .ok (.slice (some ⟨W.heap.size, 0, none⟩) 0 1) (W.alloc (.cells #[.nilIface] 53)) := fun _ => by kernel_rfl
  have hl := cell_lt h0
  dsimp only at hl
  have hmw := hm0 w
  clear hm0
  unfold erV at *
  go_enter Tryd.func65, Tryd.ntmps65
  go_wp2
  refine wp_loop_rounds 3 ?_
  rw [rounds_succ]
  go_wp2
  rw [rounds_succ]
  go_wp2
  rw [rounds_succ]
  go_wp2
  have hJ : BoxN ((w.alloc (.cells #[.nilIface] 53)).alloc (.cells #[.slice (some ⟨w.heap.size, 0, none⟩) 0 1] 104)) (w.heap.size + 1) #[.slice (some ⟨w.heap.size, 0, none⟩) 0 1] 104 := BoxN.at _ _ _ _ (by simp)
  have hO : ((w.alloc (.cells #[.nilIface] 53)).alloc (.cells #[.slice (some ⟨w.heap.size, 0, none⟩) 0 1] 104)).ownsRow w.heap.size 53 1 (.slice (some ⟨w.heap.size, 0, none⟩) 0 1) 0 [] :=
    World.ownsRow.alloc ⟨rfl, .inr ⟨w.heap.size, 1, _, rfl, Nat.le_refl _, heap_alloc_new w _, Nat.zero_le _, by decide, rfl, rfl⟩⟩ _
  have hB : Below w.heap.size w ((w.alloc (.cells #[.nilIface] 53)).alloc (.cells #[.slice (some ⟨w.heap.size, 0, none⟩) 0 1] 104)) := ((Below.refl _ _).alloc (Nat.le_refl _) _).alloc (by simp) _
  have hz : ((w.alloc (.cells #[.nilIface] 53)).alloc (.cells #[.slice (some ⟨w.heap.size, 0, none⟩) 0 1] 104)).heap.size ≥ w.heap.size + 1 + 1 := by simp
  have h0' := (hB.cell (p := ⟨s, 0, none⟩) hl).trans h0
  have h1' := (hB.cell (p := ⟨s, 1, none⟩) hl).trans h1
  generalize (w.alloc (.cells #[.nilIface] 53)).alloc (.cells #[.slice (some ⟨w.heap.size, 0, none⟩) 0 1] 104) = W at *
  have hsl : s < W.heap.size := by omega
  have HJ := Bx.mk hJ
  have HO := Bx.mk hO
  have HB := Bx.mk hB
  have j0 := hJ.c (k := 0) rfl
  have jf := hJ.fr 0
  have jl := hJ.lt
  clear hJ hO hB h0 h1 hmw
  refine wp_loop_rounds 3 ?_
  rw [rounds_succ]
  go_wp2
  rw [rounds_succ]
  go_wp2_with ((at_builtin; refine wpList_append_own _ rfl _ _ 101 rfl w.heap.size 53 i0 .nilIface 1 16 Tryd.underlying101 hi hz0 hz1 hz2 rfl (by decide) _ _ _ rfl (HO.out.alloc _) ⟨W.heap.size, 0, none⟩ 1 1 [.iface 166 (.pointer (some x))] rfl rfl (cells_newN _ _ _) (fun x hx => by simp at hx; subst hx; rfl) (by unfold maxLen; omega) (by omega) (by simp; omega) ?_; intro v' w3 hown' hgrow3 hnil3; obtain ⟨g', cap', rfl, _, _⟩ := hown'.form (Nat.succ_pos 0); have hJ3 := Bx.mk ((HJ.out.alloc (.cells #[.iface 166 (.pointer (some x))] 53)).grownE hgrow3 (box_ne_rowE (HO.out.alloc (.cells #[.iface 166 (.pointer (some x))] 53)) (HJ.out.alloc (.cells #[.iface 166 (.pointer (some x))] 53)) (by decide))); have hj3 := hJ3.out.c (k := 0) rfl; have hf3 := hJ3.out.fr 0; have hl3 := hJ3.out.lt; have HO3 := Bx.mk hown'; have HB3 := Bx.mk (Below.grown (HB.out.alloc HB.out.size (.cells #[.iface 166 (.pointer (some x))] 53)) hgrow3 (by have := HB.out.size; simp; omega) (fun k hk => own_lo HO.out k hk)); clear hown' hgrow3 hnil3))
  have hne := box_ne_rowE HO3.out hJ3.out (by decide)
  obtain ⟨cs, hcs, hc0⟩ := own_one HO3.out
  have HF : Bx (JnAt (w3.setCell ⟨w.heap.size + 1, 0, none⟩ (.slice (some ⟨g', 0, none⟩) (0 + 1) cap')) (w.heap.size + 1) x ∧ Below w.heap.size w (w3.setCell ⟨w.heap.size + 1, 0, none⟩ (.slice (some ⟨g', 0, none⟩) (0 + 1) cap'))) := Bx.mk ⟨⟨g', cap', cs, hJ3.out.put 0 _, hcs.other (fun e => hne (by rw [← e]; rfl)) _, hc0⟩, HB3.out.setCell (p := ⟨w.heap.size + 1, 0, none⟩) (Nat.le_succ _) _⟩
  rw [rounds_succ]
  go_wp2
  go_ret
  exact ⟨_, rfl, HF.out.1, HF.out.2⟩
end Go.Proofs.YtendfnimhmnioaaDoor
