/- 'laws.FnExactNextStart' returns true at every input: NextStart on both sides is one function. -/
import Derived.Test.YtmbillcdlcgjiaaHi
import Derived.Test.YtmbillcdlcgjiaaLaw
namespace Go.Proofs.Ytmbillcdlcgjiaa.fnExactNextStart
open Go.ChangeShapes Go.WideShapes Go.ChangeAt Go.RowKit
set_option linter.unusedVariables false
set_option linter.unusedSimpArgs false
set_option maxRecDepth 100000

set_option maxHeartbeats 4000000 in
theorem walk (x0 : It) (w0 : WfI x0) (a1 : Int) (w1 : (Lit.int .i64 a1).wf = true) (a2 : Int) (w2 : (Lit.int .i64 a2).wf = true) (w : World) :
    Calls Try.prog 10 #[itV x0, .int .i64 a1, .int .i64 a2] w fun e w' => e = .returned (.bool true) ∧ Below w.heap.size w w' := by
  have B0 : Bx (Below w.heap.size w w) := Bx.mk (Below.refl _ _)
  have hx := c6_alloc w x0 45
  have hb : Below w.heap.size w (w.alloc (.cells #[.string x0.nm, .int .i64 x0.f, .int .i64 x0.u, .int .i64 x0.s, .int .i64 x0.m, .int .i64 x0.p] 45)) := (Below.refl _ _).alloc (Nat.le_refl _) _
  have hlx : w.heap.size < (w.alloc (.cells #[.string x0.nm, .int .i64 x0.f, .int .i64 x0.u, .int .i64 x0.s, .int .i64 x0.m, .int .i64 x0.p] 45)).heap.size := by simp
  generalize hW : w.alloc (.cells #[.string x0.nm, .int .i64 x0.f, .int .i64 x0.u, .int .i64 x0.s, .int .i64 x0.m, .int .i64 x0.p] 45) = q1 at hx hb hlx
  unfold itV
  go_enter Try.func10, Try.ntmps10
  have B1 := Bx.mk hb
  have SZ1 := Bx.mk hb.size
  have XC_1 := Bx.mk hx
  have XL_1 := Bx.mk hlx
  clear hb hx hlx B0
  have y0 := XC_1.out.c0
  have y1 := XC_1.out.c1
  have y2 := XC_1.out.c2
  have y3 := XC_1.out.c3
  have y4 := XC_1.out.c4
  have y5 := XC_1.out.c5
  have yl := XL_1.out
  go_wp2_with (fail)
  try clear hW
  have HZ := fun W => sz_item x0 1048576 W (by decide) w0.n
  have HT := fun W => law_toitem x0 W
  unfold itV at HZ HT
  refine (HZ _).mono ?_
  rintro e2 q2 ⟨rfl, hb⟩
  by_cases hs0 : 1048576 < (x0.nm.size : Int)
  · rw [show szI x0.nm.size 1048576 = -1 from if_pos hs0]
    have BZ := Bx.mk (B1.out.trans (hb.mono B1.out.size))
    clear hb B1 HZ
    go_wp2_with (fail)
    go_ret
    exact ⟨rfl, BZ.out⟩
  rw [show szI x0.nm.size 1048576 = 1048576 - x0.nm.size from if_neg hs0]
  obtain ⟨z0, ez0, hz0⟩ : ∃ z : Int, z = 1048576 - (x0.nm.size : Int) ∧ (0 ≤ z ∧ z ≤ 1048576) := ⟨_, rfl, by omega⟩
  rw [← ez0]
  have hd0 : decide (z0 < 0) = false := decide_eq_false (by omega)
  clear ez0 hs0
  have XC_2 := Bx.mk (XC_1.out.below XL_1.out hb)
  have XL_2 := Bx.mk (Nat.lt_of_lt_of_le XL_1.out hb.size)
  clear XC_1 XL_1 y0 y1 y2 y3 y4 y5 yl
  have y0 := XC_2.out.c0
  have y1 := XC_2.out.c1
  have y2 := XC_2.out.c2
  have y3 := XC_2.out.c3
  have y4 := XC_2.out.c4
  have y5 := XC_2.out.c5
  have yl := XL_2.out
  have B2 : Bx (Below w.heap.size w q2) := Bx.mk (B1.out.trans (hb.mono B1.out.size))
  have SZ2 : Bx (q1.heap.size ≤ q2.heap.size) := Bx.mk hb.size
  clear hb
  go_wp2_with (fail)
  have hs : ∀ W, Calls Try.prog 44 #[itV x0, .int .i64 a1, .int .i64 a2] W (fun e w' => e = .returned (.tuple #[.int .i64 (nextE x0 a1 a2).1, .int .i64 (nextE x0 a1 a2).2]) ∧ Below W.heap.size W w') := fun W => spec_nextstart x0 a1 a2 W w0.n
  have hi : ∀ W, Calls Try.prog 45 #[itV x0, .int .i64 a1, .int .i64 a2] W (fun e w' => e = .returned (.tuple #[.int .i64 (nextE x0 a1 a2).1, .int .i64 (nextE x0 a1 a2).2]) ∧ Below W.heap.size W w') := fun W => impl_nextstart x0 a1 a2 W w0
  generalize (nextE x0 a1 a2).1 = r1 at hs hi
  generalize (nextE x0 a1 a2).2 = r2 at hs hi
  unfold itV at hs hi
  refine (HT _).mono ?_
  rintro e3 q3 ⟨rfl, hb⟩
  have XC_3 := Bx.mk (XC_2.out.below XL_2.out hb)
  have XL_3 := Bx.mk (Nat.lt_of_lt_of_le XL_2.out hb.size)
  clear XC_2 XL_2 y0 y1 y2 y3 y4 y5 yl
  have y0 := XC_3.out.c0
  have y1 := XC_3.out.c1
  have y2 := XC_3.out.c2
  have y3 := XC_3.out.c3
  have y4 := XC_3.out.c4
  have y5 := XC_3.out.c5
  have yl := XL_3.out
  have B3 : Bx (Below w.heap.size w q3) := Bx.mk (B2.out.trans (hb.mono B2.out.size))
  have SZ3 : Bx (q2.heap.size ≤ q3.heap.size) := Bx.mk hb.size
  clear hb
  go_wp2_with (fail)
  refine (hs _).mono ?_
  rintro e4 q4 ⟨rfl, hb⟩
  have XC_4 := Bx.mk (XC_3.out.below XL_3.out hb)
  have XL_4 := Bx.mk (Nat.lt_of_lt_of_le XL_3.out hb.size)
  clear XC_3 XL_3 y0 y1 y2 y3 y4 y5 yl
  have y0 := XC_4.out.c0
  have y1 := XC_4.out.c1
  have y2 := XC_4.out.c2
  have y3 := XC_4.out.c3
  have y4 := XC_4.out.c4
  have y5 := XC_4.out.c5
  have yl := XL_4.out
  have B4 : Bx (Below w.heap.size w q4) := Bx.mk (B3.out.trans (hb.mono B3.out.size))
  have SZ4 : Bx (q3.heap.size ≤ q4.heap.size) := Bx.mk hb.size
  clear hb
  go_wp2_with (fail)
  refine (HT _).mono ?_
  rintro e5 q5 ⟨rfl, hb⟩
  have XC_5 := Bx.mk (XC_4.out.below XL_4.out hb)
  have XL_5 := Bx.mk (Nat.lt_of_lt_of_le XL_4.out hb.size)
  clear XC_4 XL_4 y0 y1 y2 y3 y4 y5 yl
  have y0 := XC_5.out.c0
  have y1 := XC_5.out.c1
  have y2 := XC_5.out.c2
  have y3 := XC_5.out.c3
  have y4 := XC_5.out.c4
  have y5 := XC_5.out.c5
  have yl := XL_5.out
  have B5 : Bx (Below w.heap.size w q5) := Bx.mk (B4.out.trans (hb.mono B4.out.size))
  have SZ5 : Bx (q4.heap.size ≤ q5.heap.size) := Bx.mk hb.size
  clear hb
  go_wp2_with (fail)
  refine (hi _).mono ?_
  rintro e6 q6 ⟨rfl, hb⟩
  have XC_6 := Bx.mk (XC_5.out.below XL_5.out hb)
  have XL_6 := Bx.mk (Nat.lt_of_lt_of_le XL_5.out hb.size)
  clear XC_5 XL_5 y0 y1 y2 y3 y4 y5 yl
  have y0 := XC_6.out.c0
  have y1 := XC_6.out.c1
  have y2 := XC_6.out.c2
  have y3 := XC_6.out.c3
  have y4 := XC_6.out.c4
  have y5 := XC_6.out.c5
  have yl := XL_6.out
  have B6 : Bx (Below w.heap.size w q6) := Bx.mk (B5.out.trans (hb.mono B5.out.size))
  have SZ6 : Bx (q5.heap.size ≤ q6.heap.size) := Bx.mk hb.size
  clear hb
  go_wp2_with (fail)
  go_ret
  exact ⟨rfl, B6.out⟩

theorem own : ownKnob Try.prog.godebug = none := by kernel_rfl
theorem laidOut : laidOutB Try.prog = true := by kernel_rfl

set_option maxRecDepth 100000 in
theorem lifted (os : Os) (started : os.Started) (H : Type) (enc : TypeId × Value → H) :
    ReturnsInHanded {} Try.checked os 10 .any (Rows.fnExactNextStartSpec.pre6 enc Try.prog Try.f10 Rows.fnExactNextStartRow.domain false) (Rows.fnExactNextStartSpec.post enc Try.prog Try.f10 false true false false) := by
  refine returnsInHanded_of_change (C := Try.checked) own started (by kernel_rfl) Try.func10
    (ChangeSpec.witness6 (enc := enc) (C := Try.checked) false ⟨#[], #[.agg #[.string ⟨#[]⟩, .int .i64 0, .int .i64 0, .int .i64 0, .int .i64 0, .int .i64 0], .int .i64 0, .int .i64 0], []⟩ 8 (by kernel_rfl) (by kernel_rfl) (by kernel_rfl) (by kernel_rfl)) ?_
  intro W base args ds gs before hval0 hW hcnd _
  have hval : ∀ (j : Nat) t v, Try.f10.params[j]? = some t → args[j]? = some v → Value.okWide Try.prog W .any base t v := hval0
  have hW' := hW
  obtain ⟨p, q, hA0, hV, rfl, hfz, hnd⟩ := hW
  have hA : DataW.TrodAll enc Try.prog W 0 (fun _ => true) true Try.f10.params.toList args.toList ds p := hA0
  rw [Try.params10] at hA hval
  obtain ⟨v0, vs0, d0, ds0, p0, q0, hargs, rfl, rfl, h0, r0⟩ := trodAll_cons hA
  obtain ⟨v1, vs1, d1, ds1, p1, q1, rfl, rfl, rfl, h1, r1⟩ := trodAll_cons r0
  obtain ⟨v2, vs2, d2, ds2, p2, q2, rfl, rfl, rfl, h2, r2⟩ := trodAll_cons r1
  obtain ⟨rfl, rfl, rfl⟩ := trodAll_nil r2
  obtain rfl : args = #[v0, v1, v2] := by cases args; simp_all
  obtain ⟨rfl, rfl⟩ := trodVars_none hV
  obtain ⟨x0, rfl, w0⟩ := arg_item (hval 0 45 v0 rfl rfl) h0
  obtain ⟨a1, rfl, rfl, rfl, w1⟩ := open_int Try.underlying2 (hval 1 2 v1 rfl rfl) h1
  obtain ⟨a2, rfl, rfl, rfl, w2⟩ := open_int Try.underlying2 (hval 2 2 v2 rfl rfl) h2
  clear hA0 hval0
  refine (walk x0 w0 a1 w1 a2 w2 W).mono fun e W' ⟨he, hb⟩ => ?_
  subst he
  exact ⟨_, rfl, post_law laidOut (by kernel_rfl) (by kernel_rfl) Try.underlying4 rfl hW' rfl hb⟩

theorem closed : joinedFacts Try.pinned.checked.prog 10 Try.f10 Rows.fnExactNextStartSpec Rows.fnExactNextStartRow = true := by
  unfold joinedFacts
  rw [may, lifts, made]
  kernel_rfl
theorem over : Rows.fnExactNextStartRow.holds Try.pinned (OpenSpec.ofChange Rows.fnExactNextStartSpec) :=
  OpenClaim.holds_of_wide 10 Try.f10 rfl rfl rfl rfl rfl rfl rfl ⟨rfl, rfl, rfl, rfl, rfl⟩ rfl rfl rfl rfl rfl (by kernel_rfl) Try.func10 closed
    (of_decide_eq_true (by kernel_rfl)) (by unfold Func.isWrapper; first | (rw [if_pos (by decide +kernel)]; kernel_rfl) | (rw [if_neg (by decide +kernel)]; exact ⟨rfl, rfl⟩))
    (fun os started H enc _ => lifted os started H enc)

theorem proved : Rows.FnExactNextStartSaid := over
#print axioms proved
end Go.Proofs.Ytmbillcdlcgjiaa.fnExactNextStart
