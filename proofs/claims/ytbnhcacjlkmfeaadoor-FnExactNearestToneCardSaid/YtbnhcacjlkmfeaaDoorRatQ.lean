/- The program's cents. -/
import Derived.Test.YtbnhcacjlkmfeaaDoorRatN
import Derived.Test.YtbnhcacjlkmfeaaDoorTabs
namespace Go.Proofs.YtbnhcacjlkmfeaaDoor
open Go.ChangeShapes Go.WideShapes Go.ChangeAt Go.RowKit
set_option linter.unusedVariables false
set_option linter.unusedSimpArgs false
set_option maxRecDepth 100000

/-- the program's table of cents holds what it should -/
def StepTab (W : World) : Prop := 0 < W.heap.size ∧ ∀ i : Nat, i ≤ 32 → W.cell? ⟨0, i, none⟩ = some (.int .i64 (tabZ i))
theorem StepTab.below {W W' : World} (h : StepTab W) (hb : Below W.heap.size W W') : StepTab W' := ⟨Nat.lt_of_lt_of_le h.1 hb.size, fun i hi => (hb.cell (p := ⟨0, i, none⟩) h.1).trans (h.2 i hi)⟩
theorem StepTab.alloc {W : World} (h : StepTab W) (o : Obj) : StepTab (W.alloc o) := h.below ((Below.refl _ _).alloc (Nat.le_refl _) _)
theorem quiet_n {P : Program} {f : FuncId} {args : Array Value} {w : World} {n : Nat} {v : Value}
    (h : Calls P f args (w.drewN n) fun e w' => e = .returned v ∧ ∃ m, w' = (w.drewN n).drewN m) : Calls P f args (w.drewN n) fun e w'' => e = .returned v ∧ ∃ m, w'' = w.drewN m :=
  h.mono fun _ _ ⟨he, m, hm⟩ => ⟨he, n + m, by rw [hm]; exact World.drewN_drewN ..⟩
theorem StepTab.draws {W : World} (h : StepTab W) (n : Nat) : StepTab (W.drewN n) := h
set_option maxHeartbeats 2000000 in
theorem impl_cents (n d : Int) (w : World) (hT : StepTab w) (hn : 1 ≤ n ∧ n ≤ 1000000) (hd : 1 ≤ d ∧ d ≤ 1000000) :
    Calls Tryd.prog 43 #[rat n d] w fun r w' => r = .returned (.int .i64 (centsZ n d)) ∧ Below w.heap.size w w' := by
  have hio := inoct_open (fun W => impl_inoctave n d W hn hd)
  have HP := octN_spec hn.1 hd.1
  have HC : Bx (centsZ n d = centP (octN n d).1 (octN n d).2.1 (octN n d).2.2) := Bx.mk rfl
  generalize octN n d = t at hio HP HC
  obtain ⟨num, den, kk⟩ := t
  obtain ⟨⟨p1, p2⟩, ⟨p3, p4⟩, p5, p6⟩ := octP_bd HP hn hd
  simp only at p1 p2 p3 p4 p5 p6 hio
  obtain ⟨i, hi, i1, i2, i3⟩ := part_index p1 p3 p4
  obtain ⟨t1, t2, t3⟩ := tab_bd i i1
  have HI := Bx.mk hi
  have HC2 : Bx (centsZ n d = 120000 * kk + tabZ i + dv ((tabZ (i + 1) - tabZ i) * (32 * (num - den) - i * den)) den) := Bx.mk (by rw [HC.out]; simp only [centP]; rw [hi]; simp)
  clear hi HC HP
  have HT := Bx.mk hT
  have TC := fun W (h : StepTab W) => h.2 i (by omega)
  have TD := fun W (h : StepTab W) => h.2 (i + 1) (by omega)
  clear hT hn hd
  generalize tabZ i = x at *
  generalize tabZ (i + 1) = y at *
  have hm : 0 ≤ (y - x) * (32 * (num - den) - i * den) ∧ (y - x) * (32 * (num - den) - i * den) ≤ 120000 * 1000000 := ⟨Int.mul_nonneg (by omega) i2, Int.mul_le_mul (by omega) (by omega) i2 (by omega)⟩
  have hdv := dv_in ((y - x) * (32 * (num - den) - i * den)) den 120000000000 (by omega) (by omega) (by omega)
  have HDIV := fun W => nearest ((y - x) * (32 * (num - den) - i * den)) den W (by omega) (by omega) (by omega) (by omega) (by omega)
  generalize dv ((y - x) * (32 * (num - den) - i * den)) den = z at *
  unfold rat at *
  go_enter Tryd.func43, Tryd.ntmps43
  go_wp2_with (fail)
  refine (hio _).mono ?_
  rintro r1 w1 ⟨rfl, hb1⟩
  have HT1 : Bx (StepTab w1) := Bx.mk (StepTab.below (HT.out.alloc _) hb1)
  have HB : Bx (Below w.heap.size w w1) := Bx.mk (Below.trans (by repeat' (first | (with_reducible exact Below.refl _ _) | (with_reducible assumption) | (with_reducible refine Below.drew ?_) | (with_reducible refine Below.alloc ?_ ?_ _) | (with_reducible refine below_draws ?_ _) | (with_reducible refine Below.setCell ?_ ?_ _) | go_size)) (hb1.mono (by go_size)))
  clear hb1
  go_wp2_with (fail)
  rw [HI.out]
  have QP := PairAt.new w1 num den
  have HB2 : Bx (Below w.heap.size w (w1.alloc (.cells #[.int .i64 num, .int .i64 den] 67))) := Bx.mk (HB.out.alloc HB.out.size _)
  have c0 := TC _ (HT1.out.alloc (.cells #[.int .i64 num, .int .i64 den] 67))
  have c1 := TD _ (HT1.out.alloc (.cells #[.int .i64 num, .int .i64 den] 67))
  generalize w1.alloc (.cells #[.int .i64 num, .int .i64 den] 67) = W at QP HB2 c0 c1 ⊢
  generalize w1.heap.size = g at QP ⊢
  have d0 := QP.c0
  have d1 := QP.c1
  clear QP HB HT1 TC TD HT hio
  have E1 : IntKind.i64.wrap (120000 * kk) = 120000 * kk := IntWalk.i64_in _ (by omega)
  have E2 : IntKind.i64.wrap (120000 * kk + x) = 120000 * kk + x := IntWalk.i64_in _ (by omega)
  have E3 : IntKind.i64.wrap (y - x) = y - x := IntWalk.i64_in _ (by omega)
  have E6 : IntKind.i64.wrap ((i : Int) * den) = i * den := IntWalk.i64_in _ (by omega)
  have E7 : IntKind.i64.wrap (32 * (num - den) - i * den) = 32 * (num - den) - i * den := IntWalk.i64_in _ (by omega)
  have E8 : IntKind.i64.wrap ((y - x) * (32 * (num - den) - i * den)) = (y - x) * (32 * (num - den) - i * den) := IntWalk.i64_in _ (by omega)
  have E9 : IntKind.i64.wrap (120000 * kk + x + z) = 120000 * kk + x + z := IntWalk.i64_in _ (by omega)
  have E10 : IntKind.i64.wrap ((i : Int) + 1) = i + 1 := IntWalk.i64_in _ (by omega)
  have E11 : ((i : Int) + 1).toNat = i + 1 := by omega
  have E12 : (0 : Int) ≤ (i : Int) + 1 := by omega
  have E13 : (i : Int) + 1 < 33 := by omega
  have E14 : (i : Int) < 33 := by omega
  go_quiet (fail)
  go_wp2_with (fail)
  refine (HDIV _).mono ?_
  rintro e w' ⟨rfl, m, rfl⟩
  go_wp2_with (fail)
  go_ret
  exact ⟨ret_int HC2.out.symm, below_draws HB2.out _⟩
theorem two_open' {P : Program} {f : FuncId} {args : Array Value} {t : Int × Int} {W : World} (h : Calls P f args W (TwoOut t W)) : Calls P f args W fun e w' => e = .returned (.tuple #[.int .i64 t.1, .int .i64 t.2]) ∧ Below W.heap.size W w' := h
theorem octe_open' {P : Program} {f : FuncId} {args : Array Value} {t : (Int × Int) × Int × Int} {W : World} (h : Calls P f args W (OctEOut t W)) : Calls P f args W fun e w' => e = .returned (.tuple #[.agg #[.int .i64 t.1.1, .int .i64 t.1.2], .int .i64 t.2.1, .int .i64 t.2.2]) ∧ Below W.heap.size W w' := h
theorem steptab_of {W : World} {l : List (String × DataW Unit)} {ps : List MemPlace} (h : DataW.LaidVars Tryd.prog W l ps) (hm : ("loop.example/g01033/impl.centsOfSteps", Rows.laid_loop_example_g01033_impl_centsOfSteps) ∈ l) : StepTab W := by
  have e : Rows.laid_loop_example_g01033_impl_centsOfSteps = Lib.tabData (H := Unit) .i64 tabL := by kernel_rfl
  rw [e] at hm
  have hg : Tryd.prog.globalNamed "loop.example/g01033/impl.centsOfSteps" = some 0 := by kernel_rfl
  have ht := tab_get h hm hg (show (Tryd.prog.globals[0]?).map (·.type) = some 96 by kernel_rfl) Tryd.underlying96 Tryd.underlying2 (by kernel_rfl) (by kernel_rfl)
  unfold Lib.TabIs at ht
  refine ⟨?_, fun i hi => ?_⟩
  · unfold World.var? at ht
    rw [hg] at ht
    simp only [Option.bind_some] at ht
    rcases Nat.lt_or_ge 0 W.heap.size with hl | hl
    · exact hl
    · rw [Array.getElem?_eq_none hl] at ht; cases ht
  · rw [World.var?_cell hg ht i]
    have hk : i < tabL.length := by show i < 33; omega
    simp [tabZ, hk]
end Go.Proofs.YtbnhcacjlkmfeaaDoor
