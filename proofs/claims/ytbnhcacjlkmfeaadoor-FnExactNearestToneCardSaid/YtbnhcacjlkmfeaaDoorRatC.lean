/- The model's cents. -/
import Derived.Test.YtbnhcacjlkmfeaaDoorRatO
namespace Go.Proofs.YtbnhcacjlkmfeaaDoor
open Go.ChangeShapes Go.WideShapes Go.ChangeAt Go.RowKit
set_option linter.unusedVariables false
set_option linter.unusedSimpArgs false
set_option maxRecDepth 100000

theorem spec_table (w : World) : Calls Tryd.prog 89 #[] w fun e w' => e = .returned (.slice (some ⟨w.heap.size, 0, none⟩) 33 33) ∧ w' = w.alloc (.cells (tabL.map fun z => Value.int .i64 z).toArray 2) := by
  go_enter Tryd.func89, Tryd.ntmps89
  go_wp2
  go_ret
  exact ⟨rfl, rfl⟩
theorem tab_cell (w : World) (i : Nat) (h : i ≤ 32) : (w.alloc (.cells (tabL.map fun z => Value.int .i64 z).toArray 2)).cell? ⟨w.heap.size, i, none⟩ = some (.int .i64 (tabZ i)) := by
  have e := heap_alloc_new w (.cells (tabL.map fun z => Value.int .i64 z).toArray 2)
  have e2 : (tabL.map fun z => Value.int .i64 z).toArray[i]? = some (.int .i64 (tabZ i)) := by
    have : i < tabL.length := by show i < 33; omega
    simp [tabZ, this]
  show (match (w.alloc (.cells (tabL.map fun z => Value.int .i64 z).toArray 2)).heap[w.heap.size]? with | some (Obj.cells c _ _) => c[i]? | _ => none) = _
  rw [e]; exact e2
set_option maxHeartbeats 2000000 in
theorem spec_cents (g o : Nat) (n d : Int) (w : World) (a0 : w.cell? ⟨g, o, none⟩ = some (.int .i64 n)) (a1 : w.cell? ⟨g, o + 1, none⟩ = some (.int .i64 d))
    (hn : 1 ≤ n ∧ n ≤ 1000000) (hd : 1 ≤ d ∧ d ≤ 1000000) :
    Calls Tryd.prog 60 #[.pointer (some ⟨g, o, none⟩)] w fun r w' => r = .returned (.int .i64 (centsZ n d)) ∧ Below w.heap.size w w' := by
  have HO := fun W b0 b1 => spec_octave g o n d W b0 b1 hn hd
  have HP := octN_spec hn.1 hd.1
  have HC : Bx (centsZ n d = centP (octN n d).1 (octN n d).2.1 (octN n d).2.2) := Bx.mk rfl
  generalize octN n d = t at HO HP HC
  obtain ⟨num, den, kk⟩ := t
  obtain ⟨⟨p1, p2⟩, ⟨p3, p4⟩, p5, p6⟩ := octP_bd HP hn hd
  simp only at p1 p2 p3 p4 p5 p6
  obtain ⟨i, hi, i1, i2, i3⟩ := part_index p1 p3 p4
  obtain ⟨t1, t2, t3⟩ := tab_bd i i1
  have HI := Bx.mk hi
  have HC2 : Bx (centsZ n d = 120000 * kk + tabZ i + dv ((tabZ (i + 1) - tabZ i) * (32 * (num - den) - i * den)) den) := Bx.mk (by rw [HC.out]; simp only [centP]; rw [hi]; simp)
  clear hi HC HP
  have TC := fun W => tab_cell W i (by omega)
  have TD := fun W => tab_cell W (i + 1) (by omega)
  generalize tabZ i = x at *
  generalize tabZ (i + 1) = y at *
  have hm : 0 ≤ (y - x) * (32 * (num - den) - i * den) ∧ (y - x) * (32 * (num - den) - i * den) ≤ 120000 * 1000000 := ⟨Int.mul_nonneg (by omega) i2, Int.mul_le_mul (by omega) (by omega) i2 (by omega)⟩
  have hdv := dv_in ((y - x) * (32 * (num - den) - i * den)) den 120000000000 (by omega) (by omega) (by omega)
  have HDIV := fun W => l01div ((y - x) * (32 * (num - den) - i * den)) den W (by omega) (by omega) (by omega) (by omega) (by omega)
  generalize dv ((y - x) * (32 * (num - den) - i * den)) den = z at *
  go_enter Tryd.func60, Tryd.ntmps60
  go_wp2_with (fail)
  refine (HO _ (by go_simp) (by go_simp)).mono ?_
  rintro e w' ⟨rfl, k, rfl⟩
  go_wp2_with (fail)
  refine (spec_table _).mono ?_
  rintro e w' ⟨rfl, rfl⟩
  have c0 : ((w.drewN k).alloc (.cells (tabL.map fun z => Value.int .i64 z).toArray 2)).cell? ⟨w.heap.size, i, none⟩ = some (.int .i64 x) := TC (w.drewN k)
  have c1 : ((w.drewN k).alloc (.cells (tabL.map fun z => Value.int .i64 z).toArray 2)).cell? ⟨w.heap.size, i + 1, none⟩ = some (.int .i64 y) := TD (w.drewN k)
  have HB : Bx (Below w.heap.size w ((w.drewN k).alloc (.cells (tabL.map fun z => Value.int .i64 z).toArray 2))) := Bx.mk ((below_draws (Below.refl _ _) k).alloc (Nat.le_refl _) _)
  clear TC TD HO
  generalize (w.drewN k).alloc (.cells (tabL.map fun z => Value.int .i64 z).toArray 2) = W at c0 c1 HB ⊢
  go_wp2_with (fail)
  rw [HI.out]
  have E1 : IntKind.i64.wrap (120000 * kk) = 120000 * kk := IntWalk.i64_in _ (by omega)
  have E2 : IntKind.i64.wrap (120000 * kk + x) = 120000 * kk + x := IntWalk.i64_in _ (by omega)
  have E3 : IntKind.i64.wrap (y - x) = y - x := IntWalk.i64_in _ (by omega)
  have E4 : IntKind.i64.wrap (num - den) = num - den := IntWalk.i64_in _ (by omega)
  have E5 : IntKind.i64.wrap (32 * (num - den)) = 32 * (num - den) := IntWalk.i64_in _ (by omega)
  have E6 : IntKind.i64.wrap ((i : Int) * den) = i * den := IntWalk.i64_in _ (by omega)
  have E7 : IntKind.i64.wrap (32 * (num - den) - i * den) = 32 * (num - den) - i * den := IntWalk.i64_in _ (by omega)
  have E8 : IntKind.i64.wrap ((y - x) * (32 * (num - den) - i * den)) = (y - x) * (32 * (num - den) - i * den) := IntWalk.i64_in _ (by omega)
  have E9 : IntKind.i64.wrap (120000 * kk + x + z) = 120000 * kk + x + z := IntWalk.i64_in _ (by omega)
  have E10 : IntKind.i64.wrap ((i : Int) + 1) = i + 1 := IntWalk.i64_in _ (by omega)
  have E11 : ((i : Int) + 1).toNat = i + 1 := by omega
  have E12 : (0 : Int) ≤ (i : Int) + 1 := by omega
  have E13 : (i : Int) + 1 < 33 := by omega
  have E14 : (i : Int) < 33 := by omega
  go_quiet ((go_at_call 90; exact quiet_eq (HDIV _)))
  clear E1 E2 E3 E4 E5 E6 E7 E8 E9 E10 E11
  go_wp2_with (fail)
  go_ret
  exact ⟨ret_int HC2.out.symm, below_draws HB.out _⟩
end Go.Proofs.YtbnhcacjlkmfeaaDoor
