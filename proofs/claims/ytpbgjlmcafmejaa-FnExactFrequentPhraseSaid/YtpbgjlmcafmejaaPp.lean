/- partsOf. -/
import Derived.Test.YtpbgjlmcafmejaaCb
import Derived.Test.YtpbgjlmcafmejaaFq1
import Derived.Test.YtpbgjlmcafmejaaAr
import Derived.Laws.CopyRow
import Derived.Deep.RegionLaw
namespace Go.Proofs.Ytpbgjlmcafmejaa
open Go.ChangeShapes Go.WideShapes Go.ChangeAt Go.RowKit
set_option linter.unusedVariables false
set_option linter.unusedSimpArgs false
set_option maxRecDepth 100000

/-- a part with noughts behind it -/
def padN (t : List Int) (m k : Nat) : List Int := prt t m k ++ List.replicate (8 - m) 0
theorem padN_len {t : List Int} {m k : Nat} (h : k + m ≤ t.length) (hm : m ≤ 8) : (padN t m k).length = 8 := by simp [padN, prt_len h]; omega
def zero8 : List Value := [.int .i64 0, .int .i64 0, .int .i64 0, .int .i64 0, .int .i64 0, .int .i64 0, .int .i64 0, .int .i64 0]
theorem zero8_rep : zero8 = List.replicate 8 (.int .i64 0) := rfl
/-- how often l stands among the first n parts -/
def cntU (t : List Int) (m : Nat) : Nat → List Int → Int
  | 0, _ => 0
  | n + 1, l => if l = padN t m n then cntU t m n (padN t m n) + 1 else cntU t m n l
theorem cntU_le (t : List Int) (m : Nat) : ∀ n l, 0 ≤ cntU t m n l ∧ cntU t m n l ≤ n
  | 0, l => by simp [cntU]
  | n + 1, l => by
    unfold cntU
    split
    · have := cntU_le t m n (padN t m n); omega
    · have := cntU_le t m n l; omega
theorem cntU_step (t : List Int) (m n : Nat) : (fun l => if l = padN t m n then cntU t m n (padN t m n) + 1 else cntU t m n l) = cntU t m (n + 1) := by funext l; rfl
theorem grown_setRowA {w : World} {g : Nat} {xs : List Value} {c : Array Value} {t : TypeId} (h : ArrAt w g xs t) : w.grownBy (w.setRow g c) (some g) :=
  ⟨rfl, rfl, rfl, by simp [World.setRow], fun i _ hi => by
    simp only [World.setRow, Array.getElem?_modify]
    rw [if_neg (fun e => hi (by rw [e]))]⟩
/-- 'copy(p[:], part)', as a step of a region that draws its order -/
theorem step_copy8 {w : World} {ops : Array Oper} {o : Oper} {a : Act} {K : Act → World → Prop} {Q : Exit → Act → World → Prop} {E : Prop}
    (hgd : o.guard = none) (d s : Operand) (hop : o.op = .call { callee := .builtin .copy, args := #[d, s], argTypes := #[22, 22] }) (g b off m c1 c2 : Nat) (p : List Int) (t : TypeId)
    (hd : a.eval d = .slice (some ⟨g, 0, none⟩) 8 c1) (hs : a.eval s = .slice (some ⟨b, off, none⟩) m c2) (hg : ArrAt w g zero8 t) (hp : p.length = m) (hm : m ≤ 8)
    (hc : ∀ j, j < p.length → w.cell? ⟨b, off + j, none⟩ = some (.int .i64 (p.getD j 0)))
    (h : K (a.put o.dst (goInt m)) (w.setRow g (ints (p ++ List.replicate (8 - m) 0)).toArray)) :
    if Region.wanted o (yielded ops a.tmps) = true then Oper.wp Try.prog o a w K Q else E := by
  have hw : Region.wanted o (yielded ops a.tmps) = true := by simp [Region.wanted, hgd]
  rw [if_pos hw]
  have hil : (ints p).length = m := by simp [ints, hp]
  have hrun := run_copy_row (P := Try.prog) w 22 22 o.type 2 g 0 8 c1 ⟨b, off, none⟩ m c2 zero8.toArray t (ints p) Try.underlying22 (by kernel_rfl) hg (by rw [hil]; exact (Nat.min_eq_left hm).symm)
    (fun j v hj => by
      have hlt : j < p.length := by
        rcases Nat.lt_or_ge j p.length with h | h
        · exact h
        · rw [List.getElem?_eq_none (by simp [ints]; exact h)] at hj; cases hj
      have e : v = .int .i64 (p.getD j 0) := by
        simp [ints, hlt] at hj
        rw [← hj]; simp [List.getD, hlt]
      subst e
      have ea : (⟨b, off, none⟩ : Addr).add j = ⟨b, off + j, none⟩ := by simp [Addr.add]
      rw [ea]
      exact hc j hlt) (by rw [hil, zero8_rep]; simp; omega) (fun v hv => by simp [ints] at hv; obtain ⟨x, _, rfl⟩ := hv; rfl)
  have el : ([] ++ ints p ++ zero8.drop (0 + (ints p).length)) = ints (p ++ List.replicate (8 - m) 0) := by
    have hd8 : List.drop m (List.replicate 8 (Value.int .i64 0)) = List.replicate (8 - m) (Value.int .i64 0) := List.drop_replicate ..
    rw [hil, zero8_rep, Nat.zero_add, hd8]
    show [] ++ ints p ++ _ = ints (p ++ _)
    unfold ints
    rw [List.nil_append, List.map_append, List.map_replicate]
  rw [hil] at hrun
  have hz : zero8.toArray.toList.take 0 ++ ints p ++ zero8.toArray.toList.drop (0 + m) = ints (p ++ List.replicate (8 - m) 0) := by rw [← el, hil]; rfl
  rw [hz] at hrun
  unfold Oper.wp
  simp only [execOp, hop, resolve, invoke, builtin]
  simp only [List.map_toArray, List.map_cons, List.map_nil, hd, hs, Sem.run_bind, Sem.run_pure, Result.andThen_ok]
  rw [hrun]
  exact h
set_option maxHeartbeats 4000000 in
theorem impl_partsof (b off c m : Nat) (t : List Int) (w : World) (h : CellsAt w b off t) (hc : t.length ≤ c) (hl : t.length ≤ 64) (hm : m ≤ 8) (hm1 : 1 ≤ m) (hm2 : m ≤ t.length) (hr : ∀ j, j < t.length → -12 ≤ t.getD j 0 ∧ t.getD j 0 ≤ 23) :
    Calls Try.prog 106 #[.slice (some ⟨b, off, none⟩) t.length c, .int .i64 m] w fun e w' => ∃ g, e = .returned (.map (some g)) ∧ CMap w' g 65 (cntU t m (t.length + 1 - m)) ∧ w.heap.size ≤ g ∧ Below w.heap.size w w' := by
  have HC := Bx.mk h
  have HRg := Bx.mk hr
  clear h hr
  have y0 : IntKind.i64.wrap ((t.length : Int) - (m : Int) + 1) = ((t.length + 1 - m : Nat) : Int) := by rw [IntWalk.i64_in _ (by omega)]; omega
  have y1 : IntKind.i64.wrap ((t.length : Int) - (m : Int)) = ((t.length - m : Nat) : Int) := by rw [IntWalk.i64_in _ (by omega)]; omega
  have hmm := @run_makeMap Try.prog
  go_enter Try.func106, Try.ntmps106
  go_wp2_with (fail)
  clear y0 y1 hmm
  go_loopw [14] (fun i wr => ∃ (k : Nat), k ≤ t.length + 1 - m ∧ i = .int .i64 k ∧ Bx (CMap wr w.heap.size k (cntU t m k)) ∧ Bx (Below w.heap.size w wr)) (fun i _ => t.length + 1 - m - (intOf i).toNat)
  case atStart => exact ⟨0, Nat.zero_le _, rfl, Bx.mk (CMap.made w), Bx.mk ((Below.refl _ _).alloc (Nat.le_refl _) _)⟩
  case round =>
    obtain ⟨k, hk, rfl, HM, HW⟩ := hrel
    by_cases hlt : k < t.length + 1 - m
    · have k0 : (0 : Int) ≤ (k : Int) := by omega
      have k2 : (k : Int) < ((t.length - m : Nat) : Int) + 1 := by omega
      have d1 : decide ((k : Int) < ((t.length - m : Nat) : Int) + 1) = true := decide_eq_true k2
      have s2 : (k : Int) + (m : Int) ≤ (c : Int) := by omega
      have s3 : (k : Int) ≤ (k : Int) + (m : Int) := by omega
      have hT := CellsAt.below HC.out HW.out
      have hkm : k + m ≤ t.length := by omega
      have hP := Bx.mk (cells_sub hT hkm)
      have hpl : Bx ((prt t m k).length = m) := Bx.mk (prt_len hkm)
      have HA : Bx (ArrAt (wr.alloc (.cells #[.int .i64 0, .int .i64 0, .int .i64 0, .int .i64 0, .int .i64 0, .int .i64 0, .int .i64 0, .int .i64 0] 129)) wr.heap.size zero8 129) := Bx.mk (ArrAt.at wr wr.heap.size zero8 129 rfl)
      have bA : Below wr.heap.size wr (wr.alloc (.cells #[.int .i64 0, .int .i64 0, .int .i64 0, .int .i64 0, .int .i64 0, .int .i64 0, .int .i64 0, .int .i64 0] 129)) := (Below.refl _ _).alloc (Nat.le_refl _) _
      have HP2 := Bx.mk (hP.out.below bA)
      have HM2 := Bx.mk (HM.out.below bA)
      have HW2 := Bx.mk (HW.out.trans (bA.mono HW.out.size))
      have HG : Bx (w.heap.size < wr.heap.size) := Bx.mk HM.out.lt
      obtain ⟨x0, x1, x2, x3, x4, x5, x6, x7, hx⟩ := eight (padN_len (t := t) (m := m) (k := k) hkm hm)
      have HX := Bx.mk hx
      have HWf : Bx (Wfs [x0, x1, x2, x3, x4, x5, x6, x7]) := Bx.mk (by
        rw [← hx]
        refine ⟨padN_len hkm hm, fun x hx2 => ?_⟩
        have hb : -12 ≤ x ∧ x ≤ 23 := by
          unfold padN at hx2
          rcases List.mem_append.1 hx2 with h | h
          · obtain ⟨j, hj, rfl⟩ := List.mem_iff_getElem.1 (List.mem_of_mem_drop (List.mem_of_mem_take h))
            have := HRg.out j hj
            simpa [List.getD, hj] using this
          · obtain ⟨_, rfl⟩ := List.mem_replicate.1 h
            omega
        exact WalkArith.wf_i64 (by omega))
      clear hP HM HW bA hx
      go_wp2_with (fail)
      generalize wr.alloc (.cells #[.int .i64 0, .int .i64 0, .int .i64 0, .int .i64 0, .int .i64 0, .int .i64 0, .int .i64 0, .int .i64 0] 129) = w2 at *
      generalize wr.heap.size = g1 at *
      have yw : IntKind.i64.wrap ((k : Int) + (m : Int)) = (k : Int) + (m : Int) := IntWalk.i64_in _ (by omega)
      have s0 : (0 : Int) ≤ (k : Int) + (m : Int) := by omega
      have st : ((k : Int) + (m : Int)).toNat = k + m := by omega
      have sk : k ≤ k + m := by omega
      have hck : ¬ c = k := by omega
      go_region_law
        ((refine step_copy8 (by rfl) _ _ (by rfl) g1 b (off + k) m 8 (c - k) (prt t m k) 129 (by rfl) (by rfl) HA.out hpl.out hm HP2.out.2 ?_))
      have hA8 : ArrAt (w2.drew.setRow g1 (ints (prt t m k ++ List.replicate (8 - m) 0)).toArray) g1 (ints [x0, x1, x2, x3, x4, x5, x6, x7]) 129 := by
        have := setRow_at (w := w2.drew) HA.out (ints (prt t m k ++ List.replicate (8 - m) 0)).toArray
        rw [← HX.out]
        simpa [padN] using this
      have hgr : w2.drew.grownBy (w2.drew.setRow g1 (ints (prt t m k ++ List.replicate (8 - m) 0)).toArray) (some g1) := grown_setRowA (w := w2.drew) HA.out
      have HM8 := Bx.mk (CMap.kept (w := w2.drew) HM2.out hgr (by have := HG.out; simp; omega))
      have HW8 := Bx.mk (Below.grown (Below.drew HW2.out) hgr HW2.out.size (fun k hk => by cases hk; exact Nat.le_of_lt HG.out))
      clear hgr HP2 HM2 HW2 HA yw s0 st sk hck s2 s3
      generalize w2.drew.setRow g1 (ints (prt t m k ++ List.replicate (8 - m) 0)).toArray = w8 at *
      have y0 := hA8.cell 0
      have y1 := hA8.cell 1
      have y2 := hA8.cell 2
      have y3 := hA8.cell 3
      have y4 := hA8.cell 4
      have y5 := hA8.cell 5
      have y6 := hA8.cell 6
      have y7 := hA8.cell 7
      simp only [ints, List.map_cons, List.map_nil, List.getElem?_cons_zero, List.getElem?_cons_succ] at y0 y1 y2 y3 y4 y5 y6 y7
      have yl := hA8.lt
      obtain ⟨zl, zh⟩ := cntU_le t m k [x0, x1, x2, x3, x4, x5, x6, x7]
      have hl8 := CMap.look (w := w8.drew) HM8.out [x0, x1, x2, x3, x4, x5, x6, x7] HWf.out
      obtain ⟨v0, sn, w9, hme, hM9, hg9, hst⟩ := CMap.bump (w := w8.drew) HM8.out [x0, x1, x2, x3, x4, x5, x6, x7] HWf.out (by unfold maxLen; omega)
      have hl9 := hM9.look [x0, x1, x2, x3, x4, x5, x6, x7] HWf.out
      obtain ⟨w10, hes, hM10, hg10⟩ := hst (cntU t m k [x0, x1, x2, x3, x4, x5, x6, x7] + 1) (WalkArith.wf_i64 (by omega))
      rw [show (fun l => if l = [x0, x1, x2, x3, x4, x5, x6, x7] then cntU t m k [x0, x1, x2, x3, x4, x5, x6, x7] + 1 else cntU t m k l) = cntU t m (k + 1) from by rw [← HX.out]; exact cntU_step t m k] at hM10
      have HM10 := Bx.mk hM10
      have HW10 := Bx.mk (Below.grown (Below.drew HW8.out) hg10 HW8.out.size (fun k hk => by cases hk; exact Nat.le_refl _))
      generalize cntU t m k [x0, x1, x2, x3, x4, x5, x6, x7] = z at *
      have hl8' : (Instr.lookup 130 (.map (some w.heap.size)) (.agg #[.int .i64 x0, .int .i64 x1, .int .i64 x2, .int .i64 x3, .int .i64 x4, .int .i64 x5, .int .i64 x6, .int .i64 x7]) false).run Try.prog w8.drew = .ok (.int .i64 z) w8.drew := hl8
      have hl9' : (Instr.lookup 130 (.map (some w.heap.size)) (.agg #[.int .i64 x0, .int .i64 x1, .int .i64 x2, .int .i64 x3, .int .i64 x4, .int .i64 x5, .int .i64 x6, .int .i64 x7]) false).run Try.prog w9 = .ok (.int .i64 z) w9 := hl9
      have hme' : (Instr.mapEntry 130 (.map (some w.heap.size)) (.agg #[.int .i64 x0, .int .i64 x1, .int .i64 x2, .int .i64 x3, .int .i64 x4, .int .i64 x5, .int .i64 x6, .int .i64 x7])).run Try.prog w8.drew = .ok (.tuple #[v0, .int .i64 (sn : Int)]) w9 := hme
      have hes' : (Instr.entryStore 130 (.map (some w.heap.size)) (.int .i64 (sn : Int)) (.int .i64 (z + 1))).run Try.prog w9 = .ok () w10 := hes
      have yz : IntKind.i64.wrap (z + 1) = z + 1 := IntWalk.i64_in _ (by omega)
      clear hM10 hg10 hst hl8 hl9 hme hes hM9 hg9 hA8 HM8 HW8
      go_wp2_with (fail)
      go_region
      all_goals
        go_wp2_with (fail)
        go_roundw
        case rel => exact ⟨k + 1, by omega, by go_num, HM10, HW10⟩
        case measure => simp [intOf]; omega
    · obtain rfl : k = t.length + 1 - m := by omega
      have d1 : decide (((t.length + 1 - m : Nat) : Int) < ((t.length - m : Nat) : Int) + 1) = false := decide_eq_false (by omega)
      go_wp2_with (fail)
      go_returns
      exact ⟨_, rfl, HM.out.mono (by omega), Nat.le_refl _, HW.out⟩
end Go.Proofs.Ytpbgjlmcafmejaa
