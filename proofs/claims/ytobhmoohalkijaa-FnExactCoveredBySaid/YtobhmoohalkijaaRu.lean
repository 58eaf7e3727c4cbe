/- The program's rulesOf. -/
import Derived.Test.YtobhmoohalkijaaRmap2
import Derived.Test.YtobhmoohalkijaaRk
import Derived.Test.YtobhmoohalkijaaRImM
import Derived.Laws.CopyRow
import Derived.Deep.RegionWith
namespace Go.Proofs.Ytobhmoohalkijaa
open Go.ChangeShapes Go.WideShapes Go.ChangeAt Go.RowKit
set_option linter.unusedVariables false
set_option linter.unusedSimpArgs false
set_option maxRecDepth 100000

theorem BoxN.setRow {w : World} {g b : Nat} {xs : Array Value} {t : TypeId} (hg : b ≠ g) (h : BoxN w g xs t) (c : Array Value) : BoxN (w.setRow b c) g xs t := by
  unfold BoxN at h ⊢
  simp only [World.setRow, Array.getElem?_modify]
  rw [if_neg hg]; exact h
theorem grown_setRow {w : World} {g : Nat} {xs c : Array Value} {t : TypeId} (h : BoxN w g xs t) : w.grownBy (w.setRow g c) (some g) :=
  ⟨rfl, rfl, rfl, by simp [World.setRow], fun i _ hi => by
    simp only [World.setRow, Array.getElem?_modify]
    rw [if_neg (fun e => hi (by rw [e]))]⟩
/-- 'copy(pair[:], tones)' at two numbers, at the operation -/
theorem wpList_copy2 {w : World} {ops : Array Oper} {rest : List Oper} {o : Oper} {a : Act} {Q : Exit → Act → World → Prop}
    (hgd : o.guard = none) (d s : Operand) (hop : o.op = .call { callee := .builtin .copy, args := #[d, s], argTypes := #[27, 27] }) (g : Nat) (x y p q : Int) (b off c1 c2 : Nat) (t : TypeId)
    (hd : a.eval d = .slice (some ⟨g, 0, none⟩) 2 c1) (hs : a.eval s = .slice (some ⟨b, off, none⟩) 2 c2) (hg : BoxN w g #[.int .i64 x, .int .i64 y] t)
    (h0 : w.cell? ⟨b, off, none⟩ = some (.int .i64 p)) (h1 : w.cell? ⟨b, off + 1, none⟩ = some (.int .i64 q))
    (hK : ∀ w', BoxN w' g #[.int .i64 p, .int .i64 q] t → w.grownBy w' (some g) → wpList Try.prog ops Q rest (a.put o.dst (.int .i64 2)) w') :
    wpList Try.prog ops Q (o :: rest) a w := by
  refine wpList_plain hgd fun K' hK' => ?_
  have hrun := run_copy_row (P := Try.prog) w 27 27 o.type 2 g 0 2 c1 ⟨b, off, none⟩ 2 c2 #[.int .i64 x, .int .i64 y] t [.int .i64 p, .int .i64 q] Try.underlying27 (by kernel_rfl) hg rfl
    (fun j v hj => by
      rw [add_off]
      match j, hj with
      | 0, hj => simp at hj; subst hj; exact h0
      | 1, hj => simp at hj; subst hj; exact h1) (by simp) (fun v hv => by simp at hv; rcases hv with rfl | rfl <;> rfl)
  simp at hrun
  unfold Oper.wp
  simp only [execOp, hop, resolve, invoke, builtin]
  simp [hd, hs, hrun, Result.andThen]
  refine hK' _ _ (hK _ ?_ (grown_setRow hg))
  exact setRow_heap w g _ _ t _ hg
theorem PSet.setCell {w : World} {b n : Nat} {f : Int → Int → Bool} (h : PSet w b n f) {a : Addr} (ha : b ≠ a.block) (u : Value) : PSet (w.setCell a u) b n f := by
  obtain ⟨D, h1, h2⟩ := h
  exact ⟨D, h1.setCell ha u, h2⟩
theorem PSet.drew {w : World} {b n : Nat} {f : Int → Int → Bool} (h : PSet w b n f) : PSet w.drew b n f := h
def memP (L : List (List Int)) (p q : Int) : Bool := decide ([p, q] ∈ L)
theorem memP_step (L : List (List Int)) (k : Nat) (h : k < L.length) {a b : Int} (e : L.getD k [] = [a, b]) : (fun p q => if p = a ∧ q = b then true else memP (L.take k) p q) = memP (L.take (k + 1)) := by
  funext p q
  unfold memP
  rw [List.take_succ_eq_append_getElem h]
  have e2 : L[k] = [a, b] := by rw [← e, List.getD, List.getElem?_eq_getElem h]; rfl
  simp only [List.mem_append, List.mem_singleton, e2]
  by_cases hp : p = a ∧ q = b
  · simp [hp.1, hp.2]
  · simp [hp]
theorem memP0 (L : List (List Int)) : (fun _ _ => false) = memP (L.take 0) := by
  funext x y; simp [memP]
set_option maxHeartbeats 4000000 in
theorem impl_rules (v : Value) (R : Rg) (w : World) (h : RgAt w v R) (hm : Sm R) (hok : OkG R) :
    Calls Try.prog 85 #[v] w fun e w' => ∃ mb, e = .returned (.agg #[.int .u16 (maskN R.u R.u.length : Nat), .int .u16 (maskN R.d R.d.length : Nat), .map (some mb)]) ∧ PSet w' mb R.f.length (memP R.f) ∧ Below w.heap.size w w' := by
  obtain ⟨A, a, B, b, C, c, rfl, i1, i2, i3⟩ := rg_form h
  have HI := Bx.mk (And.intro i1 (And.intro i2 i3))
  have HOK := Bx.mk hok
  have hl8 : R.f.length ≤ 8 := (pairs_yes hok.f).1
  have hmm := @run_makeMap Try.prog
  clear h i1 i2 i3 hok
  go_enter Try.func85, Try.ntmps85
  go_wp2_with (fail)
  have X0 := ((BoxN.at w w.heap.size #[.string R.s, .slice A R.u.length a, .slice B R.d.length b, .int .i64 R.x, .int .i64 R.y, .slice C R.f.length c] 32 rfl).alloc (.cells #[.int .u16 0, .int .u16 0, .map none] 104)).alloc (.map #[] 0)
  have Z0 := (BoxN.at (w.alloc (.cells #[.string R.s, .slice A R.u.length a, .slice B R.d.length b, .int .i64 R.x, .int .i64 R.y, .slice C R.f.length c] 32)) (w.heap.size + 1) #[.int .u16 0, .int .u16 0, .map none] 104 (by simp)).alloc (.map #[] 0)
  have S0 := PSet.made ((w.alloc (.cells #[.string R.s, .slice A R.u.length a, .slice B R.d.length b, .int .i64 R.x, .int .i64 R.y, .slice C R.f.length c] 32)).alloc (.cells #[.int .u16 0, .int .u16 0, .map none] 104))
  have hb : Below w.heap.size w (((w.alloc (.cells #[.string R.s, .slice A R.u.length a, .slice B R.d.length b, .int .i64 R.x, .int .i64 R.y, .slice C R.f.length c] 32)).alloc (.cells #[.int .u16 0, .int .u16 0, .map none] 104)).alloc (.map #[] 0)) := (((Below.refl _ _).alloc (Nat.le_refl _) _).alloc (by simp) _).alloc (by simp; omega) _
  have hsz : ((w.alloc (.cells #[.string R.s, .slice A R.u.length a, .slice B R.d.length b, .int .i64 R.x, .int .i64 R.y, .slice C R.f.length c] 32)).alloc (.cells #[.int .u16 0, .int .u16 0, .map none] 104)).heap.size = w.heap.size + 1 + 1 := by simp
  rw [hsz] at S0
  go_loopw [11] (fun i wr => ∃ k : Nat, k ≤ R.f.length ∧ i = .int .i64 k ∧ Bx (PSet wr (w.heap.size + 1 + 1) k (memP (R.f.take k))) ∧ Bx (BoxN wr w.heap.size #[.string R.s, .slice A R.u.length a, .slice B R.d.length b, .int .i64 R.x, .int .i64 R.y, .slice C R.f.length c] 32) ∧ Bx (BoxN wr (w.heap.size + 1) #[.int .u16 0, .int .u16 0, .map none] 104) ∧ Bx (Below w.heap.size w wr)) (fun i _ => R.f.length - (intOf i).toNat)
  case atStart => exact ⟨0, Nat.zero_le _, rfl, Bx.mk (memP0 R.f ▸ S0), Bx.mk X0, Bx.mk Z0, Bx.mk hb⟩
  case round =>
    obtain ⟨k, hk, rfl, HS, HX, HZ, HB⟩ := hrel
    clear S0 X0 Z0 hb hsz
    by_cases hlt : k < R.f.length
    · obtain ⟨bo, oo, rfl, _, lb, hx⟩ := rows_at HI.out.2.2 (by omega)
      obtain ⟨A1, c1, h1, i1⟩ := hx k hlt
      obtain ⟨p, q, e1, hp, hq, _⟩ := pairs_at HOK.out.f k hlt
      have HM := Bx.mk (memP_step R.f k hlt e1)
      rw [e1] at h1 i1
      rcases i1 with ⟨h, _⟩ | ⟨bi, oi, ci, hv, li, hc⟩
      · simp at h
      injection hv with hA _ hC
      subst hA hC
      have h1 := (HB.out.cell (p := ⟨bo, oo + k, none⟩) lb).trans h1
      have h2 : wr.cell? ⟨bi, oi, none⟩ = some (.int .i64 p) := (HB.out.cell (p := ⟨bi, oi, none⟩) li).trans (hc 0 (by simp))
      have h3 : wr.cell? ⟨bi, oi + 1, none⟩ = some (.int .i64 q) := (HB.out.cell (p := ⟨bi, oi + 1, none⟩) li).trans (hc 1 (by simp))
      have li := Nat.lt_of_lt_of_le li HB.out.size
      have k1 : (0 : Int) ≤ (k : Int) := by omega
      have k2 : (k : Int) < (R.f.length : Int) := by omega
      have hl := HX.out.lt
      have hm2 := HS.out.lt
      simp only [List.length_cons, List.length_nil] at h1
      have HA := Bx.mk (BoxN.at wr wr.heap.size #[.int .i64 0, .int .i64 0] 124 rfl)
      have H2 := Bx.mk (And.intro h2 (And.intro h3 li))
      have HBA : Bx (Below wr.heap.size wr (wr.alloc (.cells #[.int .i64 0, .int .i64 0] 124))) := Bx.mk ((Below.refl _ _).alloc (Nat.le_refl _) _)
      clear hx hc e1 h2 h3
      have wfp : (Lit.int .i64 p).wf = true := WalkArith.wf_i64 (by omega)
      have wfq : (Lit.int .i64 q).wf = true := WalkArith.wf_i64 (by omega)
      have HWF := Bx.mk (And.intro wfp wfq)
      have HK8 : Bx (k < 8) := Bx.mk (by omega)
      clear wfp wfq hp hq
      go_wp2_with (first
        | (refine wpList_copy2 rfl _ _ rfl wr.heap.size 0 0 p q bi oi _ _ 124 rfl rfl HA.out ((HBA.out.cell (p := ⟨bi, oi, none⟩) H2.out.2.2).trans H2.out.1) ((HBA.out.cell (p := ⟨bi, oi + 1, none⟩) H2.out.2.2).trans H2.out.2.1) ?_; intro w8 hb8 hg8; have y0 := hb8.c (k := 0) rfl; have y1 := hb8.c (k := 1) rfl; have yl := hb8.lt; have HS8 := Bx.mk ((HS.out.below HBA.out).kept hg8 (by simp; omega)); have HX8 := Bx.mk ((HX.out.below HBA.out).grown hg8 (by simp; omega)); have HZ8 := Bx.mk ((HZ.out.below HBA.out).grown hg8 (by simp; omega)); have HB8 := Bx.mk ((HB.out.trans (HBA.out.mono HB.out.size)).grown hg8 (by have := HB.out.size; simp; omega) (fun k hk => by cases hk; exact HB.out.size)); clear hb8 hg8)
        | (at_mapUpdate; refine wpList_pset_true rfl _ _ _ rfl (w.heap.size + 1 + 1) k _ p q rfl rfl rfl HS8.out (by have := HK8.out; unfold maxLen; omega) HWF.out.1 HWF.out.2 ?_; intro w9 hs9 hg9))
      go_roundw
      case rel => exact ⟨k + 1, by omega, by go_num, Bx.mk (HM.out ▸ hs9), Bx.mk (HX8.out.grown hg9 (by simp; omega)), Bx.mk (HZ8.out.grown hg9 (by simp)), Bx.mk (HB8.out.grown hg9 HB8.out.size (fun k hk => by cases hk; omega))⟩
      case measure => simp [intOf]; omega
    · obtain rfl : k = R.f.length := by omega
      have HS : Bx (PSet wr (w.heap.size + 1 + 1) R.f.length (memP R.f)) := Bx.mk (by have := HS.out; rwa [List.take_length] at this)
      have x1 := HX.out.c (k := 1) rfl
      have x2 := HX.out.c (k := 2) rfl
      have xl := HX.out.lt
      have z0 := HZ.out.c (k := 0) rfl
      have z1 := HZ.out.c (k := 1) rfl
      have z2 := HZ.out.c (k := 2) rfl
      have zf0 := HZ.out.fr 0
      have zf1 := HZ.out.fr 1
      have zf2 := HZ.out.fr 2
      have zl := HZ.out.lt
      have q1 := fun W (hW : Below w.heap.size w W) => impl_mask _ R.u W (HI.out.1.below hW) (by have := (scale_yes HOK.out.u).1; omega) (fun k hk => scale_in HOK.out.u k hk) (Nat.le_trans hm.u (by decide))
      have q2 := fun W (hW : Below w.heap.size w W) => impl_mask _ R.d W (HI.out.2.1.below hW) (by have := (scale_yes HOK.out.d).1; omega) (fun k hk => scale_in HOK.out.d k hk) (Nat.le_trans hm.d (by decide))
      obtain ⟨mu, hmu⟩ : ∃ m, m = maskN R.u R.u.length := ⟨_, rfl⟩
      obtain ⟨md, hmd⟩ : ∃ m, m = maskN R.d R.d.length := ⟨_, rfl⟩
      rw [← hmu] at q1
      rw [← hmd] at q2
      have HMu := Bx.mk (And.intro hmu hmd)
      clear hmu hmd
      go_wp2_with (fail)
      go_region_with (first
        | (go_at_call 100; (with_reducible refine (q1 _ HB.out.drew).mono ?_); rintro r w8 ⟨rfl, rfl⟩)
        | (go_at_call 100; (with_reducible refine (q2 _ HB.out.drew).mono ?_); rintro r w8 ⟨rfl, rfl⟩))
      all_goals go_wp2_with (fail)
      all_goals
        have P : BoxN (((wr.setCell ⟨w.heap.size + 1, 0, none⟩ (.int .u16 (mu : Nat))).setCell ⟨w.heap.size + 1, 1, none⟩ (.int .u16 (md : Nat))).setCell ⟨w.heap.size + 1, 2, none⟩ (.map (some (w.heap.size + 1 + 1)))).drew (w.heap.size + 1) #[.int .u16 (mu : Nat), .int .u16 (md : Nat), .map (some (w.heap.size + 1 + 1))] 104 :=
          (((HZ.out.put 0 (.int .u16 (mu : Nat))).put 1 (.int .u16 (md : Nat))).put 2 (.map (some (w.heap.size + 1 + 1))))
        have p0 := P.c (k := 0) rfl
        have p1 := P.c (k := 1) rfl
        have p2 := P.c (k := 2) rfl
        refine bodyPost_ret (v := .agg #[.int .u16 (mu : Nat), .int .u16 (md : Nat), .map (some (w.heap.size + 1 + 1))]) (by simp [results, Try.results85, go_sem, p0, p1, p2]) rfl ?_
        refine ⟨w.heap.size + 1 + 1, by rw [HMu.out.1, HMu.out.2], ?_, ?_⟩
        · exact (((HS.out.setCell (a := ⟨w.heap.size + 1, 0, none⟩) (by simp) _).setCell (a := ⟨w.heap.size + 1, 1, none⟩) (by simp) _).setCell (a := ⟨w.heap.size + 1, 2, none⟩) (by simp) _).drew
        · exact (((HB.out.setCell (p := ⟨w.heap.size + 1, 0, none⟩) (by simp) _).setCell (p := ⟨w.heap.size + 1, 1, none⟩) (by simp) _).setCell (p := ⟨w.heap.size + 1, 2, none⟩) (by simp) _).drew
end Go.Proofs.Ytobhmoohalkijaa
