/- The notes of a melody and the times at which they begin: the program's iterator. -/
import Derived.RangeFuncNested
import Derived.RangeFuncBound
import Derived.RangeFuncCalls
import Derived.RangeFuncLeaves
import Derived.RangeFuncBox
import Derived.Shelf.Abstract
import Derived.Shelf.RegionOpen
import Derived.WalkKit
import Derived.OwnWalkIn
import Derived.TacticsInMore
import Derived.LoopNIn
import Derived.LoopIn
import Derived.Test.YtendfnimhmnioaaDoorNe3
import Derived.Test.YtendfnimhmnioaaDoorNi
import Derived.Test.YtendfnimhmnioaaDoorRg4
namespace Go.Proofs.YtendfnimhmnioaaDoor
open Go.ChangeShapes Go.WideShapes Go.ChangeAt Go.RowKit Go.Shelf
set_option linter.unusedVariables false
set_option linter.unusedSimpArgs false
set_option maxRecDepth 100000
attribute [local go_sem] Oper.semAt_some

/-- the first k notes, each with the time at which it begins -/
def sndK (l : List (Int × Int)) (k : Nat) : List (Int × Int × Int) := (List.range k).map fun i => (durN l i, pat l i)
theorem sndK_len (l : List (Int × Int)) (k : Nat) : (sndK l k).length = k := by simp [sndK]
theorem sndK_succ (l : List (Int × Int)) (k : Nat) : sndK l (k + 1) = sndK l k ++ [(durN l k, pat l k)] := by simp [sndK, List.range_succ]
theorem sndK_pre (l : List (Int × Int)) (k m : Nat) (h : k ≤ m) : sndK l k <+: sndK l m := by
  obtain ⟨d, rfl⟩ : ∃ d, m = k + d := ⟨m - k, by omega⟩
  unfold sndK
  rw [List.range_add, List.map_append]
  exact List.prefix_append _ _
/-- a note of a melody and the time at which it begins -/
def SndB (x : Int × Int × Int) : Prop := (0 ≤ x.1 ∧ x.1 ≤ 3072) ∧ (-12 ≤ x.2.1 ∧ x.2.1 ≤ 23) ∧ (1 ≤ x.2.2 ∧ x.2.2 ≤ 64)
abbrev Snd := { x : Int × Int × Int // SndB x }
def sv (ys : List Snd) : List (Int × Int × Int) := ys.map (·.1)
theorem sv_len (ys : List Snd) : (sv ys).length = ys.length := by simp [sv]
theorem sv_snoc (ys : List Snd) (x : Snd) : sv (ys ++ [x]) = sv ys ++ [x.1] := by simp [sv]
theorem snd_b {l : List (Int × Int)} (h : okM l = true) (k : Nat) (hk : k < l.length) : SndB (durN l k, pat l k) := by
  have h1 := durN_rng h k (by omega)
  have h2 := okM_at h k hk
  have h3 := (okM_yes h).1
  exact ⟨⟨by dsimp only; omega, by dsimp only; omega⟩, h2.1, h2.2⟩
/-- the blocks that a round may write besides new ones: a box, and the row that it holds -/
def XB (q : Option Nat) (A : World) (k : Nat) : Prop := match q with | none => False | some B => k = B ∨ ∃ v, A.cell? ⟨B, 0, none⟩ = some v ∧ v.ownBlock = some k
/-- what a round keeps -/
structure KpX (n₀ : Nat) (q : Option Nat) (A B : World) : Prop where
  below : Below n₀ A B
  kept : ∀ k o, A.heap[k]? = some o → o.isCells = true → ¬ XB q A k → B.heap[k]? = some o
  next : ∀ k, XB q B k → XB q A k ∨ A.heap.size ≤ k
  ok : (∀ k, XB q A k → k < A.heap.size) → ∀ k, XB q B k → k < B.heap.size
theorem kpX_r (n₀ : Nat) (q : Option Nat) (A : World) : KpX n₀ q A A := ⟨Below.refl _ _, fun _ _ h _ _ => h, fun _ h => .inl h, fun h => h⟩
theorem kpX_t {n₀ : Nat} {q : Option Nat} {A B C : World} (h : KpX n₀ q A B) (k : KpX n₀ q B C) : KpX n₀ q A C :=
  ⟨h.below.trans k.below, fun j o ho hc hx => k.kept j o (h.kept j o ho hc hx) hc (fun hb => (h.next j hb).elim hx (fun hs => by have := (Array.getElem?_eq_some_iff.1 ho).1; omega)),
    fun j hj => (k.next j hj).elim (h.next j) (fun hs => .inr (Nat.le_trans h.below.size hs)), fun ha => k.ok (h.ok ha)⟩
theorem xb_same {q : Option Nat} {A B : World} {k : Nat} (h : ∀ g, q = some g → B.heap[g]? = A.heap[g]?) : XB q B k ↔ XB q A k := by
  cases q with
  | none => exact Iff.rfl
  | some g =>
    have e : B.cell? ⟨g, 0, none⟩ = A.cell? ⟨g, 0, none⟩ := World.cell?_of_block (a := ⟨g, 0, none⟩) (h g rfl)
    unfold XB
    dsimp only
    rw [e]
theorem kpX_alloc {n₀ : Nat} {q : Option Nat} {A : World} (hn : n₀ ≤ A.heap.size) (hq : ∀ g, q = some g → g < A.heap.size) (o : Obj) : KpX n₀ q A (A.alloc o) := by
  have hb : Below A.heap.size A (A.alloc o) := (Below.refl _ _).alloc (Nat.le_refl _) _
  have hx : ∀ k, XB q (A.alloc o) k ↔ XB q A k := fun k => xb_same (fun g hg => hb.block g (hq g hg))
  exact ⟨hb.mono hn, fun k o' ho _ _ => (hb.block k (Array.getElem?_eq_some_iff.1 ho).1).trans ho, fun k h => .inl ((hx k).1 h), fun h k hk => by have := h k ((hx k).1 hk); simp; omega⟩
theorem kpX_b {n₀ : Nat} {q : Option Nat} {w : World} (hn : n₀ ≤ w.heap.size) (hq : ∀ g, q = some g → g < w.heap.size) (W : World) (l : Nat) (o o' : Obj) (hl : w.heap.size ≤ l) (h : W.heap[l]? = some o) (h1 : o.isCells = false) (h2 : o.isWalk = false) : KpX n₀ q W (W.putObj l o') := by
  have hlt := (Array.getElem?_eq_some_iff.1 h).1
  have hb : ∀ g, g < W.heap.size → g ≠ l → (W.putObj l o').heap[g]? = W.heap[g]? := fun g hg hne => (grownBy_putObj' W l o').block g hg (fun e => by injection e with e; exact hne e)
  have hx : ∀ k, XB q (W.putObj l o') k ↔ XB q W k := fun k => xb_same (fun g hg => by
    have := hq g hg
    exact hb g (by omega) (by omega))
  refine ⟨belowK_b hn W l o o' hl h h1 h2, fun k ob ho hc _ => ?_, fun k hk => .inl ((hx k).1 hk), fun hh k hk => ?_⟩
  · have hk := (Array.getElem?_eq_some_iff.1 ho).1
    rw [hb k hk (fun e => by subst e; rw [h] at ho; injection ho with ho; subst ho; rw [h1] at hc; cases hc)]
    exact ho
  · have := hh k ((hx k).1 hk)
    have hs := (grownBy_putObj' W l o').size
    omega
set_option maxRecDepth 100000 in
set_option maxHeartbeats 4000000 in
theorem sound_stops (n : Nat) (hn : 1 ≤ n) (q : Option Nat) (Bm : Nat) (A : Option Addr) (c : Nat) (l : List (Int × Int)) (w0 w : World) (hBm : Bm < w.heap.size) (hb0 : Below w0.heap.size w0 w) (hmc : w.cell? ⟨Bm, 0, none⟩ = some (.slice A l.length c)) (ha : PrsAt w0 (.slice A l.length c) l) (hok : okM l = true)
    (hqb : ∀ g, q = some g → g < w.heap.size) (hqo : ∀ k, XB q w k → k < w.heap.size) :
    SeqStopsK Fence.wide n Tryd.prog 69 #[.pointer (some ⟨Bm, 0, none⟩)] (fun x : Snd => #[.int .i64 x.1.1, nt x.1.2.1 x.1.2.2]) (KpX w0.heap.size q)
      (fun ys => sv ys = sndK l l.length) (fun pre => sv pre <+: sndK l l.length) l.length w := fun lp J Jx W hW hJ hJx hY h0 => by
  have hBW := hb0.trans (hW.mono hb0.size)
  have hmW := (hW.cell (p := ⟨Bm, 0, none⟩) hBm).trans hmc
  have hml : Bm < W.heap.size := Nat.lt_of_lt_of_le hBm hW.size
  have hqbW : ∀ g, q = some g → g < W.heap.size := fun g hg => Nat.lt_of_lt_of_le (hqb g hg) hW.size
  have hqoW : ∀ k, XB q W k → k < W.heap.size := fun k hk => Nat.lt_of_lt_of_le (hqo k ((xb_same (fun g hg => hW.block g (hqb g hg))).1 hk)) hW.size
  have hm48 := (okM_yes hok).1
  have HA := Bx.mk ha
  have HOK := Bx.mk hok
  have HBW := Bx.mk hBW
  have HQB := Bx.mk hqbW
  have HQO := Bx.mk hqoW
  have HJ : Bx (∀ pre A B, J pre A → Below A.heap.size A B → J pre B) := Bx.mk (fun pre A B h hb => hJ pre A B none h ⟨hb.os, hb.tape, hb.output, hb.size, fun b h _ => hb.block b h⟩ (fun r e => by cases e))
  clear hmc hW hb0 ha hBW hok hqb hqo hqbW hqoW
  refine callsIn_of_wp Tryd.func69 rfl trivial ?_ rfl
  simp only [Tryd.ntmps69, List.size_toArray, List.length_cons, List.length_nil, Nat.reduceAdd, Nat.reduceSub, Array.replicate_succ, Array.replicate_zero, List.push_toArray, List.append_toArray, List.nil_append, List.cons_append]
  gi_wp2
  gi_loopw [3, 8] (fun t i wr => ∃ (m : Nat) (pre : List Snd), m ≤ l.length ∧ i = .int .i64 m ∧ t = .int .i64 (durN l m) ∧ Bx (sv pre = sndK l m) ∧ J pre wr ∧ Bx (KpX w0.heap.size q W wr)) (fun _ i _ => l.length - (intOf i).toNat)
  case atStart => exact ⟨0, [], Nat.zero_le _, rfl, rfl, Bx.mk rfl, h0, Bx.mk (kpX_r _ _ _)⟩
  case round =>
    clear h0 hmW hml
    obtain ⟨m, pre, hmk, rfl, rfl, HS, hJs, hkp⟩ := hrel
    have HBR := Bx.mk (HBW.out.trans hkp.out.below)
    by_cases hlt : m < l.length
    · obtain ⟨b, o, rfl, lb, hx⟩ := prs_form HA.out (by omega)
      obtain ⟨c0, c1⟩ := hx m hlt
      have c0 := (HBR.out.cell (p := ⟨b, o + m * 2, none⟩) lb).trans c0
      have c1 := (HBR.out.cell (p := ⟨b, o + m * 2 + 1, none⟩) lb).trans c1
      have hbw : b < wr.heap.size := Nat.lt_of_lt_of_le lb HBR.out.size
      have HN := Bx.mk (sndK_succ l m)
      have HD : Bx (durN l (m + 1) = durN l m + (pat l m).2) := Bx.mk rfl
      have hr := durN_rng HOK.out (m + 1) hlt
      rw [HD.out] at hr
      have HPRE := Bx.mk (sndK_pre l (m + 1) l.length hlt)
      have hlw : pre.length < l.length := by rw [← sv_len, HS.out, sndK_len]; exact hlt
      have hsb := snd_b HOK.out m hlt
      have y0 : IntKind.i64.wrap (durN l m + (pat l m).2) = durN l m + (pat l m).2 := IntWalk.i64_in _ (by omega)
      clear hx
      have hqA : ∀ k, XB q wr k → k < wr.heap.size := hkp.out.ok HQO.out
      have hqG : ∀ g, q = some g → g < wr.heap.size := fun g hg => Nat.lt_of_lt_of_le (HQB.out g hg) hkp.out.below.size
      have hn0 : w0.heap.size ≤ wr.heap.size := HBR.out.size
      rw [← HS.out] at HN
      generalize pat l m = p at *
      obtain ⟨p1, p2⟩ := p
      generalize durN l m = t at *
      have HSX : Bx (sv (pre ++ [⟨(t, p1, p2), hsb⟩]) = sndK l (m + 1)) := Bx.mk (by rw [sv_snoc]; exact HN.out.symm)
      dsimp only at c0 c1 y0 hr
      have hBA : Below wr.heap.size wr (wr.alloc (.cells #[.int .i64 p1, .int .i64 p2] 45)) := (Below.refl _ _).alloc (Nat.le_refl _) _
      have hJa := HJ.out _ _ _ hJs hBA
      have hka := kpX_alloc (q := q) hn0 hqG (.cells #[.int .i64 p1, .int .i64 p2] 45)
      have HKA := Bx.mk (kpX_t hkp.out hka)
      have hnx : ¬ XB q (wr.alloc (.cells #[.int .i64 p1, .int .i64 p2] 45)) wr.heap.size := fun h => by
        have := hqA _ ((xb_same (fun g hg => hBA.block g (hqG g hg))).1 h)
        omega
      have HNX := Bx.mk hnx
      have hbox := heap_alloc_new wr (.cells #[.int .i64 p1, .int .i64 p2] 45)
      have HBOX := Bx.mk hbox
      have m1 : (0 : Int) ≤ (m : Int) := by omega
      have m2 : (m : Int) < (l.length : Int) := by omega
      have d1 : decide ((m : Int) < (l.length : Int)) = true := decide_eq_true m2
      clear hkp hBA hJs hka hnx hbox hqA hqG
      obtain ⟨fn, tmps, assign, body, hy, hR⟩ := hY _ ⟨(t, p1, p2), hsb⟩ _ hJa hlw
      unfold nt at hy
      dsimp only at hy
      gi_wp2
      refine hR.mono ?_
      rintro e W3 (⟨rfl, hJ3, hk3⟩ | ⟨rfl, hJx3⟩)
      · have hb3 := hk3.kept wr.heap.size _ HBOX.out rfl HNX.out
        have hc3 : W3.cell? ⟨wr.heap.size, 1, none⟩ = some (.int .i64 p2) := by simp [World.cell?, hb3]
        have hl3 : wr.heap.size < W3.heap.size := (Array.getElem?_eq_some_iff.1 hb3).1
        have HK3 := Bx.mk (kpX_t HKA.out hk3)
        clear hk3 hb3
        gi_wp2
        go_roundw
        case rel => exact ⟨m + 1, _, by omega, by simp, by rw [HD.out], HSX, hJ3, HK3⟩
        case measure => simp [intOf]; omega
      · gi_wp2
        refine bodyPost_ret (results_none rfl _ _ _) rfl ?_
        exact ⟨⟨_, rfl⟩, .inr ⟨_, by rw [HSX.out]; exact HPRE.out, hJx3⟩⟩
    · obtain rfl : m = l.length := by omega
      have d1 : decide ((l.length : Int) < (l.length : Int)) = false := decide_eq_false (by omega)
      gi_wp2
      go_end0
      exact ⟨⟨_, rfl⟩, .inl ⟨_, HS.out, hJs⟩⟩
end Go.Proofs.YtendfnimhmnioaaDoor
