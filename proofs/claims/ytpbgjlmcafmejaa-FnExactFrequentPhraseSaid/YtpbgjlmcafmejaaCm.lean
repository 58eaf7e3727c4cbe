/- Counts of parts: maps from [8]int64 to int64 that a call makes. -/
import Derived.Test.YtpbgjlmcafmejaaKit
import Derived.Maps.Own
import Derived.Maps.OwnSet
import Derived.Maps.Views
import Derived.Maps.RangeWalk
import Derived.DeepKeys4
namespace Go.Proofs.Ytpbgjlmcafmejaa
open Go.ChangeShapes Go.WideShapes Go.ChangeAt Go.RowKit
set_option linter.unusedVariables false
set_option linter.unusedSimpArgs false
set_option maxRecDepth 100000

/-- eight numbers as a value -/
def pq (l : List Int) : Value := .agg (l.map (Value.int .i64)).toArray
theorem deepQ : Try.prog.keyTypeAt 2 129 = true := by kernel_rfl
theorem wideQ : (match Try.prog.underlying 129 with | some (.array _ _) | some (.struct _) => true | _ => false) = true := by rw [Try.underlying129]
theorem rowQ : (129 : TypeId) < Try.prog.types.size := of_decide_eq_true (by kernel_rfl)
theorem laidQ : laidOutB Try.prog = true := by kernel_rfl
theorem keyedQ : Go.Maps.Keyed Try.prog 129 := Go.Maps.Keyed.of_law (deep_law_laid laidQ (m := 2) (by omega) rowQ deepQ wideQ)
theorem cellsQ : Try.prog.cellsOf 129 = 8 := by kernel_rfl
theorem cells64q : Try.prog.cellsOf 2 = 1 := by kernel_rfl
theorem ktQ : Try.prog.keyType 129 = true := by kernel_rfl
theorem zeroNum (w : World) : (zeroValue 2).run Try.prog w = .ok (.int .i64 0) w := by kernel_rfl
def Wfs (l : List Int) : Prop := l.length = 8 ∧ ∀ x ∈ l, (Lit.int .i64 x).wf = true
theorem eight {l : List Int} (h : l.length = 8) : ∃ a b c d e f g i, l = [a, b, c, d, e, f, g, i] := by
  match l, h with
  | [a, b, c, d, e, f, g, i], _ => exact ⟨a, b, c, d, e, f, g, i, rfl⟩
theorem key_part {l : List Int} (h : Wfs l) : ∃ k, keyOf Try.prog 129 (pq l) = some k := by
  obtain ⟨m, hm⟩ : ∃ m, Try.prog.types.size = m + 1 := ⟨Try.prog.types.size - 1, by have : 0 < Try.prog.types.size := of_decide_eq_true (by kernel_rfl); omega⟩
  obtain ⟨a, b, c, d, e, f, g, i, rfl⟩ := eight h.1
  have hw := h.2
  simp only [List.mem_cons, List.not_mem_nil, or_false, forall_eq_or_imp, forall_eq] at hw
  obtain ⟨w1, w2, w3, w4, w5, w6, w7, w8⟩ := hw
  refine ⟨.string (keyBytes [.int .i64 a, .int .i64 b, .int .i64 c, .int .i64 d, .int .i64 e, .int .i64 f, .int .i64 g, .int .i64 i]), ?_⟩
  unfold keyOf pq
  rw [Try.underlying129]
  have hf : (Value.agg (List.map (Value.int .i64) [a, b, c, d, e, f, g, i]).toArray).formed Try.prog 129 = true := by simp [Value.formed, Try.underlying129, cellsQ]
  simp only [ktQ, hf, Bool.and_self, if_true]
  rw [hm]
  simp [Program.keyLits, Try.underlying129, Try.underlying2, cellsQ, cells64q, Value.cells, w1, w2, w3, w4, w5, w6, w7, w8, List.range_succ]
theorem pq_inj {l m : List Int} (h : pq l = pq m) : l = m := by
  unfold pq at h
  injection h with h
  have h2 : l.map (Value.int .i64) = m.map (Value.int .i64) := by simpa using h
  have h3 := congrArg (List.map (fun v => match v with | Value.int _ x => x | _ => 0)) h2
  simpa [Function.comp_def] using h3
/-- block b is a map from parts to numbers of at most n entries, which says f l at l -/
def CMap (w : World) (b n : Nat) (f : List Int → Int) : Prop :=
  ∃ D : DataW Unit, w.ownsMap Try.prog 129 (plainElem Try.prog 2) b n D ∧ ∀ l k, keyOf Try.prog 129 (pq l) = some k → D.atKey k (.lit (.int .i64 0)) = .lit (.int .i64 (f l))
theorem CMap.lt {w : World} {b n : Nat} {f : List Int → Int} (h : CMap w b n f) : b < w.heap.size := by
  obtain ⟨D, h1, _⟩ := h
  exact h1.lt
theorem CMap.mono {w : World} {b n m : Nat} {f : List Int → Int} (h : CMap w b n f) (hn : n ≤ m) : CMap w b m f := by
  obtain ⟨D, h1, h2⟩ := h
  exact ⟨D, h1.mono hn, h2⟩
theorem CMap.kept {w w' : World} {b n : Nat} {f : List Int → Int} {row : Option Nat} (h : CMap w b n f) (hg : w.grownBy w' row) (hne : some b ≠ row) : CMap w' b n f := by
  obtain ⟨D, h1, h2⟩ := h
  exact ⟨D, h1.kept hg hne, h2⟩
theorem CMap.below {w w' : World} {b n : Nat} {f : List Int → Int} (h : CMap w b n f) (hb : Below w.heap.size w w') : CMap w' b n f := by
  obtain ⟨D, ⟨es, clock, h1, h2⟩, h3⟩ := h
  have hlt : b < w.heap.size := (Array.getElem?_eq_some_iff.1 h1).1
  exact ⟨D, ⟨es, clock, (hb.block b hlt).trans h1, h2⟩, h3⟩
theorem CMap.made (w : World) : CMap (w.alloc (.map #[] 0)) w.heap.size 0 (fun _ => 0) :=
  ⟨.map [], World.ownsMap_made _ _ _ _, fun l k _ => Go.Maps.atKey_of_not_has rfl _⟩
theorem CMap.look {w : World} {b n : Nat} {f : List Int → Int} (h : CMap w b n f) (l : List Int) (hl : Wfs l) :
    (Instr.lookup 130 (.map (some b)) (pq l) false).run Try.prog w = .ok (.int .i64 (f l)) w := by
  obtain ⟨D, h1, h2⟩ := h
  obtain ⟨k, hk⟩ := key_part hl
  obtain ⟨v, ps, hrun, hv⟩ := h1.lookup keyedQ Try.underlying130 (zeroNum _) (plainElem_int Try.underlying2 (by decide)) hk
  obtain ⟨c, rfl, e, _⟩ := plainElem_int_inv Try.underlying2 hv
  rw [hrun]
  rw [h2 l k hk] at e
  simp only [Prod.mk.injEq, DataW.lit.injEq, Lit.int.injEq, true_and] at e
  rw [e.1]
theorem CMap.store {w : World} {b n : Nat} {f : List Int → Int} (h : CMap w b n f) (l : List Int) (c : Int) (hl : Wfs l) (hc : (Lit.int .i64 c).wf = true) (hn : n < maxLen) :
    ∃ w', (Instr.mapUpdate 130 (.map (some b)) (pq l) (.int .i64 c)).run Try.prog w = .ok () w' ∧ CMap w' b (n + 1) (fun m => if m = l then c else f m) ∧ w.grownBy w' (some b) := by
  obtain ⟨D, h1, h2⟩ := h
  obtain ⟨k, hk⟩ := key_part hl
  obtain ⟨w', r1, r2, r3⟩ := h1.update keyedQ Try.underlying130 hn hk (plainElem_int Try.underlying2 hc)
  refine ⟨w', r1, ⟨_, r2, fun m k' hk' => ?_⟩, r3⟩
  by_cases he : k' = k
  · subst he
    obtain rfl := pq_inj (keyedQ.inj hk hk')
    rw [Go.Maps.atKey_put_same (h1.isMap) (keyedQ.key hk)]
    simp
  · rw [Go.Maps.atKey_put_other he, h2 m k' hk']
    have : ¬ m = l := by
      rintro rfl
      rw [hk] at hk'
      injection hk' with e
      exact he e.symm
    simp [this]
/-- 'm[l] = c', at the operation -/
theorem wpList_cmap_set {w : World} {ops : Array Oper} {rest : List Oper} {o : Oper} {a : Act} {Q : Exit → Act → World → Prop}
    (hg : o.guard = none) (m x v : Operand) (hop : o.op = Op.mapUpdate 130 m x v) (b n : Nat) (f : List Int → Int) (l : List Int) (c : Int)
    (hm : a.eval m = .map (some b)) (hx : a.eval x = pq l) (hv : a.eval v = .int .i64 c) (h : CMap w b n f) (hn : n < maxLen) (hl : Wfs l) (hc : (Lit.int .i64 c).wf = true)
    (hK : ∀ w', CMap w' b (n + 1) (fun m => if m = l then c else f m) → w.grownBy w' (some b) → wpList Try.prog ops Q rest (a.put o.dst undef) w') :
    wpList Try.prog ops Q (o :: rest) a w := by
  refine wpList_plain hg fun K' hK' => ?_
  obtain ⟨w', hrun, r1, r2⟩ := h.store l c hl hc hn
  unfold Oper.wp
  simp [execOp, hop, hm, hx, hv, hrun, Result.andThen]
  exact hK' _ _ (hK w' r1 r2)
theorem mapM_some {α β : Type} {f : α → Option β} : ∀ (l : List α) (r : List β), l.mapM f = some r → ∀ x ∈ l, ∃ y, f x = some y
  | [], _, _, x, hx => by cases hx
  | a :: l, r, h, x, hx => by
    rw [List.mapM_cons] at h
    cases ha : f a with
    | none => rw [ha] at h; cases h
    | some b =>
      cases hl : l.mapM f with
      | none => rw [ha, hl] at h; cases h
      | some q =>
        rcases List.mem_cons.1 hx with rfl | hx
        · exact ⟨b, ha⟩
        · exact mapM_some l q hl x hx
theorem lits64 {d : Nat} {c : Value} {r : List Lit} (h : Try.prog.keyLits d 2 [c] = some r) : ∃ x, c = .int .i64 x ∧ (Lit.int .i64 x).wf = true := by
  cases d with
  | zero => cases h
  | succ d =>
    unfold Program.keyLits at h
    rw [Try.underlying2] at h
    cases c <;> simp at h
    obtain ⟨⟨rfl, hw⟩, _⟩ := h
    exact ⟨_, rfl, hw⟩
/-- every key is eight numbers -/
theorem key_inv {key : Value} {k : Lit} (h : keyOf Try.prog 129 key = some k) : ∃ l, Wfs l ∧ key = pq l := by
  obtain ⟨m, hm⟩ : ∃ m, Try.prog.types.size = m + 1 := ⟨Try.prog.types.size - 1, by have : 0 < Try.prog.types.size := of_decide_eq_true (by kernel_rfl); omega⟩
  unfold keyOf at h
  rw [Try.underlying129] at h
  simp only [ktQ, Bool.true_and] at h
  split at h
  · rename_i hf
    cases key <;> simp [Value.formed, Try.underlying129, cellsQ] at hf
    rename_i cs
    cases hk : Try.prog.keyLits (Try.prog.types.size + 1) 129 (Value.agg cs).cells.toList with
    | none => rw [hk] at h; cases h
    | some ls =>
      unfold Program.keyLits at hk
      rw [Try.underlying129] at hk
      simp only [cellsQ, cells64q, Value.cells] at hk
      have hl8 : cs.toList.length = 8 := by simpa using hf
      rw [if_pos hl8] at hk
      cases hmm : (List.range 8).mapM (fun i => Try.prog.keyLits Try.prog.types.size 2 ((cs.toList.drop (i * 1)).take 1)) with
      | none => rw [hmm] at hk; cases hk
      | some q =>
        have hx : ∀ i, i < 8 → ∃ x, cs.toList[i]? = some (.int .i64 x) ∧ (Lit.int .i64 x).wf = true := fun i hi => by
          obtain ⟨y, hy⟩ := mapM_some _ _ hmm i (List.mem_range.2 hi)
          have e : (cs.toList.drop (i * 1)).take 1 = [cs.toList[i]'(by omega)] := by
            rw [Nat.mul_one, List.drop_eq_getElem_cons (by omega)]
            simp
          rw [e] at hy
          obtain ⟨x, hx, hw⟩ := lits64 hy
          exact ⟨x, by rw [List.getElem?_eq_getElem (by omega), hx], hw⟩
        refine ⟨cs.toList.map (fun v => match v with | Value.int _ x => x | _ => 0), ⟨by rw [List.length_map]; exact hl8, fun x hm2 => ?_⟩, ?_⟩
        · obtain ⟨v, hv, rfl⟩ := List.mem_map.1 hm2
          obtain ⟨i, hi, rfl⟩ := List.mem_iff_getElem.1 hv
          obtain ⟨x, h1, h2⟩ := hx i (by omega)
          rw [List.getElem?_eq_getElem hi] at h1
          injection h1 with h1
          rw [h1]; exact h2
        · unfold pq
          congr 1
          apply Array.toList_inj.1
          rw [List.map_map]
          refine List.ext_getElem? fun i => ?_
          rw [List.getElem?_map]
          rcases Nat.lt_or_ge i 8 with hi | hi
          · obtain ⟨x, h1, _⟩ := hx i hi
            rw [h1]; rfl
          · rw [List.getElem?_eq_none (by omega)]; rfl
  · cases h
end Go.Proofs.Ytpbgjlmcafmejaa
