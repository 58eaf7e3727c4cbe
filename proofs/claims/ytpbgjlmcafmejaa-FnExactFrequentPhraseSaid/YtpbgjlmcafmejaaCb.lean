/- One more of a part: 'counts[p]++' by its four operations. -/
import Derived.Test.YtpbgjlmcafmejaaCm
import Derived.WideKeyEntry
namespace Go.Proofs.Ytpbgjlmcafmejaa
open Go.ChangeShapes Go.WideShapes Go.ChangeAt Go.RowKit Go.ChangeMaps
set_option linter.unusedVariables false
set_option linter.unusedSimpArgs false
set_option maxRecDepth 100000

theorem lawQ : Go.WideMaps.KeyLaw Try.prog 129 := deep_law_laid laidQ (m := 2) (by omega) rowQ deepQ wideQ
theorem setBlock_two (w : World) (b : Nat) (x y : Obj) : setBlock (setBlock w b x) b y = setBlock w b y := by
  simp [setBlock]
theorem CMap.bump {w : World} {b n : Nat} {f : List Int → Int} (h : CMap w b n f) (l : List Int) (hl : Wfs l) (hn : n < maxLen) :
    ∃ (v0 : Value) (st : Nat) (w1 : World), (Instr.mapEntry 130 (.map (some b)) (pq l)).run Try.prog w = .ok (.tuple #[v0, goInt st]) w1 ∧ CMap w1 b (n + 1) f ∧ w.grownBy w1 (some b) ∧
      ∀ c, (Lit.int .i64 c).wf = true → ∃ w2, (Instr.entryStore 130 (.map (some b)) (goInt st) (.int .i64 c)).run Try.prog w1 = .ok () w2 ∧ CMap w2 b (n + 1) (fun m => if m = l then c else f m) ∧ w.grownBy w2 (some b) := by
  have hh := h
  obtain ⟨k, hk⟩ := key_part hl
  obtain ⟨D, ⟨es, clock, hb, F, hs, hD⟩, hf⟩ := h
  obtain ⟨v0, st, es1, clock1, hrun, _, hst⟩ := Go.WideElems.entry_then_store lawQ Try.underlying130 (fun u => zeroNum u) hb F hk
  have hlt := hh.lt
  have hb1 : (setBlock w b (.map es1 clock1)).heap[b]? = some (.map es1 clock1) := by
    simp [setBlock, hlt]
  refine ⟨v0, st, _, hrun, ?_, ?_, fun c hc => ?_⟩
  · rcases lawQ.find w hk es.toList F.keys with ⟨h1, h2⟩ | ⟨j, e0, h1, h2, h3⟩
    · have hr2 : (Instr.mapEntry 130 (.map (some b)) (pq l)).run Try.prog w = .ok (.tuple #[.int .i64 0, goInt clock]) (setBlock w b (.map (es.push ⟨pq l, .int .i64 0, clock⟩) (clock + 1))) := by
        simp [Instr.mapEntry, run_underlying Try.underlying130, MapKept.run_getObj_map hb, lawQ.check w false hk, h1, zeroNum, MapKept.run_setObj_map _ hb, Result.andThen, setBlock]
      have hu : (Instr.mapUpdate 130 (.map (some b)) (pq l) (.int .i64 0)).run Try.prog w = .ok () (setBlock w b (.map (es.push ⟨pq l, .int .i64 0, clock⟩) (clock + 1))) := by
        simp [Instr.mapUpdate, run_underlying Try.underlying130, MapKept.run_getObj_map hb, lawQ.check w false hk, h1, MapKept.run_setObj_map _ hb, Result.andThen, setBlock]
      have hlk : (Instr.lookup 130 (.map (some b)) (pq l) false).run Try.prog w = .ok (.int .i64 0) w := by
        simp [Instr.lookup, run_underlying Try.underlying130, MapKept.run_getObj_map hb, lawQ.check w _ hk, h1, zeroNum, Result.andThen]
      have hf0 : f l = 0 := by
        have := hh.look l hl
        rw [hlk] at this
        injection this with this _
        injection this with _ this
        exact this.symm
      rw [hrun] at hr2
      injection hr2 with _ hw
      obtain ⟨w', r1, r2, _⟩ := hh.store l 0 hl (by decide) hn
      rw [hu] at r1
      injection r1 with _ r1
      rw [hw, r1]
      have e : (fun m => if m = l then (0 : Int) else f m) = f := by
        funext m
        by_cases hm : m = l
        · rw [if_pos hm, hm, hf0]
        · rw [if_neg hm]
      rw [e] at r2
      exact r2
    · have hj : es[j]? = some e0 := by simpa using h2
      have hr2 : (Instr.mapEntry 130 (.map (some b)) (pq l)).run Try.prog w = .ok (.tuple #[e0.val, goInt e0.born]) (setBlock w b (.map es clock)) := by
        have hsame : es.modify j (fun e => { e with key := pq l }) = es := by
          apply Array.ext'
          rw [Array.toList_modify, List.modify_eq_set, h2]
          have : ({ e0 with key := pq l } : MapEntry) = e0 := by rw [← h3]
          simp only [Option.map_some, Option.getD_some]
          rw [this]
          exact Go.WideElems.set_self _ _ _ h2
        simp [Instr.mapEntry, run_underlying Try.underlying130, MapKept.run_getObj_map hb, lawQ.check w false hk, h1, hj, h3, lawQ.stays w hk, hsame, MapKept.run_setObj_map _ hb, Result.andThen, setBlock]
      rw [hrun] at hr2
      injection hr2 with _ hw
      rw [hw]
      refine CMap.mono (n := n) ⟨D, ⟨es, clock, by simp [setBlock, hlt], F, hs, hD⟩, hf⟩ (Nat.le_succ _)
  · exact ⟨rfl, rfl, rfl, by simp [setBlock], fun i hi hne => by
      have : b ≠ i := fun e => hne (by rw [e])
      simp [setBlock, Array.getElem?_setIfInBounds, this]⟩
  · obtain ⟨es', clock', hr, hu⟩ := hst _ (.int .i64 c) hb1
    obtain ⟨w', r1, r2, r3⟩ := hh.store l c hl hc hn
    rw [setBlock_two] at hr
    rw [hu] at r1
    injection r1 with _ r1
    subst r1
    exact ⟨_, hr, r2, r3⟩
end Go.Proofs.Ytpbgjlmcafmejaa
