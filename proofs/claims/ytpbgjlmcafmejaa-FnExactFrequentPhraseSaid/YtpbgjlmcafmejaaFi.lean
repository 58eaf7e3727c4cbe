/- FrequentPhrase, the program. -/
import Derived.Test.YtpbgjlmcafmejaaFc
import Derived.Deep.RegionHeld3
namespace Go.Proofs.Ytpbgjlmcafmejaa
open Go.ChangeShapes Go.WideShapes Go.ChangeAt Go.RowKit
set_option linter.unusedVariables false
set_option linter.unusedSimpArgs false
set_option maxRecDepth 100000

theorem ranges_below {k : TypeId} {R : Value → Option (DataW Unit × List MemPlace)} {b r n : Nat} {D : DataW Unit} {left : Lit → Bool} {cnt : Nat} {w w' : World} (h : w.ranges Try.prog k R b r n D left cnt) (hb : Below w.heap.size w w') : w'.ranges Try.prog k R b r n D left cnt :=
  h.kept (row := none) ⟨hb.os, hb.tape, hb.output, hb.size, fun k hk _ => hb.block k hk⟩ (by simp) (by simp)
theorem lit_same {a b : Lit} (h : a.sameKey b = true) : a = b := by
  apply Classical.byContradiction
  intro hn
  rw [Go.Maps.sameKey_ne hn] at h
  cases h
theorem lexB_pad' {p q : List Int} {m : Nat} (hp : p.length = m) (hq : q.length = m) : lexB (pad8 p m) (pad8 q m) = lexB p q := by
  unfold pad8
  exact lexB_pad p q _ (by rw [hp, hq])
/-- what the loop has found: S1 with the count n2 is the best of those that are not left -/
def Found (f : List Int → Int) (left : Lit → Bool) (S1 : List Int) (n2 : Int) : Prop :=
  Wfs S1 ∧ (0 ≤ n2 ∧ (n2 = 0 ∨ f S1 = n2)) ∧ ∀ l k, Wfs l → keyOf Try.prog 129 (pq l) = some k → 0 < f l → left k = false → (f l < n2 ∨ (f l = n2 ∧ lexB l S1 = false))
theorem left_cases {left : Lit → Bool} {l l2 : List Int} {kl k2 : Lit} (hk : keyOf Try.prog 129 (pq l) = some kl) (hk2 : keyOf Try.prog 129 (pq l2) = some k2) (h : (left k2 && !k2.sameKey kl) = false) : left k2 = false ∨ l2 = l := by
  cases hle : left k2 with
  | false => exact .inl rfl
  | true =>
    rw [hle] at h
    have := lit_same (a := k2) (b := kl) (by simpa using h)
    subst this
    exact .inr (pq_inj (keyedQ.inj hk2 hk))
theorem found_more {f : List Int → Int} {left : Lit → Bool} {S1 l : List Int} {n2 : Int} {kl : Lit} (h : Found f left S1 n2) (hl : Wfs l) (hk : keyOf Try.prog 129 (pq l) = some kl) (hf : 0 ≤ f l) (hc : n2 < f l ∨ (f l = n2 ∧ lexB l S1 = true)) :
    Found f (fun z => left z && !z.sameKey kl) l (f l) := by
  refine ⟨hl, ⟨hf, .inr rfl⟩, fun l2 k2 h2 hk2 hp hlf => ?_⟩
  rcases left_cases hk hk2 hlf with hle | rfl
  · have h3 := h.2.2 l2 k2 h2 hk2 hp hle
    rcases hc with h5 | ⟨h5, h6⟩
    · left; omega
    · rcases h3 with h3 | ⟨h3, h4⟩
      · left; omega
      · refine .inr ⟨by omega, ?_⟩
        cases hx : lexB l2 l with
        | false => rfl
        | true =>
          have := lexB_trans l2 l S1 (by rw [h2.1, hl.1]) (by rw [hl.1, h.1.1]) hx h6
          rw [h4] at this; cases this
  · exact .inr ⟨rfl, lexB_irr _⟩
theorem found_less {f : List Int → Int} {left : Lit → Bool} {S1 l : List Int} {n2 : Int} {kl : Lit} (h : Found f left S1 n2) (hk : keyOf Try.prog 129 (pq l) = some kl) (hc : f l < n2 ∨ (f l = n2 ∧ lexB l S1 = false)) :
    Found f (fun z => left z && !z.sameKey kl) S1 n2 := by
  refine ⟨h.1, h.2.1, fun l2 k2 h2 hk2 hp hlf => ?_⟩
  rcases left_cases hk hk2 hlf with hle | rfl
  · exact h.2.2 l2 k2 h2 hk2 hp hle
  · exact hc
theorem zero_wfs : Wfs [0, 0, 0, 0, 0, 0, 0, 0] := ⟨rfl, fun x hx => by simp at hx; subst hx; rfl⟩
theorem found_zero {f : List Int → Int} {D : DataW Unit} (hf : ∀ l k, keyOf Try.prog 129 (pq l) = some k → D.atKey k (.lit (.int .i64 0)) = .lit (.int .i64 (f l))) : Found f (Go.Maps.has D) [0, 0, 0, 0, 0, 0, 0, 0] 0 := by
  refine ⟨zero_wfs, ⟨Int.le_refl _, .inl rfl⟩, fun l k _ hk hp hl => ?_⟩
  exfalso
  have h1 := hf l k hk
  rw [Go.Maps.atKey_of_not_has hl] at h1
  simp only [DataW.lit.injEq, Lit.int.injEq, true_and] at h1
  omega
/-- at the end -/
theorem found_end {t : List Int} {m : Nat} {left : Lit → Bool} {S1 : List Int} {n2 : Int} (h : Found (cntU t m (t.length + 1 - m)) left S1 n2) (hall : ∀ k, left k = false) (hw : ∀ i, i < t.length + 1 - m → Wfs (padN t m i)) (h1 : 1 ≤ m) (h8 : m ≤ 8) (h2 : m ≤ t.length) :
    ∃ i, i < t.length + 1 - m ∧ S1 = padN t m i ∧ fqF t m (t.length + 1 - m) = (prt t m i, n2.toNat) ∧ 0 < n2 := by
  have hfp : ∀ j, j < t.length + 1 - m → cntU t m (t.length + 1 - m) (padN t m j) = (cntP (prt t m j) t : Nat) := fun j hj => by
    rw [padN_pad]; exact cntU_cntP (prt_len (by omega)) h1 h2
  have hB := fqF_best t m h1 (t.length - m) (by omega)
  rw [show t.length - m + 1 = t.length + 1 - m by omega] at hB
  obtain ⟨⟨i0, hi0, e1, e2⟩, hS⟩ := hB
  have hpos : ∀ j, j < t.length + 1 - m → 0 < cntP (prt t m j) t := fun j hj => by
    unfold cntP
    exact List.length_pos_of_mem (findN_mem.2 ⟨by omega, (occ_prt (prt_len (by omega)) (by omega)).2 rfl⟩)
  have hj0 : ∀ j, j < t.length + 1 - m → (cntU t m (t.length + 1 - m) (padN t m j) < n2 ∨ (cntU t m (t.length + 1 - m) (padN t m j) = n2 ∧ lexB (padN t m j) S1 = false)) := fun j hj => by
    obtain ⟨k, hk⟩ := key_part (hw j hj)
    exact h.2.2 _ k (hw j hj) hk (by rw [hfp j hj]; have := hpos j hj; omega) (hall k)
  have hn : 0 < n2 := by
    have := hj0 0 (by omega)
    rw [hfp 0 (by omega)] at this
    have := hpos 0 (by omega)
    omega
  have hfS : cntU t m (t.length + 1 - m) S1 = n2 := by
    rcases h.2.1.2 with hh | hh
    · omega
    · exact hh
  have hex : ∃ i, i < t.length + 1 - m ∧ S1 = padN t m i := by
    apply Classical.byContradiction
    intro hno
    have := cntU_zero (t := t) (m := m) (l := S1) (t.length + 1 - m) (fun i hi he => hno ⟨i, hi, he⟩)
    omega
  obtain ⟨i, hi, rfl⟩ := hex
  refine ⟨i, hi, rfl, ?_, hn⟩
  refine best_uniq (A := (· < t.length + 1 - m)) (fun j hj => by have : j < t.length + 1 - m := hj; omega) ⟨⟨i0, hi0, e1, e2⟩, hS⟩ ⟨⟨i, hi, rfl, ?_⟩, fun j hj => ?_⟩
  · dsimp only
    rw [hfp i hi] at hfS
    omega
  · dsimp only
    have h3 := hj0 j hj
    rw [hfp j hj] at h3
    rw [padN_pad, padN_pad, lexB_pad' (prt_len (by have : j < t.length + 1 - m := hj; omega)) (prt_len (by omega))] at h3
    rcases h3 with h3 | ⟨h3, h4⟩
    · left; omega
    · exact .inr ⟨by omega, h4⟩
end Go.Proofs.Ytpbgjlmcafmejaa
