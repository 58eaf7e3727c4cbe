/- FrequentPhrase: the best of the parts. -/
import Derived.Test.YtpbgjlmcafmejaaFq2
namespace Go.Proofs.Ytpbgjlmcafmejaa
open Go.ChangeShapes Go.WideShapes Go.ChangeAt Go.RowKit
set_option linter.unusedVariables false
set_option linter.unusedSimpArgs false
set_option maxRecDepth 100000

theorem lexB_irr : ∀ a : List Int, lexB a a = false
  | [] => rfl
  | x :: r => by unfold lexB; rw [if_pos rfl]; exact lexB_irr r
theorem lexB_tri : ∀ a b : List Int, a.length = b.length → lexB a b = false → lexB b a = false → a = b
  | [], [], _, _, _ => rfl
  | [], _ :: _, h, _, _ => by simp at h
  | _ :: _, [], h, _, _ => by simp at h
  | x :: a, y :: b, h, h1, h2 => by
    unfold lexB at h1 h2
    by_cases e : x = y
    · subst e
      rw [if_pos rfl] at h1 h2
      rw [lexB_tri a b (by simpa using h) h1 h2]
    · rw [if_neg e] at h1
      rw [if_neg (fun h => e h.symm)] at h2
      have := of_decide_eq_false h1
      have := of_decide_eq_false h2
      omega
theorem lexB_trans : ∀ a b c : List Int, a.length = b.length → b.length = c.length → lexB a b = true → lexB b c = true → lexB a c = true
  | [], [], _, _, _, h, _ => by cases h
  | [], _ :: _, _, h, _, _, _ => by simp at h
  | _ :: _, [], _, h, _, _, _ => by simp at h
  | _ :: _, _ :: _, [], _, h, _, _ => by simp at h
  | x :: a, y :: b, z :: c, h, h', h1, h2 => by
    unfold lexB at h1 h2 ⊢
    by_cases e : x = y
    · subst e
      rw [if_pos rfl] at h1
      by_cases e2 : x = z
      · rw [if_pos e2] at h2 ⊢
        exact lexB_trans a b c (by simpa using h) (by simpa using h') h1 h2
      · rw [if_neg e2] at h2 ⊢
        exact h2
    · rw [if_neg e] at h1
      have h3 := of_decide_eq_true h1
      by_cases e2 : y = z
      · subst e2
        rw [if_neg e]
        exact h1
      · rw [if_neg e2] at h2
        have h4 := of_decide_eq_true h2
        rw [if_neg (by omega)]
        exact decide_eq_true (by omega)
theorem lexC_pos : ∀ a b : List Int, a.length = b.length → decide (0 < lexC a b) = lexB b a
  | [], [], _ => rfl
  | [], _ :: _, h => by simp at h
  | _ :: _, [], h => by simp at h
  | x :: a, y :: b, h => by
    unfold lexC lexB
    by_cases e : x = y
    · subst e
      rw [if_pos ((cmp_zero x x).2 rfl), if_pos rfl]
      exact lexC_pos a b (by simpa using h)
    · rw [if_neg (fun h => e ((cmp_zero x y).1 h)), if_neg (fun h => e h.symm)]
      unfold cmpI
      repeat' split
      all_goals first | (simp; omega) | omega | (simp_all; done)
theorem lexB_pad : ∀ (a b : List Int) (r : List Int), a.length = b.length → lexB (a ++ r) (b ++ r) = lexB a b
  | [], [], r, _ => lexB_irr r
  | [], _ :: _, _, h => by simp at h
  | _ :: _, [], _, h => by simp at h
  | x :: a, y :: b, r, h => by
    show (if x = y then lexB (a ++ r) (b ++ r) else decide (x < y)) = (if x = y then lexB a b else decide (x < y))
    rw [lexB_pad a b r (by simpa using h)]
/-- S is the best of the parts that A tells -/
def Best (t : List Int) (m : Nat) (A : Nat → Prop) (S : List Int × Nat) : Prop :=
  (∃ i, A i ∧ S.1 = prt t m i ∧ S.2 = cntP (prt t m i) t) ∧ ∀ i, A i → cntP (prt t m i) t < S.2 ∨ (cntP (prt t m i) t = S.2 ∧ lexB (prt t m i) S.1 = false)
theorem best_uniq {t : List Int} {m : Nat} {A : Nat → Prop} (hA : ∀ i, A i → i + m ≤ t.length) {S T : List Int × Nat} (h1 : Best t m A S) (h2 : Best t m A T) : S = T := by
  obtain ⟨⟨i, ai, si, ci⟩, hs⟩ := h1
  obtain ⟨⟨j, aj, sj, cj⟩, ht⟩ := h2
  obtain ⟨S1, S2⟩ := S
  obtain ⟨T1, T2⟩ := T
  dsimp only at *
  have e1 := hs j aj
  have e2 := ht i ai
  have e : S2 = T2 := by omega
  subst e
  have l1 : lexB T1 S1 = false := by rw [sj]; rcases e1 with h | h; · omega
                                     · exact h.2
  have l2 : lexB S1 T1 = false := by rw [si]; rcases e2 with h | h; · omega
                                     · exact h.2
  rw [lexB_tri S1 T1 (by rw [si, sj, prt_len (hA i ai), prt_len (hA j aj)]) l2 l1]
theorem fqF_best (t : List Int) (m : Nat) (hm : 0 < m) : ∀ n, n + m ≤ t.length → Best t m (· < n + 1) (fqF t m (n + 1))
  | 0, h => by
    have e : fqF t m 1 = fqStep t ([], 0) (prt t m 0) := rfl
    rw [e]
    unfold fqStep
    have hpos : 0 < cntP (prt t m 0) t ∨ cntP (prt t m 0) t = 0 := by omega
    split
    · refine ⟨⟨0, by omega, rfl, rfl⟩, fun i hi => ?_⟩
      obtain rfl : i = 0 := by omega
      exact .inr ⟨rfl, lexB_irr _⟩
    · rename_i hc
      exfalso
      apply hc
      left
      show 0 < cntP _ _
      unfold cntP
      have : 0 ∈ findN (prt t m 0) t t.length ∨ t.length = 0 := by
        rcases Nat.eq_zero_or_pos t.length with h0 | h0
        · exact .inr h0
        · exact .inl (findN_mem.2 ⟨h0, (occ_prt (prt_len h) h).2 rfl⟩)
      rcases this with h1 | h1
      · exact List.length_pos_of_mem h1
      · omega
  | n + 1, h => by
    obtain ⟨⟨i, ai, si, ci⟩, hs⟩ := fqF_best t m hm n (by omega)
    rw [fqF_succ]
    generalize fqF t m (n + 1) = S at *
    obtain ⟨S1, S2⟩ := S
    dsimp only at *
    unfold fqStep
    dsimp only
    have hl : ∀ j, j < n + 1 + 1 → (prt t m j).length = m := fun j hj => prt_len (by omega)
    split
    · rename_i hc
      refine ⟨⟨n + 1, by omega, rfl, rfl⟩, fun j hj => ?_⟩
      rcases Nat.lt_or_ge j (n + 1) with hj2 | hj2
      · rcases hs j hj2 with h1 | ⟨h1, h2⟩
        · rcases hc with h3 | ⟨h3, _⟩
          · left; dsimp only; omega
          · left; dsimp only; omega
        · rcases hc with h3 | ⟨h3, h4⟩
          · left; dsimp only; omega
          · right
            refine ⟨by dsimp only; omega, ?_⟩
            dsimp only
            cases hx : lexB (prt t m j) (prt t m (n + 1)) with
            | false => rfl
            | true =>
              have := lexB_trans _ _ _ (by rw [hl j hj, hl (n + 1) (by omega)]) (by rw [hl (n + 1) (by omega), si, hl i (by omega)]) hx h4
              rw [h2] at this; cases this
      · obtain rfl : j = n + 1 := by omega
        exact .inr ⟨rfl, lexB_irr _⟩
    · rename_i hc
      refine ⟨⟨i, by omega, si, ci⟩, fun j hj => ?_⟩
      rcases Nat.lt_or_ge j (n + 1) with hj2 | hj2
      · exact hs j hj2
      · obtain rfl : j = n + 1 := by omega
        dsimp only
        rcases Nat.lt_trichotomy (cntP (prt t m (n + 1)) t) S2 with h1 | h1 | h1
        · exact .inl h1
        · refine .inr ⟨h1, ?_⟩
          cases hx : lexB (prt t m (n + 1)) S1 with
          | false => rfl
          | true => exact absurd (.inr ⟨h1, hx⟩) hc
        · exact absurd (.inl h1) hc
end Go.Proofs.Ytpbgjlmcafmejaa
