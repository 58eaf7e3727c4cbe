/- The hours' law: what is known of the next start and of what fits. -/
import Derived.Test.YtidblpamolimpaaHx
import Derived.Test.YtidblpamolimpaaHi
import Derived.Test.YtidblpamolimpaaDn
namespace Go.Proofs.Ytidblpamolimpaa
open Go.ChangeShapes Go.WideShapes Go.ChangeAt Go.RowKit
set_option linter.unusedVariables false
set_option linter.unusedSimpArgs false
set_option maxRecDepth 100000

theorem win_start {x : It} (hx : OkI x) : winB x x.f = true := by
  obtain ⟨_, hf, hu, hne, _, _, _⟩ := hx
  unfold winB
  simp only [decide_eq_true_eq]
  omega
/-- where an item may begin next -/
structure NextOk (x : It) (mi se a : Int) : Prop where
  ok : OkI x
  bmi : 0 ≤ mi ∧ mi ≤ 1439
  bse : inB se 0 5 = true
  fits : fitsE x a se = true
  rng : 0 ≤ a ∧ a ≤ 1439
  what : a = mi ∨ winB x mi = false ∧ a = x.f
theorem next_cases (x : It) (mi se : Int) : (nextE x mi se).2 ≠ 0 ∨ ((nextE x mi se).2 = 0 ∧ NextOk x mi se (nextE x mi se).1) := by
  unfold nextE
  cases h1 : itB x
  · left; simp
  · cases h2 : inB mi 0 1439 && inB se 0 5
    · left; simp
    · cases h3 : seaB x se
      · left; simp
      · right
        rw [Bool.and_eq_true] at h2
        have hok := (itB_iff x).1 h1
        have hmi := inb5 h2.1
        have hf : 0 ≤ x.f ∧ x.f ≤ 1439 := hok.f
        cases h4 : winB x mi
        · simp only [Bool.true_eq_false, Bool.false_eq_true, if_false, true_and]
          exact ⟨hok, hmi, h2.2, by unfold fitsE fitB; rw [h1, h2.2, h3, win_start hok]; simp [inB]; omega, hf, .inr ⟨h4, rfl⟩⟩
        · simp only [Bool.true_eq_false, if_false, if_true, true_and]
          exact ⟨hok, hmi, h2.2, by unfold fitsE fitB; rw [h1, h2.1, h2.2, h3, h4]; rfl, hmi, .inl rfl⟩
theorem fit_cases (l : List It) (mi se : Int) : ((fitE l mi se).2 ≠ 0 ∧ (fitE l mi se).1 = []) ∨
    ((fitE l mi se).2 = 0 ∧ (fitE l mi se).1 = fitN (fun k => fitB (iat l k) se mi) l.length ∧ ∀ k, k < l.length → fitsE (iat l k) mi se = fitB (iat l k) se mi) := by
  unfold fitE
  cases h1 : okIts l
  · left; simp
  · cases h2 : inB mi 0 1439 && inB se 0 5
    · left; simp
    · right
      rw [Bool.and_eq_true] at h2
      simp only [Bool.true_eq_false, if_false, true_and]
      intro k hk
      unfold okIts allI at h1
      rw [Bool.and_eq_true, Bool.and_eq_true, List.all_eq_true] at h1
      have := h1.2.2 k (List.mem_range.2 hk)
      unfold fitsE
      rw [this, h2.1, h2.2]
      rfl
theorem late_no {x : It} {mi se a b : Int} (h : NextOk x mi se a) (hne : a ≠ mi) (hb : 0 ≤ b ∧ b < (a - mi + 1440) % 1440) : fitsE x ((mi + b) % 1440) se = false := by
  rcases h.what with h1 | ⟨h1, rfl⟩
  · exact absurd h1 hne
  · have := next_least h.ok h.bmi h1 hb
    unfold fitsE fitB
    rw [this]
    simp
theorem dr_sm {l : List It} (hl : l.length ≤ 13) (hd : ∀ x ∈ l, Dr x) : SmI l := ⟨by omega, fun k hk => by rw [iat_get hk]; exact (hd _ (List.getElem_mem hk)).wf⟩
end Go.Proofs.Ytidblpamolimpaa
