/- Plain facts of tunings: the nearest pitch by counting. -/
import Derived.Test.YtbnhcacjlkmfeaaDoorTuM2
namespace Go.Proofs.YtbnhcacjlkmfeaaDoor
open Go.ChangeShapes Go.WideShapes Go.ChangeAt Go.RowKit
set_option linter.unusedVariables false
set_option linter.unusedSimpArgs false
set_option maxRecDepth 100000

/-- how many of the first are less -/
def cntF (f : Nat → Int) (n : Nat) (x : Int) : Nat := ((List.range n).map f).countP fun y => !decide (x ≤ y)
theorem cnt_succ (f : Nat → Int) (n : Nat) (x : Int) : cntF f (n + 1) x = cntF f n x + (if x ≤ f n then 0 else 1) := by
  unfold cntF
  rw [List.range_succ, List.map_append, List.countP_append]
  congr 1
  by_cases h : x ≤ f n
  · simp [h]
  · simp [h]
theorem cnt_is (f : Nat → Int) (x : Int) : ∀ n, (∀ i j, i ≤ j → j < n → f i ≤ f j) → cntF f n x ≤ n ∧ (∀ k, k < cntF f n x → f k < x) ∧ (∀ k, cntF f n x ≤ k → k < n → x ≤ f k)
  | 0, _ => ⟨by simp [cntF], fun k hk => by simp [cntF] at hk, fun k _ h => by omega⟩
  | n + 1, hm => by
    obtain ⟨h1, h2, h3⟩ := cnt_is f x n (fun i j hi hj => hm i j hi (by omega))
    rw [cnt_succ]
    by_cases h : x ≤ f n
    · rw [if_pos h, Nat.add_zero]
      refine ⟨by omega, h2, fun k hk hn => ?_⟩
      rcases Nat.lt_or_ge k n with h4 | h4
      · exact h3 k hk h4
      · rw [show k = n by omega]; exact h
    · rw [if_neg h]
      have hA : cntF f n x = n := by
        rcases Nat.lt_or_ge (cntF f n x) n with h4 | h4
        · have a := h3 _ (Nat.le_refl _) h4
          have b := hm (cntF f n x) n (by omega) (by omega)
          omega
        · omega
      rw [hA]
      refine ⟨by omega, fun k hk => ?_, fun k hk hn => by omega⟩
      have := hm k n (by omega) (by omega)
      omega
/-- the nearest of an ascending list, by its place -/
def nearV (f : Nat → Int) (c : Int) : Int := if cntF f 36 c < 36 ∧ f (cntF f 36 c) - c < c - f (cntF f 36 c - 1) then f (cntF f 36 c) else f (cntF f 36 c - 1)
theorem near_alg (f : Nat → Int) (c : Int) (hm : ∀ i j, i ≤ j → j < 36 → f i ≤ f j) :
    cntF f 36 (nearV f c) < 36 ∧ f (cntF f 36 (nearV f c)) = nearV f c ∧ (∀ j, j < 36 → max (c - nearV f c) (-(c - nearV f c)) ≤ max (c - f j) (-(c - f j))) ∧ (∀ j, j < cntF f 36 (nearV f c) → max (c - nearV f c) (-(c - nearV f c)) < max (c - f j) (-(c - f j))) := by
  obtain ⟨a1, a2, a3⟩ := cnt_is f c 36 hm
  have key : ∃ m, m < 36 ∧ nearV f c = f m ∧ (∀ j, j < 36 → max (c - f m) (-(c - f m)) ≤ max (c - f j) (-(c - f j))) ∧ (∀ j, j < 36 → f j < f m → max (c - f m) (-(c - f m)) < max (c - f j) (-(c - f j))) := by
    unfold nearV
    generalize cntF f 36 c = A at *
    split
    · rename_i h
      refine ⟨A, h.1, rfl, fun j hj => ?_, fun j hj hlt => ?_⟩
      · have b := a3 A (Nat.le_refl _) h.1
        rcases Nat.lt_or_ge j A with h4 | h4
        · have d := a2 j h4
          have e := hm j (A - 1) (by omega) (by omega)
          omega
        · have d := hm A j h4 hj
          omega
      · have b := a3 A (Nat.le_refl _) h.1
        rcases Nat.lt_or_ge j A with h4 | h4
        · have d := a2 j h4
          have e := hm j (A - 1) (by omega) (by omega)
          omega
        · have d := hm A j h4 hj
          omega
    · rename_i h
      refine ⟨A - 1, by omega, rfl, fun j hj => ?_, fun j hj hlt => ?_⟩
      · rcases Nat.eq_zero_or_pos A with h0 | h0
        · subst h0
          have b := a3 0 (Nat.le_refl _) (by omega)
          have d := hm 0 j (by omega) hj
          simp only [Nat.zero_sub]
          omega
        · have g := a2 (A - 1) (by omega)
          rcases Nat.lt_or_ge j A with h4 | h4
          · have e := hm j (A - 1) (by omega) (by omega)
            omega
          · have b := a3 A (Nat.le_refl _) (by omega)
            have d := hm A j h4 hj
            have : ¬ (f A - c < c - f (A - 1)) := fun e => h ⟨by omega, e⟩
            omega
      · rcases Nat.eq_zero_or_pos A with h0 | h0
        · subst h0
          have d := hm 0 j (by omega) hj
          simp only [Nat.zero_sub] at hlt
          omega
        · have g := a2 (A - 1) (by omega)
          rcases Nat.lt_or_ge j A with h4 | h4
          · have e := a2 j h4
            omega
          · have d := hm (A - 1) j (by omega) hj
            omega
  obtain ⟨m, k1, k2, k3, k4⟩ := key
  rw [k2]
  obtain ⟨b1, b2, b3⟩ := cnt_is f (f m) 36 hm
  have hP : cntF f 36 (f m) ≤ m := by
    rcases Nat.lt_or_ge m (cntF f 36 (f m)) with h | h
    · have := b2 m h; omega
    · exact h
  refine ⟨by omega, ?_, k3, fun j hj => k4 j (by omega) (b2 j hj)⟩
  have x := b3 _ (Nat.le_refl _) (by omega)
  have y := hm _ m hP k1
  omega
theorem near_is (l : List (Int × Int)) (c : Int) (f : Nat → Int) (hf : ∀ k : Nat, f k = centsT l (-12 + (k : Int))) (hm : ∀ i j, i ≤ j → j < 36 → f i ≤ f j) :
    nearT l c 35 = (-12 + (cntF f 36 (nearV f c) : Int), c - nearV f c) := by
  obtain ⟨h1, h2, h3, h4⟩ := near_alg f c hm
  refine nearP_one (nearT_is l c 35) ⟨?_, ?_, ?_, ?_, ?_⟩
  · simp only
    rw [← hf, h2]
  · simp only; omega
  · simp only; omega
  · intro j hj
    have := h3 j (by omega)
    rw [hf] at this
    exact this
  · intro j hj
    simp only at hj
    have := h4 j (by omega)
    rw [hf] at this
    exact this
theorem ladder_mono {s : List UInt8} {l : List (Int × Int)} (ht : tunB s l = true) (i j : Nat) (h : i ≤ j) : centsT l (-12 + (i : Int)) ≤ centsT l (-12 + (j : Int)) := by
  have := centsT_mono ht (-12 + (i : Int)) (j - i)
  rwa [show -12 + (i : Int) + ((j - i : Nat) : Int) = -12 + (j : Int) by omega] at this
end Go.Proofs.YtbnhcacjlkmfeaaDoor
