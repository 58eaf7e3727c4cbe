/- FrequentPhrase: counts in a map are counts of occurrences. -/
import Derived.Test.YtpbgjlmcafmejaaPp
namespace Go.Proofs.Ytpbgjlmcafmejaa
open Go.ChangeShapes Go.WideShapes Go.ChangeAt Go.RowKit
set_option linter.unusedVariables false
set_option linter.unusedSimpArgs false
set_option maxRecDepth 100000

/-- a phrase with noughts behind it -/
def pad8 (p : List Int) (m : Nat) : List Int := p ++ List.replicate (8 - m) 0
theorem padN_pad (t : List Int) (m k : Nat) : padN t m k = pad8 (prt t m k) m := rfl
theorem pad8_inj {p q : List Int} {m : Nat} (h : pad8 p m = pad8 q m) : p = q := List.append_cancel_right h
theorem prt_getD {t : List Int} {m i j : Nat} (hj : j < m) : (prt t m i).getD j 0 = t.getD (i + j) 0 := by
  unfold prt
  simp [List.getD, List.getElem?_take, hj, List.getElem?_drop]
theorem occ_prt {p t : List Int} {m i : Nat} (hp : p.length = m) (hi : i + m ≤ t.length) : occB p t i = true ↔ p = prt t m i := by
  rw [occ_iff]
  constructor
  · rintro ⟨_, h⟩
    apply List.ext_getElem (by rw [hp, prt_len hi])
    intro j h1 h2
    have h3 := h j h1
    rw [← prt_getD (t := t) (m := m) (i := i) (by omega)] at h3
    simpa [List.getD, h1, h2] using h3
  · rintro rfl
    rw [prt_len hi]
    exact ⟨hi, fun j hj => prt_getD hj⟩
theorem cntU_find {p t : List Int} {m : Nat} (hp : p.length = m) : ∀ n, n + m ≤ t.length + 1 → cntU t m n (pad8 p m) = ((findN p t n).length : Nat)
  | 0, _ => by simp [cntU, findN]
  | n + 1, h => by
    have ih := cntU_find (t := t) hp n (by omega)
    rw [findN_one]
    unfold cntU
    by_cases he : p = prt t m n
    · rw [if_pos ((occ_prt hp (by omega)).2 he), if_pos (by rw [padN_pad, ← he]), padN_pad, ← he, ih]
      simp
    · have h1 : ¬ occB p t n = true := fun h1 => he ((occ_prt hp (by omega)).1 h1)
      have h2 : ¬ pad8 p m = padN t m n := fun h2 => he (pad8_inj (by rw [padN_pad] at h2; exact h2))
      rw [if_neg h1, if_neg h2, ih]
/-- what the map says at a phrase is how often it stands there -/
theorem cntU_cntP {p t : List Int} {m : Nat} (hp : p.length = m) (h1 : 1 ≤ m) (h2 : m ≤ t.length) : cntU t m (t.length + 1 - m) (pad8 p m) = (cntP p t : Nat) := by
  rw [cntU_find hp _ (by omega)]
  unfold cntP
  rw [findN_all (by omega)]
  unfold findK
  rw [hp]
/-- what the map says is nought but at parts -/
theorem cntU_zero {t : List Int} {m : Nat} {l : List Int} : ∀ n, (∀ i, i < n → l ≠ padN t m i) → cntU t m n l = 0
  | 0, _ => rfl
  | n + 1, h => by
    unfold cntU
    rw [if_neg (h n (by omega))]
    exact cntU_zero n (fun i hi => h i (by omega))
end Go.Proofs.Ytpbgjlmcafmejaa
