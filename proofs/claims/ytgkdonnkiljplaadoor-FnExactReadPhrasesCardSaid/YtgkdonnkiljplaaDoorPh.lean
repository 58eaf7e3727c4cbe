/- Phrases: plain facts. Where a phrase stands, its borders, and the search that goes on with the border. -/
import Derived.Test.YtgkdonnkiljplaaDoorPits
namespace Go.Proofs.YtgkdonnkiljplaaDoor
open Go.ChangeShapes Go.WideShapes Go.ChangeAt Go.RowKit
set_option linter.unusedVariables false
set_option linter.unusedSimpArgs false
set_option maxRecDepth 100000

/-- a phrase: 2 to 8 pitches -/
def phB (zs : List Int) : Bool := pitB zs && decide (2 ≤ zs.length ∧ zs.length ≤ 8)
theorem ph_yes {zs : List Int} (h : phB zs = true) : pitB zs = true ∧ 2 ≤ zs.length ∧ zs.length ≤ 8 := by
  unfold phB at h
  simpa only [Bool.and_eq_true, decide_eq_true_eq] using h
/-- the first c of p are the last c of t's first k -/
structure Suf (p t : List Int) (k c : Nat) : Prop where
  le : c ≤ k
  at' : ∀ j, j < c → p.getD j 0 = t.getD (k - c + j) 0
theorem Suf.zero (p t : List Int) (k : Nat) : Suf p t k 0 := ⟨Nat.zero_le _, fun j h => absurd h (Nat.not_lt_zero _)⟩
theorem Suf.chain {p t : List Int} {k b c : Nat} (hb : Suf p t k b) (hc : Suf p t k c) (h : c ≤ b) : Suf p p b c := by
  refine ⟨h, fun j hj => ?_⟩
  have h0 := hb.le
  rw [hc.at' j hj, hb.at' (b - c + j) (by omega)]
  congr 1; omega
theorem Suf.comp {p t : List Int} {k b c : Nat} (hb : Suf p t k b) (hc : Suf p p b c) : Suf p t k c := by
  have h0 := hb.le
  have h1 := hc.le
  refine ⟨by omega, fun j hj => ?_⟩
  rw [hc.at' j hj, hb.at' (b - c + j) (by omega)]
  congr 1; omega
theorem Suf.one {p t : List Int} {k c : Nat} (h : Suf p t k c) (e : p.getD c 0 = t.getD k 0) : Suf p t (k + 1) (c + 1) := by
  have h0 := h.le
  refine ⟨by omega, fun j hj => ?_⟩
  by_cases hjc : j = c
  · subst hjc
    rw [e]; congr 1; omega
  · rw [h.at' j (by omega)]; congr 1; omega
theorem Suf.pre {p t : List Int} {k c : Nat} (h : Suf p t (k + 1) (c + 1)) : Suf p t k c ∧ p.getD c 0 = t.getD k 0 := by
  have h0 := h.le
  refine ⟨⟨by omega, fun j hj => ?_⟩, ?_⟩
  · rw [h.at' j (by omega)]; congr 1; omega
  · rw [h.at' c (by omega)]; congr 1; omega
/-- the border of the first i -/
structure Brd (p : List Int) (i b : Nat) : Prop where
  lt : b < i
  suf : Suf p p i b
  top : ∀ c, c < i → Suf p p i c → c ≤ b
theorem Brd.one (p : List Int) : Brd p 1 0 := ⟨by omega, Suf.zero _ _ _, fun c h _ => by omega⟩
theorem Brd.uniq {p : List Int} {i b c : Nat} (h : Brd p i b) (h' : Brd p i c) : b = c := by
  have := h.top c h'.lt h'.suf
  have := h'.top b h.lt h.suf
  omega
/-- what may still go on at k: the greatest one less than m -/
structure Cnd (p t : List Int) (m k b : Nat) : Prop where
  lt : b < m
  suf : Suf p t k b
  top : ∀ c, c < m → Suf p t k c → p.getD c 0 = t.getD k 0 → c ≤ b
theorem Cnd.down {p t : List Int} {m k b x : Nat} (h : Cnd p t m k b) (hb : Brd p b x) (hne : p.getD b 0 ≠ t.getD k 0) : Cnd p t m k x := by
  refine ⟨Nat.lt_trans hb.lt h.lt, h.suf.comp hb.suf, fun c hc hs he => ?_⟩
  have h1 := h.top c hc hs he
  have h2 : c ≠ b := fun e => hne (e ▸ he)
  exact hb.top c (by omega) (h.suf.chain hs h1)
theorem Cnd.hit {p t : List Int} {m k b : Nat} (h : Cnd p t m k b) (e : p.getD b 0 = t.getD k 0) : Suf p t (k + 1) (b + 1) ∧ ∀ c, c ≤ m → Suf p t (k + 1) c → c ≤ b + 1 := by
  refine ⟨h.suf.one e, fun c hc hs => ?_⟩
  cases c with
  | zero => omega
  | succ c =>
    have h1 := hs.pre
    have := h.top c (by omega) h1.1 h1.2
    omega
theorem Cnd.miss {p t : List Int} {m k : Nat} (h : Cnd p t m k 0) (hne : p.getD 0 0 ≠ t.getD k 0) : ∀ c, c ≤ m → Suf p t (k + 1) c → c = 0 := by
  intro c hc hs
  cases c with
  | zero => rfl
  | succ c =>
    have h1 := hs.pre
    have h2 := h.top c (by omega) h1.1 h1.2
    obtain rfl : c = 0 := by omega
    exact absurd h1.2 hne
theorem Brd.cnd {p : List Int} {k b : Nat} (h : Brd p k b) : Cnd p p k k b := ⟨h.lt, h.suf, fun c hc hs _ => h.top c hc hs⟩
theorem Cnd.brd {p : List Int} {k b : Nat} (h : Cnd p p k k b) (e : p.getD b 0 = p.getD k 0) : Brd p (k + 1) (b + 1) :=
  ⟨by have := h.lt; omega, (h.hit e).1, fun c hc hs => (h.hit e).2 c (by omega) hs⟩
theorem Cnd.brd0 {p : List Int} {k : Nat} (h : Cnd p p k k 0) (hne : p.getD 0 0 ≠ p.getD k 0) : Brd p (k + 1) 0 :=
  ⟨by omega, Suf.zero _ _ _, fun c hc hs => Nat.le_of_eq (h.miss hne c (by omega) hs)⟩
/-- the search behind k pitches -/
structure Std (p t : List Int) (k b : Nat) : Prop where
  lt : b < p.length
  suf : Suf p t k b
  top : ∀ c, c < p.length → Suf p t k c → c ≤ b
theorem Std.start {p t : List Int} (h : 0 < p.length) : Std p t 0 0 := ⟨h, Suf.zero _ _ _, fun c _ hs => hs.le⟩
theorem Std.cnd {p t : List Int} {k b : Nat} (h : Std p t k b) : Cnd p t p.length k b := ⟨h.lt, h.suf, fun c hc hs _ => h.top c hc hs⟩
theorem Cnd.std {p t : List Int} {k b : Nat} (h : Cnd p t p.length k b) (e : p.getD b 0 = t.getD k 0) (hl : b + 1 < p.length) : Std p t (k + 1) (b + 1) ∧ ¬ Suf p t (k + 1) p.length :=
  ⟨⟨hl, (h.hit e).1, fun c hc hs => (h.hit e).2 c (by omega) hs⟩, fun hs => by have := (h.hit e).2 _ (Nat.le_refl _) hs; omega⟩
theorem Cnd.full {p t : List Int} {k b x : Nat} (h : Cnd p t p.length k b) (e : p.getD b 0 = t.getD k 0) (hl : b + 1 = p.length) (hb : Brd p p.length x) : Std p t (k + 1) x ∧ Suf p t (k + 1) p.length := by
  have hf : Suf p t (k + 1) p.length := hl ▸ (h.hit e).1
  exact ⟨⟨hb.lt, hf.comp hb.suf, fun c hc hs => hb.top c hc (hf.chain hs (Nat.le_of_lt hc))⟩, hf⟩
theorem Cnd.std0 {p t : List Int} {k : Nat} (h : Cnd p t p.length k 0) (hne : p.getD 0 0 ≠ t.getD k 0) : Std p t (k + 1) 0 ∧ ¬ Suf p t (k + 1) p.length :=
  ⟨⟨h.lt, Suf.zero _ _ _, fun c hc hs => Nat.le_of_eq (h.miss hne c (Nat.le_of_lt hc) hs)⟩, fun hs => by have := h.miss hne _ (Nat.le_refl _) hs; have := h.lt; omega⟩
/-- the phrase stands at an index -/
def occB (p t : List Int) (i : Nat) : Bool := decide (i + p.length ≤ t.length) && (List.range p.length).all (fun j => p.getD j 0 == t.getD (i + j) 0)
theorem occ_iff (p t : List Int) (i : Nat) : occB p t i = true ↔ i + p.length ≤ t.length ∧ ∀ j, j < p.length → p.getD j 0 = t.getD (i + j) 0 := by
  unfold occB
  simp only [Bool.and_eq_true, decide_eq_true_eq, List.all_eq_true, List.mem_range, beq_iff_eq]
theorem occ_suf {p t : List Int} {i : Nat} (h : i + p.length ≤ t.length) : occB p t i = true ↔ Suf p t (i + p.length) p.length := by
  rw [occ_iff]
  constructor
  · rintro ⟨_, hh⟩
    exact ⟨by omega, fun j hj => by rw [hh j hj]; congr 1; omega⟩
  · intro hs
    exact ⟨h, fun j hj => by rw [hs.at' j hj]; congr 1; omega⟩
/-- where a phrase stands, up to k pitches -/
def findN (p t : List Int) (k : Nat) : List Nat := (List.range k).filter (occB p t)
def findK (p t : List Int) (k : Nat) : List Nat := findN p t (k + 1 - p.length)
theorem findK_zero {p t : List Int} (h : 0 < p.length) : findK p t 0 = [] := by
  unfold findK
  rw [show 0 + 1 - p.length = 0 by omega]; rfl
theorem findK_no {p t : List Int} {k : Nat} (hk : k < t.length) (h : ¬ Suf p t (k + 1) p.length) : findK p t (k + 1) = findK p t k := by
  unfold findK
  by_cases h1 : p.length ≤ k + 1
  · rw [show k + 1 + 1 - p.length = (k + 1 - p.length) + 1 by omega]
    unfold findN
    rw [List.range_succ, List.filter_append]
    have : occB p t (k + 1 - p.length) = false := by
      apply Bool.eq_false_iff.2
      intro ht
      have := (occ_suf (by omega)).1 ht
      rw [show k + 1 - p.length + p.length = k + 1 by omega] at this
      exact h this
    simp [this]
  · rw [show k + 1 + 1 - p.length = 0 by omega, show k + 1 - p.length = 0 by omega]
theorem findK_yes {p t : List Int} {k : Nat} (hk : k < t.length) (h : Suf p t (k + 1) p.length) : findK p t (k + 1) = findK p t k ++ [k + 1 - p.length] := by
  have h1 := h.le
  unfold findK
  rw [show k + 1 + 1 - p.length = (k + 1 - p.length) + 1 by omega]
  unfold findN
  rw [List.range_succ, List.filter_append]
  have : occB p t (k + 1 - p.length) = true := (occ_suf (by omega)).2 (by rw [show k + 1 - p.length + p.length = k + 1 by omega]; exact h)
  simp [this]
theorem findN_one (p t : List Int) (k : Nat) : findN p t (k + 1) = if occB p t k = true then findN p t k ++ [k] else findN p t k := by
  unfold findN
  rw [List.range_succ, List.filter_append]
  cases h : occB p t k <;> simp [h]
theorem occ_far {p t : List Int} {i : Nat} (h : t.length < i + p.length) : occB p t i = false := by
  apply Bool.eq_false_iff.2
  intro ht
  have := ((occ_iff _ _ _).1 ht).1
  omega
theorem findN_far {p t : List Int} (n d : Nat) (h : t.length < n + p.length) : findN p t (n + d) = findN p t n := by
  induction d with
  | zero => rfl
  | succ d ih => rw [← Nat.add_assoc, findN_one, occ_far (by omega)]; simpa using ih
/-- all of them -/
theorem findN_all {p t : List Int} (h : 0 < p.length) : findN p t t.length = findK p t t.length := by
  unfold findK
  by_cases h1 : p.length ≤ t.length + 1
  · have := findN_far (p := p) (t := t) (t.length + 1 - p.length) (p.length - 1) (by omega)
    rw [show t.length + 1 - p.length + (p.length - 1) = t.length by omega] at this
    exact this
  · rw [show t.length + 1 - p.length = 0 by omega]
    have := findN_far (p := p) (t := t) 0 t.length (by omega)
    rwa [Nat.zero_add] at this
theorem findN_len (p t : List Int) (k : Nat) : (findN p t k).length ≤ k := by
  unfold findN
  exact Nat.le_trans (List.length_filter_le _ _) (by simp)
theorem findN_mem {p t : List Int} {k i : Nat} : i ∈ findN p t k ↔ i < k ∧ occB p t i = true := by
  unfold findN
  simp
/-- the border is the greatest beginning at the end -/
theorem brd_of {p : List Int} {n : Nat} (h1 : n < p.length) (hs : Suf p p p.length n) (hn : ∀ c, n < c → c < p.length → ¬ Suf p p p.length c) : Brd p p.length n :=
  ⟨h1, hs, fun c hc hcs => by
    apply Classical.byContradiction
    intro hnc
    exact hn c (by omega) hc hcs⟩
/-- occurrences that lie apart: the end of the last one and how many -/
def apart1 (m : Nat) (s : Nat × Nat) (i : Nat) : Nat × Nat := if s.1 ≤ i then (i + m, s.2 + 1) else s
def apartF (m : Nat) (L : List Nat) : Nat × Nat := L.foldl (apart1 m) (0, 0)
theorem apart_snoc (m : Nat) (L : List Nat) (i : Nat) : apartF m (L ++ [i]) = apart1 m (apartF m L) i := by simp [apartF]
/-- behind an occurrence that counts, those that overlap it change nothing -/
theorem apart_skip {p t : List Int} {k : Nat} (d : Nat) (hd : d ≤ p.length) (h : (apartF p.length (findN p t k)).1 ≤ k) (ho : occB p t k = true) (h0 : 0 < d) :
    apartF p.length (findN p t (k + d)) = (k + p.length, (apartF p.length (findN p t k)).2 + 1) := by
  induction d with
  | zero => omega
  | succ d ih =>
    by_cases hz : d = 0
    · subst hz
      rw [findN_one, if_pos ho, apart_snoc]
      unfold apart1
      rw [if_pos h]
    · have := ih (by omega) (by omega)
      rw [← Nat.add_assoc, findN_one]
      split
      · rw [apart_snoc, this]
        unfold apart1
        rw [if_neg (by dsimp only; omega)]
      · exact this
end Go.Proofs.YtgkdonnkiljplaaDoor
