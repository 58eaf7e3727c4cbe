/- Slices of ratios and tunings: how they read, and the laws' own helpers over them. -/
import Derived.Test.YtobhmoohalkijaaDoorLawR
import Derived.Test.YtobhmoohalkijaaDoorLaw
import Derived.Deep.SlicePairs
namespace Go.Proofs.YtobhmoohalkijaaDoor
open Go.ChangeShapes Go.WideShapes Go.ChangeAt Go.RowKit
set_option linter.unusedVariables false
set_option linter.unusedSimpArgs false
set_option maxRecDepth 100000

/-- pairs as cells -/
def pcl (l : List (Int × Int)) : List Value := l.flatMap fun p => [.int .i64 p.1, .int .i64 p.2]
theorem pcl_len (l : List (Int × Int)) : (pcl l).length = 2 * l.length := by
  induction l with
  | nil => rfl
  | cons p l ih => simp [pcl] at ih ⊢; omega
theorem pcl_app (l m : List (Int × Int)) : pcl (l ++ m) = pcl l ++ pcl m := by simp [pcl]
theorem pcl_cons (p : Int × Int) (l : List (Int × Int)) : pcl (p :: l) = .int .i64 p.1 :: .int .i64 p.2 :: pcl l := by simp [pcl]
def pat (l : List (Int × Int)) (k : Nat) : Int × Int := l.getD k (0, 0)
theorem pat_get {l : List (Int × Int)} {k : Nat} (h : k < l.length) : pat l k = l[k] := by simp [pat, h]
theorem pcl_at0 (l : List (Int × Int)) (k : Nat) (h : k < l.length) : (pcl l)[k * 2]? = some (.int .i64 (pat l k).1) := by
  induction l generalizing k with
  | nil => cases h
  | cons p l ih =>
    rw [pcl_cons]
    cases k with
    | zero => rfl
    | succ k => rw [show (k + 1) * 2 = k * 2 + 1 + 1 by omega, List.getElem?_cons_succ, List.getElem?_cons_succ]; exact ih k (by simpa using h)
theorem pcl_at1 (l : List (Int × Int)) (k : Nat) (h : k < l.length) : (pcl l)[k * 2 + 1]? = some (.int .i64 (pat l k).2) := by
  induction l generalizing k with
  | nil => cases h
  | cons p l ih =>
    rw [pcl_cons]
    cases k with
    | zero => rfl
    | succ k => rw [show (k + 1) * 2 + 1 = k * 2 + 1 + 1 + 1 by omega, List.getElem?_cons_succ, List.getElem?_cons_succ]; exact ih k (by simpa using h)
theorem pcl_set (l : List (Int × Int)) (k : Nat) (p : Int × Int) (h : k < l.length) : ((pcl l).set (k * 2) (.int .i64 p.1)).set (k * 2 + 1) (.int .i64 p.2) = pcl (l.set k p) := by
  induction l generalizing k with
  | nil => cases h
  | cons q l ih =>
    cases k with
    | zero => simp [pcl_cons]
    | succ k => rw [pcl_cons, List.set_cons_succ, pcl_cons, show (k + 1) * 2 = k * 2 + 1 + 1 by omega]; simp only [List.set_cons_succ]; rw [ih k (by simpa using h)]

/-- a slice that reads as these pairs -/
def PrsAt (w : World) (v : Value) (l : List (Int × Int)) : Prop :=
  (l = [] ∧ ∃ A c, v = .slice A 0 c) ∨ ∃ b off c, v = .slice (some ⟨b, off, none⟩) l.length c ∧ b < w.heap.size ∧ ∀ k, k < l.length → w.cell? ⟨b, off + k * 2, none⟩ = some (.int .i64 (pat l k).1) ∧ w.cell? ⟨b, off + k * 2 + 1, none⟩ = some (.int .i64 (pat l k).2)
theorem PrsAt.below {w w' : World} {v : Value} {l : List (Int × Int)} (h : PrsAt w v l) (hb : Below w.heap.size w w') : PrsAt w' v l := by
  rcases h with h | ⟨b, off, c, h1, h2, h3⟩
  · exact .inl h
  · exact .inr ⟨b, off, c, h1, Nat.lt_of_lt_of_le h2 hb.size, fun k hk => ⟨(hb.cell (p := ⟨b, off + k * 2, none⟩) h2).trans (h3 k hk).1, (hb.cell (p := ⟨b, off + k * 2 + 1, none⟩) h2).trans (h3 k hk).2⟩⟩
theorem PrsAt.draws {w : World} {v : Value} {l : List (Int × Int)} (h : PrsAt w v l) (n : Nat) : PrsAt (w.drewN n) v l := h
theorem prs_len {w : World} {v : Value} {l : List (Int × Int)} (h : PrsAt w v l) : ∃ A c, v = .slice A l.length c := by
  rcases h with ⟨rfl, A, c, h⟩ | ⟨b, o, c, h, _⟩
  · exact ⟨A, c, h⟩
  · exact ⟨_, c, h⟩
theorem PrsAt.own {w : World} {base : Nat} {v : Value} {l : List (Int × Int)} (h : w.ownsRow base 50 2 v l.length (pcl l)) : PrsAt w v l := by
  rcases Nat.eq_zero_or_pos l.length with h0 | h0
  · refine .inl ⟨List.eq_nil_of_length_eq_zero h0, ?_⟩
    rcases h.2 with ⟨hv, _⟩ | ⟨g, cap, cur, hv, _⟩
    · exact ⟨none, 0, hv⟩
    · exact ⟨some ⟨g, 0, none⟩, cap, by rw [hv, h0]⟩
  · obtain ⟨g, cap, rfl, _, hlt⟩ := h.form h0
    refine .inr ⟨g, 0, cap, rfl, hlt, fun k hk => ⟨?_, ?_⟩⟩
    · rw [Nat.zero_add, h.cellAt (k * 2) (by omega), pcl_at0 l k hk]
    · rw [Nat.zero_add, h.cellAt (k * 2 + 1) (by omega), pcl_at1 l k hk]
/-- a tuning as a value -/
def tun (s : ByteArray) (v : Value) : Value := .agg #[.string s, v]

/-- how much is left behind a list -/
def szN (n : Nat) (k : Int) : Int := if k < n then -1 else k - n
/-- how much is left behind a tuning -/
def szT (s : ByteArray) (l : List (Int × Int)) (k : Int) : Int := if k < s.size then -1 else szN l.length (k - s.size)
end Go.Proofs.YtobhmoohalkijaaDoor
