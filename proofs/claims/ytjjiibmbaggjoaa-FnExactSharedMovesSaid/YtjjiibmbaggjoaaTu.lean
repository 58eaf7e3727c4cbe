/- Slices of ratios and tunings: how they read, and the laws' own helpers over them. -/
import Derived.Test.YtjjiibmbaggjoaaLawR
import Derived.Test.YtjjiibmbaggjoaaLaw
import Derived.Deep.SlicePairs
namespace Go.Proofs.Ytjjiibmbaggjoaa
open Go.ChangeShapes Go.WideShapes Go.ChangeAt Go.RowKit
set_option linter.unusedVariables false
set_option linter.unusedSimpArgs false
set_option maxRecDepth 100000

/-- pairs as cells -/
def pcl (l : List (Int × Int)) : List Value := l.flatMap fun p => [.int .i64 p.1, .int .i64 p.2]
theorem pcl_len (l : List (Int × Int)) : (pcl l).length = 2 * l.length := by
  induction l with
  | nil => rfl
  | cons p l ih => simp [pcl] at ih ⊢; omega
theorem pcl_app (l m : List (Int × Int)) : pcl (l ++ m) = pcl l ++ pcl m := by simp [pcl]
theorem pcl_cons (p : Int × Int) (l : List (Int × Int)) : pcl (p :: l) = .int .i64 p.1 :: .int .i64 p.2 :: pcl l := by simp [pcl]
def pat (l : List (Int × Int)) (k : Nat) : Int × Int := l.getD k (0, 0)
theorem pat_get {l : List (Int × Int)} {k : Nat} (h : k < l.length) : pat l k = l[k] := by simp [pat, h]
theorem pcl_at0 (l : List (Int × Int)) (k : Nat) (h : k < l.length) : (pcl l)[k * 2]? = some (.int .i64 (pat l k).1) := by
  induction l generalizing k with
  | nil => cases h
  | cons p l ih =>
    rw [pcl_cons]
    cases k with
    | zero => rfl
    | succ k => rw [show (k + 1) * 2 = k * 2 + 1 + 1 by omega, List.getElem?_cons_succ, List.getElem?_cons_succ]; exact ih k (by simpa using h)
theorem pcl_at1 (l : List (Int × Int)) (k : Nat) (h : k < l.length) : (pcl l)[k * 2 + 1]? = some (.int .i64 (pat l k).2) := by
  induction l generalizing k with
  | nil => cases h
  | cons p l ih =>
    rw [pcl_cons]
    cases k with
    | zero => rfl
    | succ k => rw [show (k + 1) * 2 + 1 = k * 2 + 1 + 1 + 1 by omega, List.getElem?_cons_succ, List.getElem?_cons_succ]; exact ih k (by simpa using h)
theorem pcl_set (l : List (Int × Int)) (k : Nat) (p : Int × Int) (h : k < l.length) : ((pcl l).set (k * 2) (.int .i64 p.1)).set (k * 2 + 1) (.int .i64 p.2) = pcl (l.set k p) := by
  induction l generalizing k with
  | nil => cases h
  | cons q l ih =>
    cases k with
    | zero => simp [pcl_cons]
    | succ k => rw [pcl_cons, List.set_cons_succ, pcl_cons, show (k + 1) * 2 = k * 2 + 1 + 1 by omega]; simp only [List.set_cons_succ]; rw [ih k (by simpa using h)]

/-- a slice that reads as these pairs -/
def PrsAt (w : World) (v : Value) (l : List (Int × Int)) : Prop :=
  (l = [] ∧ ∃ A c, v = .slice A 0 c) ∨ ∃ b off c, v = .slice (some ⟨b, off, none⟩) l.length c ∧ b < w.heap.size ∧ ∀ k, k < l.length → w.cell? ⟨b, off + k * 2, none⟩ = some (.int .i64 (pat l k).1) ∧ w.cell? ⟨b, off + k * 2 + 1, none⟩ = some (.int .i64 (pat l k).2)
theorem PrsAt.below {w w' : World} {v : Value} {l : List (Int × Int)} (h : PrsAt w v l) (hb : Below w.heap.size w w') : PrsAt w' v l := by
  rcases h with h | ⟨b, off, c, h1, h2, h3⟩
  · exact .inl h
  · exact .inr ⟨b, off, c, h1, Nat.lt_of_lt_of_le h2 hb.size, fun k hk => ⟨(hb.cell (p := ⟨b, off + k * 2, none⟩) h2).trans (h3 k hk).1, (hb.cell (p := ⟨b, off + k * 2 + 1, none⟩) h2).trans (h3 k hk).2⟩⟩
theorem PrsAt.draws {w : World} {v : Value} {l : List (Int × Int)} (h : PrsAt w v l) (n : Nat) : PrsAt (w.drewN n) v l := h
theorem prs_len {w : World} {v : Value} {l : List (Int × Int)} (h : PrsAt w v l) : ∃ A c, v = .slice A l.length c := by
  rcases h with ⟨rfl, A, c, h⟩ | ⟨b, o, c, h, _⟩
  · exact ⟨A, c, h⟩
  · exact ⟨_, c, h⟩
theorem PrsAt.own {w : World} {base : Nat} {v : Value} {l : List (Int × Int)} (h : w.ownsRow base 63 2 v l.length (pcl l)) : PrsAt w v l := by
  rcases Nat.eq_zero_or_pos l.length with h0 | h0
  · refine .inl ⟨List.eq_nil_of_length_eq_zero h0, ?_⟩
    rcases h.2 with ⟨hv, _⟩ | ⟨g, cap, cur, hv, _⟩
    · exact ⟨none, 0, hv⟩
    · exact ⟨some ⟨g, 0, none⟩, cap, by rw [hv, h0]⟩
  · obtain ⟨g, cap, rfl, _, hlt⟩ := h.form h0
    refine .inr ⟨g, 0, cap, rfl, hlt, fun k hk => ⟨?_, ?_⟩⟩
    · rw [Nat.zero_add, h.cellAt (k * 2) (by omega), pcl_at0 l k hk]
    · rw [Nat.zero_add, h.cellAt (k * 2 + 1) (by omega), pcl_at1 l k hk]
/-- a tuning as a value -/
def tun (s : ByteArray) (v : Value) : Value := .agg #[.string s, v]

/-- how much is left behind a list -/
def szN (n : Nat) (k : Int) : Int := if k < n then -1 else k - n
theorem sz_prs (v : Value) (l : List (Int × Int)) (k : Int) (w : World) (h : PrsAt w v l) (hk : 0 ≤ k ∧ k ≤ 1048576) (hl : l.length ≤ 9223372036854775807) :
    Calls Try.prog 86 #[v, .int .i64 k] w fun e w' => e = .returned (.int .i64 (szN l.length k)) ∧ w = w' := by
  obtain ⟨A, c, rfl⟩ := prs_len h
  obtain ⟨k1, k2⟩ := hk
  clear h
  generalize l.length = n at *
  by_cases hc : k < n
  · have hd : decide (k - (n : Int) < 0) = true := by simp; omega
    have HE : Bx (szN n k = -1) := Bx.mk (if_pos hc)
    go_enter Try.func86, Try.ntmps86
    go_wp2
    go_ret
    exact ⟨ret_int HE.out.symm, rfl⟩
  · have hd : decide (k - (n : Int) < 0) = false := by simp; omega
    have HE : Bx (szN n k = k - n) := Bx.mk (if_neg hc)
    go_enter Try.func86, Try.ntmps86
    go_wp2
    go_ret
    exact ⟨ret_int HE.out.symm, rfl⟩
/-- how much is left behind a tuning -/
def szT (s : ByteArray) (l : List (Int × Int)) (k : Int) : Int := if k < s.size then -1 else szN l.length (k - s.size)
theorem sz_tun (s : ByteArray) (v : Value) (l : List (Int × Int)) (k : Int) (w : World) (h : PrsAt w v l) (hk : 0 ≤ k ∧ k ≤ 1048576) (hs : s.size ≤ maxLen) (hl : l.length ≤ 9223372036854775807) :
    Calls Try.prog 45 #[tun s v, .int .i64 k] w fun e w' => e = .returned (.int .i64 (szT s l k)) ∧ Below w.heap.size w w' := by
  have hx := fun k W hW hk => sz_prs v l k W hW hk hl
  unfold tun
  unfold maxLen at hs
  have HI := Bx.mk h
  obtain ⟨k1, k2⟩ := hk
  clear h
  by_cases hc : k < s.size
  · have hd : decide (k - (s.size : Int) < 0) = true := by simp; omega
    have HE : Bx (szT s l k = -1) := Bx.mk (if_pos hc)
    go_enter Try.func45, Try.ntmps45
    go_wp2_with (fail)
    go_ret
    refine ⟨ret_int HE.out.symm, ?_⟩
    repeat' (first | (with_reducible exact Below.refl _ _) | (with_reducible assumption) | (with_reducible refine Below.drew ?_) | (with_reducible refine Below.alloc ?_ ?_ _) | (with_reducible refine below_draws ?_ _) | (with_reducible refine Below.setCell ?_ ?_ _) | go_size)
  · have hd : decide (k - (s.size : Int) < 0) = false := by simp; omega
    have HE : Bx (szT s l k = szN l.length (k - s.size)) := Bx.mk (if_neg hc)
    have hx2 := fun W hW => hx (k - (s.size : Int)) W hW (by omega)
    clear hx
    by_cases hc2 : k - (s.size : Int) < l.length
    · have HE2 := Bx.mk (HE.out.trans (if_pos hc2))
      simp only [show szN l.length (k - (s.size : Int)) = -1 from if_pos hc2] at hx2
      clear hc2
      go_enter Try.func45, Try.ntmps45
      go_wp2_with (fail)
      refine (hx2 _ ?_).mono ?_
      · refine PrsAt.below HI.out ?_
        repeat' (first | (with_reducible exact Below.refl _ _) | (with_reducible assumption) | (with_reducible refine Below.drew ?_) | (with_reducible refine Below.alloc ?_ ?_ _) | (with_reducible refine below_draws ?_ _) | (with_reducible refine Below.setCell ?_ ?_ _) | go_size)
      rintro r w1 ⟨rfl, rfl⟩
      go_wp2_with (fail)
      go_ret
      refine ⟨ret_int HE2.out.symm, ?_⟩
      repeat' (first | (with_reducible exact Below.refl _ _) | (with_reducible assumption) | (with_reducible refine Below.drew ?_) | (with_reducible refine Below.alloc ?_ ?_ _) | (with_reducible refine below_draws ?_ _) | (with_reducible refine Below.setCell ?_ ?_ _) | go_size)
    · have HE2 := Bx.mk (HE.out.trans (if_neg hc2))
      simp only [show szN l.length (k - (s.size : Int)) = k - (s.size : Int) - (l.length : Int) from if_neg hc2] at hx2
      have hd2 : decide (k - (s.size : Int) - (l.length : Int) < 0) = false := by simp; omega
      generalize k - (s.size : Int) - (l.length : Int) = z at *
      clear hc2
      go_enter Try.func45, Try.ntmps45
      go_wp2_with (fail)
      refine (hx2 _ ?_).mono ?_
      · refine PrsAt.below HI.out ?_
        repeat' (first | (with_reducible exact Below.refl _ _) | (with_reducible assumption) | (with_reducible refine Below.drew ?_) | (with_reducible refine Below.alloc ?_ ?_ _) | (with_reducible refine below_draws ?_ _) | (with_reducible refine Below.setCell ?_ ?_ _) | go_size)
      rintro r w1 ⟨rfl, rfl⟩
      go_wp2_with (fail)
      go_ret
      refine ⟨ret_int HE2.out.symm, ?_⟩
      repeat' (first | (with_reducible exact Below.refl _ _) | (with_reducible assumption) | (with_reducible refine Below.drew ?_) | (with_reducible refine Below.alloc ?_ ?_ _) | (with_reducible refine below_draws ?_ _) | (with_reducible refine Below.setCell ?_ ?_ _) | go_size)
end Go.Proofs.Ytjjiibmbaggjoaa
