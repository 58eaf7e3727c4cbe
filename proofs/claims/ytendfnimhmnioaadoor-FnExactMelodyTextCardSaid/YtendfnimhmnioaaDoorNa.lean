/- Slices of notes: how they read; notes that came in. -/
import Derived.Test.YtendfnimhmnioaaDoorLaw
import Derived.Deep.RegionHeld3
import Derived.Deep.SlicePairs
import Derived.Handy
namespace Go.Proofs.YtendfnimhmnioaaDoor
open Go.ChangeShapes Go.WideShapes Go.ChangeAt Go.RowKit
set_option linter.unusedVariables false
set_option linter.unusedSimpArgs false
set_option maxRecDepth 100000

/-- pairs as cells -/
def pcl (l : List (Int × Int)) : List Value := l.flatMap fun p => [.int .i64 p.1, .int .i64 p.2]
theorem pcl_len (l : List (Int × Int)) : (pcl l).length = 2 * l.length := by
  induction l with
  | nil => rfl
  | cons p l ih => simp [pcl] at ih ⊢; omega
theorem pcl_app (l m : List (Int × Int)) : pcl (l ++ m) = pcl l ++ pcl m := by simp [pcl]
theorem pcl_cons (p : Int × Int) (l : List (Int × Int)) : pcl (p :: l) = .int .i64 p.1 :: .int .i64 p.2 :: pcl l := by simp [pcl]
def pat (l : List (Int × Int)) (k : Nat) : Int × Int := l.getD k (0, 0)
theorem pat_get {l : List (Int × Int)} {k : Nat} (h : k < l.length) : pat l k = l[k] := by simp [pat, h]
theorem pcl_at0 (l : List (Int × Int)) (k : Nat) (h : k < l.length) : (pcl l)[k * 2]? = some (.int .i64 (pat l k).1) := by
  induction l generalizing k with
  | nil => cases h
  | cons p l ih =>
    rw [pcl_cons]
    cases k with
    | zero => rfl
    | succ k => rw [show (k + 1) * 2 = k * 2 + 1 + 1 by omega, List.getElem?_cons_succ, List.getElem?_cons_succ]; exact ih k (by simpa using h)
theorem pcl_at1 (l : List (Int × Int)) (k : Nat) (h : k < l.length) : (pcl l)[k * 2 + 1]? = some (.int .i64 (pat l k).2) := by
  induction l generalizing k with
  | nil => cases h
  | cons p l ih =>
    rw [pcl_cons]
    cases k with
    | zero => rfl
    | succ k => rw [show (k + 1) * 2 + 1 = k * 2 + 1 + 1 + 1 by omega, List.getElem?_cons_succ, List.getElem?_cons_succ]; exact ih k (by simpa using h)
theorem pcl_set (l : List (Int × Int)) (k : Nat) (p : Int × Int) (h : k < l.length) : ((pcl l).set (k * 2) (.int .i64 p.1)).set (k * 2 + 1) (.int .i64 p.2) = pcl (l.set k p) := by
  induction l generalizing k with
  | nil => cases h
  | cons q l ih =>
    cases k with
    | zero => simp [pcl_cons]
    | succ k => rw [pcl_cons, List.set_cons_succ, pcl_cons, show (k + 1) * 2 = k * 2 + 1 + 1 by omega]; simp only [List.set_cons_succ]; rw [ih k (by simpa using h)]

/-- a slice that reads as these pairs -/
def PrsAt (w : World) (v : Value) (l : List (Int × Int)) : Prop :=
  (l = [] ∧ ∃ A c, v = .slice A 0 c) ∨ ∃ b off c, v = .slice (some ⟨b, off, none⟩) l.length c ∧ b < w.heap.size ∧ ∀ k, k < l.length → w.cell? ⟨b, off + k * 2, none⟩ = some (.int .i64 (pat l k).1) ∧ w.cell? ⟨b, off + k * 2 + 1, none⟩ = some (.int .i64 (pat l k).2)
theorem PrsAt.below {w w' : World} {v : Value} {l : List (Int × Int)} (h : PrsAt w v l) (hb : Below w.heap.size w w') : PrsAt w' v l := by
  rcases h with h | ⟨b, off, c, h1, h2, h3⟩
  · exact .inl h
  · exact .inr ⟨b, off, c, h1, Nat.lt_of_lt_of_le h2 hb.size, fun k hk => ⟨(hb.cell (p := ⟨b, off + k * 2, none⟩) h2).trans (h3 k hk).1, (hb.cell (p := ⟨b, off + k * 2 + 1, none⟩) h2).trans (h3 k hk).2⟩⟩
theorem PrsAt.draws {w : World} {v : Value} {l : List (Int × Int)} (h : PrsAt w v l) (n : Nat) : PrsAt (w.drewN n) v l := h
theorem prs_len {w : World} {v : Value} {l : List (Int × Int)} (h : PrsAt w v l) : ∃ A c, v = .slice A l.length c := by
  rcases h with ⟨rfl, A, c, h⟩ | ⟨b, o, c, h, _⟩
  · exact ⟨A, c, h⟩
  · exact ⟨_, c, h⟩
theorem prs_own {te : TypeId} {w : World} {base : Nat} {v : Value} {l : List (Int × Int)} (h : w.ownsRow base te 2 v l.length (pcl l)) : PrsAt w v l := by
  rcases Nat.eq_zero_or_pos l.length with h0 | h0
  · refine .inl ⟨List.eq_nil_of_length_eq_zero h0, ?_⟩
    rcases h.2 with ⟨hv, _⟩ | ⟨g, cap, cur, hv, _⟩
    · exact ⟨none, 0, hv⟩
    · exact ⟨some ⟨g, 0, none⟩, cap, by rw [hv, h0]⟩
  · obtain ⟨g, cap, rfl, _, hlt⟩ := h.form h0
    refine .inr ⟨g, 0, cap, rfl, hlt, fun k hk => ⟨?_, ?_⟩⟩
    · rw [Nat.zero_add, h.cellAt (k * 2) (by omega), pcl_at0 l k hk]
    · rw [Nat.zero_add, h.cellAt (k * 2 + 1) (by omega), pcl_at1 l k hk]
/-- a note as a value -/
def nt (p n : Int) : Value := .agg #[.int .i64 p, .int .i64 n]
/-- how much is left behind a list -/
def szN (n : Nat) (k : Int) : Int := if k < n then -1 else k - n
theorem sz_prs (v : Value) (l : List (Int × Int)) (k : Int) (w : World) (h : PrsAt w v l) (hk : 0 ≤ k ∧ k ≤ 1048576) (hl : l.length ≤ 9223372036854775807) :
    Calls Tryd.prog 11 #[v, .int .i64 k] w fun e w' => e = .returned (.int .i64 (szN l.length k)) ∧ w = w' := by
  obtain ⟨A, c, rfl⟩ := prs_len h
  obtain ⟨k1, k2⟩ := hk
  clear h
  generalize l.length = n at *
  by_cases hc : k < n
  · have hd : decide (k - (n : Int) < 0) = true := by simp; omega
    have HE : Bx (szN n k = -1) := Bx.mk (if_pos hc)
    go_enter Tryd.func11, Tryd.ntmps11
    go_wp2
    go_ret
    exact ⟨ret_int HE.out.symm, rfl⟩
  · have hd : decide (k - (n : Int) < 0) = false := by simp; omega
    have HE : Bx (szN n k = k - n) := Bx.mk (if_neg hc)
    go_enter Tryd.func11, Tryd.ntmps11
    go_wp2
    go_ret
    exact ⟨ret_int HE.out.symm, rfl⟩
theorem law_tonote (n d : Int) (w : World) :
    Calls Tryd.prog 36 #[nt n d] w fun e w' => e = .returned (nt n d) ∧ Below w.heap.size w w' := by
  unfold nt
  go_enter Tryd.func36, Tryd.ntmps36
  go_wp2
  refine bodyPost_ret (v := .agg #[.int .i64 n, .int .i64 d]) (by simp [results, Tryd.results36, go_sem]) rfl ⟨rfl, ?_⟩
  exact (((Below.refl _ _).alloc (Nat.le_refl _) _).alloc (by simp) _).alloc (by simp; omega) _
theorem law_eqnote (n d m e : Int) (w : World) :
    Calls Tryd.prog 40 #[nt n d, nt m e] w fun r w' => r = .returned (.bool (n == m && d == e)) ∧ Below w.heap.size w w' := by
  have hb : Below w.heap.size w ((w.alloc (.cells #[.int .i64 n, .int .i64 d] 45)).alloc (.cells #[.int .i64 m, .int .i64 e] 45)) := ((Below.refl _ _).alloc (Nat.le_refl _) _).alloc (by simp) _
  have HB := Bx.mk hb
  clear hb
  unfold nt
  go_enter Tryd.func40, Tryd.ntmps40
  go_wp2
  all_goals
    go_ret
    exact ⟨ret_bool (by simp_all), HB.out⟩

theorem cells_note : Tryd.prog.cellsOf 47 = 2 := by kernel_rfl
theorem cells_i64t : Tryd.prog.cellsOf 2 = 1 := by kernel_rfl
/-- numbers of 64 bits -/
def WfN (l : List (Int × Int)) : Prop := ∀ k, k < l.length → (-9223372036854775808 ≤ (pat l k).1 ∧ (pat l k).1 ≤ 9223372036854775807) ∧ (-9223372036854775808 ≤ (pat l k).2 ∧ (pat l k).2 ≤ 9223372036854775807)
/-- a new list of notes and something beside it -/
def NtOut (l : List (Int × Int)) (cv : Value) (w : World) (e : Ending) (w' : World) : Prop :=
  ∃ v, e = .returned (.tuple #[v, cv]) ∧ w'.ownsRow w.heap.size 45 2 v l.length (pcl l) ∧ Below w.heap.size w w'
set_option maxRecDepth 100000 in
theorem arg_nts {H : Type} {enc : TypeId × Value → H} {W : World} {b0 : Nat} {v : Value} {d : DataW H} {p : List MemPlace} (hval : Value.okWide Tryd.prog W .any b0 22 v)
    (h : DataW.Trod enc Tryd.prog W 0 (fun _ => true) true 22 v d p) :
    ∃ (l : List (Int × Int)), PrsAt W v l ∧ l.length ≤ 9223372036854775807 ∧ WfN l := by
  obtain ⟨a0, len0, cap0, rfl⟩ := okWide_slice Tryd.underlying22 hval
  obtain ⟨fuel, hf⟩ := h
  rcases Go.Deep.open_slice_pairs Tryd.underlying22 Tryd.underlying47 cells_note rfl rfl cells_i64t cells_i64t (by simpa [Value.cells] using hf) with ⟨hcs, hx⟩ | ⟨a, len, cap, mm, n, V0, V1, D0, D1, P0, P1, hcs, hba, hl, hm, hmm, hx, hcell⟩
  · simp at hcs
    obtain ⟨rfl, rfl, rfl⟩ := hcs
    exact ⟨[], .inl ⟨rfl, none, 0, rfl⟩, by simp, fun k hk => by simp at hk⟩
  · simp at hcs
    obtain ⟨rfl, rfl, rfl⟩ := hcs
    have hml : mm = cap0 := by simpa using hmm
    have hval1 : ∀ i, i < len0 → ∃ a b : Int, V0 i = .int .i64 a ∧ V1 i = .int .i64 b ∧ (-9223372036854775808 ≤ a ∧ a ≤ 9223372036854775807) ∧ (-9223372036854775808 ≤ b ∧ b ≤ 9223372036854775807) := fun i hi => by
      obtain ⟨h1, h2, h3, h4⟩ := hcell i (by omega)
      obtain ⟨a, e0, _, wa⟩ := DataW.trod_int Tryd.underlying2 h3
      obtain ⟨b, e1, _, wb⟩ := DataW.trod_int Tryd.underlying2 h4
      simp at e0 e1
      exact ⟨a, b, e0, e1, wf_bounds wa, wf_bounds wb⟩
    by_cases hl0 : len0 = 0
    · subst hl0
      exact ⟨[], .inl ⟨rfl, _, _, rfl⟩, by simp, fun k hk => by simp at hk⟩
    · have hc0 := hcell 0 (by omega)
      obtain ⟨b, off, spot⟩ := a
      have hspot : spot = none := by simpa [Addr.add] using World.cell?_spot hc0.1
      subst hspot
      have hb : b < W.heap.size := by
        have := hc0.1
        rcases Nat.lt_or_ge b W.heap.size with h | h
        · exact h
        · simp [World.cell?, Addr.add, Array.getElem?_eq_none h] at this
      let num : Value → Int := fun v => match v with | .int _ x => x | _ => 0
      let l := (List.range len0).map fun i => (num (V0 i), num (V1 i))
      have hll : l.length = len0 := by simp [l]
      refine ⟨l, .inr ⟨b, off, cap0, by rw [hll], hb, fun k hk => ?_⟩, by rw [hll]; unfold maxLen at hm; omega, fun k hk => ?_⟩
      · rw [hll] at hk
        obtain ⟨h1, h2, _, _⟩ := hcell k (by omega)
        obtain ⟨a, b', e0, e1, _⟩ := hval1 k hk
        have hp : pat l k = (a, b') := by simp [pat, l, hk, e0, e1, num]
        rw [hp, ← e0, ← e1]
        rw [show (⟨b, off, none⟩ : Addr).add (k * 2) = ⟨b, off + k * 2, none⟩ by simp [Addr.add]] at h1
        rw [show (⟨b, off, none⟩ : Addr).add (k * 2 + 1) = ⟨b, off + k * 2 + 1, none⟩ by simp [Addr.add, Nat.add_assoc]] at h2
        exact ⟨h1, h2⟩
      · rw [hll] at hk
        obtain ⟨a, b', e0, e1, wa, wb⟩ := hval1 k hk
        have hp : pat l k = (a, b') := by simp [pat, l, hk, e0, e1, num]
        rw [hp]
        exact ⟨wa, wb⟩
end Go.Proofs.YtendfnimhmnioaaDoor
