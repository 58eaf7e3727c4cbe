/- ReadPhrases: plain facts. -/
import Derived.Test.YtgkdonnkiljplaaDoorPs
import Derived.Test.YtgkdonnkiljplaaDoorPi
import Derived.Test.YtgkdonnkiljplaaDoorReadList
import Derived.Test.YtgkdonnkiljplaaDoorCutN
import Derived.Test.YtgkdonnkiljplaaDoorMk
namespace Go.Proofs.YtgkdonnkiljplaaDoor
open Go.ChangeShapes Go.WideShapes Go.ChangeAt Go.RowKit
set_option linter.unusedVariables false
set_option linter.unusedSimpArgs false
set_option maxRecDepth 100000

/-- a list of lists, read piece by piece -/
def readRows : List (List UInt8) → Option (List (List Int))
  | [] => some []
  | p :: r => match readL p with
    | none => none
    | some v => (readRows r).map (v :: ·)
theorem rr_none (ps : List (List UInt8)) (vs : List (List Int)) (k : Nat) (hk : k < ps.length) (h : readRows ps = (readRows (ps.drop k)).map (vs ++ ·)) (hn : readL (ps.getD k []) = none) : readRows ps = none := by
  have e : ps.drop k = ps.getD k [] :: ps.drop (k + 1) := by rw [List.drop_eq_getElem_cons hk]; simp [List.getD, hk]
  rw [h, e, readRows, hn]; rfl
theorem rr_some (ps : List (List UInt8)) (vs : List (List Int)) (k : Nat) (v : List Int) (hk : k < ps.length) (h : readRows ps = (readRows (ps.drop k)).map (vs ++ ·)) (hn : readL (ps.getD k []) = some v) :
    readRows ps = (readRows (ps.drop (k + 1))).map ((vs ++ [v]) ++ ·) := by
  have e : ps.drop k = ps.getD k [] :: ps.drop (k + 1) := by rw [List.drop_eq_getElem_cons hk]; simp [List.getD, hk]
  rw [h, e, readRows, hn]
  simp [Option.map_map, Function.comp_def]
theorem rr_end (ps : List (List UInt8)) (vs : List (List Int)) (h : readRows ps = (readRows (ps.drop ps.length)).map (vs ++ ·)) : readRows ps = some vs := by
  rw [h, List.drop_length]; simp [readRows]
theorem rr_len (ps : List (List UInt8)) : ∀ L, readRows ps = some L → L.length = ps.length := by
  induction ps with
  | nil => intro L h; simp [readRows] at h; subst h; rfl
  | cons p r ih =>
    intro L h
    unfold readRows at h
    split at h
    · cases h
    · cases hr : readRows r with
      | none => rw [hr] at h; cases h
      | some us =>
        rw [hr] at h
        simp at h
        subst h
        simp [ih us hr]
theorem rr_bad (ps : List (List UInt8)) (p : List UInt8) (hp : p ∈ ps) (hn : readL p = none) : readRows ps = none := by
  induction ps with
  | nil => cases hp
  | cons q r ih =>
    unfold readRows
    rcases List.mem_cons.1 hp with rfl | h
    · rw [hn]
    · split
      · rfl
      · rw [ih h]; rfl
theorem readP_len (ps : List (List UInt8)) : ∀ vs, readP ps = some vs → vs.length = ps.length := by
  induction ps with
  | nil => intro vs h; simp [readP] at h; subst h; rfl
  | cons p r ih =>
    intro vs h
    unfold readP at h
    split at h
    · cases h
    · cases hr : readP r with
      | none => rw [hr] at h; cases h
      | some us =>
        rw [hr] at h
        simp at h
        subst h
        simp [ih us hr]
theorem readL_len (l : List UInt8) : ((readL l).getD []).length ≤ 64 := by
  unfold readL
  split
  · simp
  · split
    · simp
    · rename_i h
      cases hr : readP (cutL 44 l) with
      | none => simp
      | some vs => have := readP_len _ vs hr; simp; omega
theorem readP_bad (ps : List (List UInt8)) (p : List UInt8) (hp : p ∈ ps) (hn : numZ p = none) : readP ps = none := by
  induction ps with
  | nil => cases hp
  | cons q r ih =>
    unfold readP
    rcases List.mem_cons.1 hp with rfl | h
    · rw [okv_none1 p hn]
    · split
      · rfl
      · rw [ih h]; rfl
theorem readL_59 {p : List UInt8} (h : (59 : UInt8) ∈ p) : readL p = none := by
  unfold readL
  split
  · rename_i e
    subst e
    simp at h
  · split
    · rfl
    · obtain ⟨q, hq, hd⟩ := cut_mem 44 59 (by decide) p h
      refine readP_bad _ q hq ?_
      cases hz : numZ q with
      | none => rfl
      | some v => exact absurd hd (num_noC (c := 59) (by decide) (by decide) hz)
/-- the phrases, of pieces -/
def phsOf (ps : List (List UInt8)) : Option (List (List Int)) := match readRows ps with
  | some L => if phsB L = true then some L else none
  | none => none
def readPh (l : List UInt8) : Option (List (List Int)) := if l = [] then some [] else phsOf (cutL 59 l)
theorem phsOf_none {ps : List (List UInt8)} (h : readRows ps = none) : phsOf ps = none := by unfold phsOf; rw [h]
theorem phsOf_yes {ps : List (List UInt8)} {L : List (List Int)} (h : readRows ps = some L) (hp : phsB L = true) : phsOf ps = some L := by unfold phsOf; rw [h]; simp [hp]
theorem phsOf_no {ps : List (List UInt8)} {L : List (List Int)} (h : readRows ps = some L) (hp : phsB L = false) : phsOf ps = none := by unfold phsOf; rw [h]; simp [hp]
theorem phsOf_good {ps : List (List UInt8)} {L : List (List Int)} (h : phsOf ps = some L) : phsB L = true := by
  unfold phsOf at h
  split at h
  · split at h
    · injection h with h; subst h; assumption
    · cases h
  · cases h
theorem readPh_len (l : List UInt8) : ((readPh l).getD []).length ≤ 12 ∧ ∀ k, k < ((readPh l).getD []).length → (((readPh l).getD []).getD k []).length ≤ 8 := by
  cases h : readPh l with
  | none => simp
  | some L =>
    simp only [Option.getD_some]
    by_cases hl : l = []
    · subst hl
      unfold readPh at h
      rw [if_pos rfl] at h
      injection h with h
      subst h
      simp
    · unfold readPh at h
      rw [if_neg hl] at h
      obtain ⟨h1, h2⟩ := phs_yes (phsOf_good h)
      exact ⟨h1, fun k hk => (ph_yes (h2 k hk)).2.2⟩
/-- pieces up to one too many lead to the same phrases -/
theorem phs_cutN (l : List UInt8) (k : Nat) (hk : k = 12 ∨ l.length ≤ k) : phsOf (cutN 59 k l) = phsOf (cutL 59 l) := by
  rcases cutN_ways 59 k l with ⟨h, _⟩ | ⟨h1, h2, p, hp, hm⟩
  · rw [h]
  · rw [phsOf_none (rr_bad _ p hp (readL_59 hm))]
    have hc := cut_len 59 l
    have hk12 : k = 12 := by
      rcases hk with h | h
      · exact h
      · omega
    cases hr : readRows (cutL 59 l) with
    | none => exact (phsOf_none hr).symm
    | some L =>
      have hl := rr_len _ L hr
      refine (phsOf_no hr ?_).symm
      unfold phsB
      rw [decide_eq_false (by omega)]; rfl
/-- new rows, and whether there are any -/
def RowsOut (o : Option (List (List Int))) (w : World) (e : Ending) (w' : World) : Prop :=
  ∃ v V, e = .returned (.tuple #[v, .bool o.isSome]) ∧ RowsOwn w' w.heap.size v (o.getD []) V ∧ Below w.heap.size w w'
theorem ro_none {o : Option (List (List Int))} {w w' : World} (h : o = none) (hb : Below w.heap.size w w') : RowsOut o w (.returned (.tuple #[.slice none 0 0, .bool false])) w' :=
  ⟨_, fun _ => .bool false, by rw [h]; rfl, by rw [h]; exact RowsOwn.nil _ _ _, hb⟩
theorem ro_some {o : Option (List (List Int))} {w w' : World} {v : Value} {V : Nat → Value} {L : List (List Int)} (h : o = some L) (ho : RowsOwn w' w.heap.size v L V) (hb : Below w.heap.size w w') :
    RowsOut o w (.returned (.tuple #[v, .bool true])) w' := ⟨v, V, by rw [h]; rfl, by rw [h]; exact ho, hb⟩
theorem ro_parts {o : Option (List (List Int))} {w : World} {e : Ending} {w' : World} (h : RowsOut o w e w') : ∃ v V, e = .returned (.tuple #[v, .bool o.isSome]) ∧ RowsOwn w' w.heap.size v (o.getD []) V ∧ Below w.heap.size w w' := h
theorem lo_parts {o : Option (List Int)} {w : World} {e : Ending} {w' : World} (h : ListOut o w e w') : ∃ v, e = .returned (.tuple #[v, .bool o.isSome]) ∧ w'.ownsRow w.heap.size 2 1 v (o.getD []).length (ints (o.getD [])) ∧ Below w.heap.size w w' := h
theorem rows_lens {L : List (List Int)} (h : ∀ i, i < L.length → (L.getD i []).length ≤ 64) {zs : List Int} (hz : zs.length ≤ 64) : ∀ i, i < (L ++ [zs]).length → ((L ++ [zs]).getD i []).length ≤ 64 := by
  intro i hi
  by_cases hl : i < L.length
  · have : (L ++ [zs]).getD i [] = L.getD i [] := by simp [List.getD, List.getElem?_append_left hl]
    rw [this]; exact h i hl
  · rw [List.length_append, List.length_singleton] at hi
    obtain rfl : i = L.length := by omega
    simpa using hz
end Go.Proofs.YtgkdonnkiljplaaDoor
