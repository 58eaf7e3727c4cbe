/- ReadList on both sides: one reading of lists (readL). -/
import Derived.Test.YtpkdpchlfabhlaaDoorSplit
import Derived.Test.YtpkdpchlfabhlaaDoorReadDec2
import Derived.Test.YtpkdpchlfabhlaaDoorNum
import Derived.Test.YtpkdpchlfabhlaaDoorRow
import Derived.Test.YtpkdpchlfabhlaaDoorLaw
namespace Go.Proofs.YtpkdpchlfabhlaaDoor
open Go.ChangeShapes Go.WideShapes Go.ChangeAt Go.RowKit
set_option linter.unusedVariables false
set_option linter.unusedSimpArgs false
set_option maxRecDepth 100000

def okv (p : List UInt8) : Option Int := match numZ p with
  | some v => if inB v (-1000000000000) 1000000000000 = true then some v else none
  | none => none
def readP : List (List UInt8) → Option (List Int)
  | [] => some []
  | p :: r => match okv p with
    | none => none
    | some v => (readP r).map (v :: ·)
def readL (l : List UInt8) : Option (List Int) := if l = [45] then some [] else if 64 < (cutL 44 l).length then none else readP (cutL 44 l)

theorem readP_none (ps : List (List UInt8)) (vs : List Int) (k : Nat) (hk : k < ps.length) (h : readP ps = (readP (ps.drop k)).map (vs ++ ·)) (hn : okv (ps.getD k []) = none) : readP ps = none := by
  have e : ps.drop k = ps.getD k [] :: ps.drop (k + 1) := by rw [List.drop_eq_getElem_cons hk]; simp [List.getD, hk]
  rw [h, e, readP, hn]; rfl
theorem readP_some (ps : List (List UInt8)) (vs : List Int) (k : Nat) (v : Int) (hk : k < ps.length) (h : readP ps = (readP (ps.drop k)).map (vs ++ ·)) (hn : okv (ps.getD k []) = some v) :
    readP ps = (readP (ps.drop (k + 1))).map ((vs ++ [v]) ++ ·) := by
  have e : ps.drop k = ps.getD k [] :: ps.drop (k + 1) := by rw [List.drop_eq_getElem_cons hk]; simp [List.getD, hk]
  rw [h, e, readP, hn]
  simp [Option.map_map, Function.comp_def]
theorem readP_end (ps : List (List UInt8)) (vs : List Int) (h : readP ps = (readP (ps.drop ps.length)).map (vs ++ ·)) : readP ps = some vs := by
  rw [h, List.drop_length]; simp [readP]
theorem okv_none1 (p : List UInt8) (h : numZ p = none) : okv p = none := by unfold okv; rw [h]
theorem okv_none2 (p : List UInt8) (v : Int) (h : numZ p = some v) (hb : inB v (-1000000000000) 1000000000000 = false) : okv p = none := by unfold okv; rw [h]; simp [hb]
theorem okv_some (p : List UInt8) (v : Int) (h : numZ p = some v) (hb : inB v (-1000000000000) 1000000000000 = true) : okv p = some v := by unfold okv; rw [h]; simp [hb]

theorem piece_len (c : UInt8) (l : List UInt8) : ∀ p ∈ cutL c l, p.length ≤ l.length := by
  induction l with
  | nil => intro p hp; simp [cutL] at hp; simp [hp]
  | cons b r ih =>
    intro p hp
    unfold cutL at hp
    split at hp
    · rcases List.mem_cons.1 hp with rfl | hp
      · simp
      · have := ih p hp; simp; omega
    · obtain ⟨q, qs, hq⟩ := cut_ne c r
      rw [hq] at hp ih
      rcases List.mem_cons.1 hp with rfl | hp
      · have := ih q (by simp); simp; omega
      · have := ih p (by simp [hp]); simp; omega
theorem str_cells {w : World} {base g cap : Nat} {ps : List (List UInt8)} (h : w.ownsRow base 9 1 (.slice (some ⟨g, 0, none⟩) ps.length cap) ps.length (strs ps)) :
    ∀ k, k < ps.length → w.cell? ⟨g, k, none⟩ = some (.string ⟨(ps.getD k []).toArray⟩) := fun k hk => by
  rw [h.cellAt k (by omega)]
  simp [strs, hk]
theorem ints_snoc (vs : List Int) (v : Int) : ints (vs ++ [v]) = ints vs ++ [.int .i64 v] := by simp [ints]

/-- what a reading of a list hands back: a row of its own, and whether there is one -/
def ListOut (o : Option (List Int)) (w : World) (e : Ending) (w' : World) : Prop :=
  ∃ v, e = .returned (.tuple #[v, .bool o.isSome]) ∧ w'.ownsRow w.heap.size 2 1 v (o.getD []).length (ints (o.getD [])) ∧ Below w.heap.size w w'
theorem out_none {o : Option (List Int)} {w w' : World} (h : o = none) (hb : Below w.heap.size w w') : ListOut o w (.returned (.tuple #[.slice none 0 0, .bool false])) w' :=
  ⟨_, by rw [h]; rfl, by rw [h]; exact World.ownsRow_nil _ _ _ _, hb⟩
theorem out_some {o : Option (List Int)} {w w' : World} {v : Value} {vs : List Int} (h : o = some vs) (ho : w'.ownsRow w.heap.size 2 1 v vs.length (ints vs)) (hb : Below w.heap.size w w') :
    ListOut o w (.returned (.tuple #[v, .bool true])) w' := ⟨_, by rw [h]; rfl, by rw [h]; exact ho, hb⟩
theorem own_mono {w : World} {b1 b2 : Nat} {e : TypeId} {size n : Nat} {v : Value} {xs : List Value} (h : w.ownsRow b2 e size v n xs) (hb : b1 ≤ b2) : w.ownsRow b1 e size v n xs := by
  refine ⟨h.1, ?_⟩
  rcases h.2 with h2 | ⟨g, cap, cur, h1, h2, h3⟩
  · exact .inl h2
  · exact .inr ⟨g, cap, cur, h1, Nat.le_trans hb h2, h3⟩

theorem maxlen_below {w w' : World} {g : Nat} (h : ∃ m, w.cell? ⟨g, 0, none⟩ = some (.int .i64 m)) (hg : g < w.heap.size) (hb : Below w.heap.size w w') : ∃ m, w'.cell? ⟨g, 0, none⟩ = some (.int .i64 m) := by
  obtain ⟨m, hm⟩ := h
  exact ⟨m, (hb.cell (p := ⟨g, 0, none⟩) hg).trans hm⟩

end Go.Proofs.YtpkdpchlfabhlaaDoor
