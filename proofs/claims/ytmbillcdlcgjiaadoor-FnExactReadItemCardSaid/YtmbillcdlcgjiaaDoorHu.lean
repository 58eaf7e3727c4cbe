/- Reading an item: plain facts. -/
import Derived.Test.YtmbillcdlcgjiaaDoorHv
import Derived.Test.YtmbillcdlcgjiaaDoorReadList
import Derived.Test.YtmbillcdlcgjiaaDoorCutN
namespace Go.Proofs.YtmbillcdlcgjiaaDoor
open Go.ChangeShapes Go.WideShapes Go.ChangeAt Go.RowKit
set_option linter.unusedVariables false
set_option linter.unusedSimpArgs false
set_option maxRecDepth 100000

theorem dec_no32H (u : Nat) : (32 : UInt8) ∉ Lib.decDigits u := fun h => by
  have := List.all_eq_true.1 (dec_digits u).1 _ h
  simp [isD] at this
theorem num_no32H {l : List UInt8} {v : Int} (h : numZ l = some v) : (32 : UInt8) ∉ l := by
  obtain ⟨rfl, _⟩ := num_some l v h
  intro hm
  by_cases hv : v < 0
  · rw [itoa_neg' v hv] at hm
    rcases List.mem_cons.1 hm with h | h
    · cases h
    · exact dec_no32H _ h
  · rw [itoa_pos' v (by omega)] at hm
    exact dec_no32H _ hm
theorem mem_cut {c x : UInt8} (hx : x ≠ c) : ∀ {l : List UInt8}, x ∈ l → ∃ p ∈ cutL c l, x ∈ p
  | [], h => by cases h
  | b :: r, h => by
    unfold cutL
    split
    · rename_i e
      rcases List.mem_cons.1 h with h | h
      · exact absurd (h.trans e) hx
      · obtain ⟨p, hp, hm⟩ := mem_cut hx h
        exact ⟨p, by simp [hp], hm⟩
    · obtain ⟨q, qs, hq⟩ := cut_ne c r
      rw [hq]
      rcases List.mem_cons.1 h with h | h
      · exact ⟨b :: q, by simp, by simp [h]⟩
      · obtain ⟨p, hp, hm⟩ := mem_cut hx h
        rw [hq] at hp
        rcases List.mem_cons.1 hp with rfl | hp
        · exact ⟨b :: p, by simp, by simp [hm]⟩
        · exact ⟨p, by simp [hp], hm⟩
theorem readP_all {ps : List (List UInt8)} {vs : List Int} (h : readP ps = some vs) : ∀ p ∈ ps, ∃ v, numZ p = some v := by
  induction ps generalizing vs with
  | nil => intro p hp; cases hp
  | cons q r ih =>
    intro p hp
    unfold readP at h
    cases e : okv q with
    | none => rw [e] at h; cases h
    | some v =>
      rw [e] at h
      cases e2 : readP r with
      | none => rw [e2] at h; cases h
      | some ws =>
        rcases List.mem_cons.1 hp with rfl | hp
        · unfold okv at e
          cases e3 : numZ p with
          | none => rw [e3] at e; cases e
          | some u => exact ⟨u, rfl⟩
        · exact ih e2 p hp
theorem readL_no32 {r : List UInt8} {zs : List Int} (h : readL r = some zs) : (32 : UInt8) ∉ r := by
  intro hm
  unfold readL at h
  split at h
  · rename_i e; subst e; simp at hm
  · split at h
    · cases h
    · obtain ⟨p, hp, h32⟩ := mem_cut (c := 44) (by decide) hm
      obtain ⟨v, hv⟩ := readP_all h p hp
      exact num_no32H hv h32
def itZ (nm : List UInt8) (zs : List Int) : It := ⟨⟨nm.toArray⟩, zs.getD 0 0, zs.getD 1 0, zs.getD 2 0, zs.getD 3 0, zs.getD 4 0⟩
/-- an item with a name and numbers -/
def rdI (nm rest : List UInt8) : Option It :=
  match readL rest with
  | none => none
  | some zs => if zs.length = 5 then (if itB (itZ nm zs) = true then some (itZ nm zs) else none) else none
def readI (l : List UInt8) : Option It := rdI (Lib.cut l [32]).1 (Lib.cut l [32]).2.1
theorem rdI_none {nm rest : List UInt8} (h : readL rest = none) : rdI nm rest = none := by unfold rdI; rw [h]
theorem readI_cut (l : List UInt8) : readI l = if (cutL 32 l).length = 2 then rdI ((cutL 32 l).getD 0 []) ((cutL 32 l).getD 1 []) else none := by
  unfold readI
  rcases byte_cases l 32 with h | ⟨i, h⟩
  · have hc : Lib.cut l [32] = (l, [], false) := by
      unfold Lib.cut
      rw [Lib.index_one, h]
      rfl
    rw [cut_index_no 32 l h, hc]
    simp only [List.length_cons, List.length_nil]
    rw [if_neg (by decide)]
    exact rdI_none (by decide)
  · have hc : Lib.cut l [32] = (l.take i, l.drop (i + 1), true) := by
      unfold Lib.cut
      rw [Lib.index_one, h, if_pos (by omega)]
      simp
    rw [cut_index_at 32 l i h, hc]
    rcases byte_cases (l.drop (i + 1)) 32 with h2 | ⟨j, h2⟩
    · rw [cut_index_no 32 _ h2, if_pos (by simp)]
      rfl
    · obtain ⟨q, qs, hq⟩ := cut_ne 32 ((l.drop (i + 1)).drop (j + 1))
      rw [cut_index_at 32 _ j h2, hq, if_neg (by simp)]
      refine rdI_none ?_
      cases e : readL (l.drop (i + 1)) with
      | none => rfl
      | some zs =>
        have hg := (Lib.indexByte_some h2).1
        exact absurd (List.mem_of_getElem? hg) (readL_no32 e)
/-- what a reading hands back -/
def rdV (o : Option It) : Value := itV (o.getD it0)
end Go.Proofs.YtmbillcdlcgjiaaDoor
