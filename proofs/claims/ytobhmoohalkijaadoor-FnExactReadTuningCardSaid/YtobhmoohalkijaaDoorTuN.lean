/- Plain facts: the reading and the text of a tuning. -/
import Derived.Test.YtobhmoohalkijaaDoorTuP
import Derived.Test.YtobhmoohalkijaaDoorCutN
import Derived.Test.YtobhmoohalkijaaDoorRatRM
namespace Go.Proofs.YtobhmoohalkijaaDoor
open Go.ChangeShapes Go.WideShapes Go.ChangeAt Go.RowKit
set_option linter.unusedVariables false
set_option linter.unusedSimpArgs false
set_option maxRecDepth 100000

/-- pieces as ratios -/
def ratsL (ps : List (List UInt8)) : List (Int × Int) := ps.map fun p => ((readRE p).1, (readRE p).2.1)
def ratsOk (ps : List (List UInt8)) : Bool := ps.all fun p => (readRE p).2.2
theorem ratsL_len (ps : List (List UInt8)) : (ratsL ps).length = ps.length := by simp [ratsL]
def tuOf (nm : List UInt8) (ps : List (List UInt8)) : Option (List UInt8 × List (Int × Int)) := if (ratsOk ps && tunB nm (ratsL ps)) = true then some (nm, ratsL ps) else none
/-- the reading of a tuning -/
def readTu (l : List UInt8) : Option (List UInt8 × List (Int × Int)) := match cutL 32 l with
  | nm :: ps => tuOf nm ps
  | [] => none
theorem tuOf_bad {nm : List UInt8} {ps : List (List UInt8)} (h : ratsOk ps = false) : tuOf nm ps = none := by simp [tuOf, h]
theorem tuOf_len {nm : List UInt8} {ps : List (List UInt8)} (h : ps.length ≠ 12) : tuOf nm ps = none := by
  unfold tuOf
  rw [if_neg]
  intro hc
  rw [Bool.and_eq_true] at hc
  exact h (by have := (tun_yes hc.2).2.1; rwa [ratsL_len] at this)
theorem dec_no32 (u : Nat) : (32 : UInt8) ∉ Lib.decDigits u := fun h => by
  have := List.all_eq_true.1 (dec_digits u).1 _ h
  simp [isD] at this
theorem num_no32 {l : List UInt8} {v : Int} (h : numZ l = some v) : (32 : UInt8) ∉ l := by
  obtain ⟨rfl, _⟩ := num_some l v h
  intro hm
  by_cases hv : v < 0
  · rw [itoa_neg' v hv] at hm
    rcases List.mem_cons.1 hm with h | h
    · cases h
    · exact dec_no32 _ h
  · rw [itoa_pos' v (by omega)] at hm
    exact dec_no32 _ hm
theorem read_no32 {p : List UInt8} (h : (32 : UInt8) ∈ p) : (readRE p).2.2 = false := by
  unfold readRE pairE
  split
  · rename_i hc
    simp only [Bool.and_eq_true] at hc
    obtain ⟨h1, h2, h3⟩ := hc
    obtain ⟨a, ha⟩ := Option.isSome_iff_exists.1 h1
    obtain ⟨b, hb⟩ := Option.isSome_iff_exists.1 h2
    rcases byte_cases p 47 with h0 | ⟨i, hi⟩
    · unfold Lib.cut at hb
      rw [Lib.index_one, h0] at hb
      simp [num_nil] at hb
    · have hc : Lib.cut p [47] = (p.take i, p.drop (i + 1), true) := by
        unfold Lib.cut
        rw [Lib.index_one, hi, if_pos (by omega)]
        simp
      rw [hc] at ha hb
      have hg := (Lib.indexByte_some hi).1
      have e : p = p.take i ++ 47 :: p.drop (i + 1) := by
        obtain ⟨h1, h2⟩ := List.getElem?_eq_some_iff.1 hg
        rw [← h2, ← List.drop_eq_getElem_cons h1, List.take_append_drop]
      rw [e] at h
      rcases List.mem_append.1 h with h | h
      · exact absurd h (num_no32 ha)
      · rcases List.mem_cons.1 h with h | h
        · cases h
        · exact absurd h (num_no32 hb)
  · rfl
theorem readTu_cut (l : List UInt8) : readTu l = tuOf (Lib.cut l [32]).1 (cutN 32 12 (Lib.cut l [32]).2.1) := by
  unfold readTu
  rcases byte_cases l 32 with h | ⟨i, h⟩
  · have hc : Lib.cut l [32] = (l, [], false) := by
      unfold Lib.cut
      rw [Lib.index_one, h]
      rfl
    rw [cut_index_no 32 l h, hc]
    show tuOf l [] = tuOf l (cutN 32 12 [])
    rw [cutN_none 32 12 [] (by rfl), tuOf_len (by simp), tuOf_len (by simp)]
  · have hc : Lib.cut l [32] = (l.take i, l.drop (i + 1), true) := by
      unfold Lib.cut
      rw [Lib.index_one, h, if_pos (by omega)]
      simp
    rw [hc, cut_index_at 32 l i h]
    show tuOf (l.take i) (cutL 32 (l.drop (i + 1))) = tuOf (l.take i) (cutN 32 12 (l.drop (i + 1)))
    rcases cutN_ways 32 12 (l.drop (i + 1)) with ⟨h1, h2⟩ | ⟨h1, h2, p, hp, hm⟩
    · simp only [h1]
    · rw [tuOf_len (by omega), tuOf_bad]
      unfold ratsOk
      apply Bool.eq_false_iff.2
      intro ha
      have := List.all_eq_true.1 ha p hp
      rw [read_no32 hm] at this
      cases this
/-- a tuning as text -/
def ratsT (l : List (Int × Int)) : List UInt8 := (l.map fun p => 32 :: ratT p.1 p.2).flatten
def tunT (s : List UInt8) (l : List (Int × Int)) : List UInt8 := s ++ ratsT l
def tunTE (s : List UInt8) (l : List (Int × Int)) : List UInt8 := if tunB s l = true then tunT s l else []
theorem ratsT_snoc (l : List (Int × Int)) (p : Int × Int) : ratsT (l ++ [p]) = ratsT l ++ 32 :: ratT p.1 p.2 := by simp [ratsT]
end Go.Proofs.YtobhmoohalkijaaDoor
