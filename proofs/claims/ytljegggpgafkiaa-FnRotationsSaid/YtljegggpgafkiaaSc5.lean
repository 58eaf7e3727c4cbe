/- Scales: lists that are made, by the model. -/
import Derived.Test.YtljegggpgafkiaaSc4
import Derived.Test.YtljegggpgafkiaaSplit
import Derived.Deep.RegionHeld3
import Derived.Deep.AppendLies
namespace Go.Proofs.Ytljegggpgafkiaa
open Go.ChangeShapes Go.WideShapes Go.ChangeAt Go.RowKit
set_option linter.unusedVariables false
set_option linter.unusedSimpArgs false
set_option maxRecDepth 100000

/-- a new list and a code -/
def LCOut (t : List Int × Int) (w : World) (e : Ending) (w' : World) : Prop :=
  ∃ v, e = .returned (.tuple #[v, .int .i64 t.2]) ∧ w'.ownsRow w.heap.size 2 1 v t.1.length (ints t.1) ∧ Below w.heap.size w w'
theorem lc_nil {t : List Int × Int} {w w' : World} {c : Int} (h : t = ([], c)) (hb : Below w.heap.size w w') : LCOut t w (.returned (.tuple #[.slice none 0 0, .int .i64 c])) w' :=
  ⟨_, by rw [h], by rw [h]; exact World.ownsRow_nil _ _ _ _, hb⟩
theorem lc_some {t : List Int × Int} {w w' : World} {v : Value} {vs : List Int} (h : t = (vs, 0)) (ho : w'.ownsRow w.heap.size 2 1 v vs.length (ints vs)) (hb : Below w.heap.size w w') :
    LCOut t w (.returned (.tuple #[v, .int .i64 0])) w' := ⟨_, by rw [h], by rw [h]; exact ho, hb⟩
def NewRow (vs : List Int) (w : World) (e : Ending) (w' : World) : Prop := ∃ v, e = .returned v ∧ w'.ownsRow w.heap.size 2 1 v vs.length (ints vs) ∧ Below w.heap.size w w'
theorem newrow_parts {vs : List Int} {w : World} {e : Ending} {w' : World} (h : NewRow vs w e w') : ∃ v, e = .returned v ∧ w'.ownsRow w.heap.size 2 1 v vs.length (ints vs) ∧ Below w.heap.size w w' := h
theorem ints_snoc' (vs : List Int) (v : Int) : ints (vs ++ [v]) = ints vs ++ [.int .i64 v] := by simp [ints]
theorem own_far {w : World} {base e size n b : Nat} {v : Value} {xs : List Value} (h : w.ownsRow base e size v n xs) (hb : b < base) : v.ownBlock ≠ some b := by
  rcases h.2 with ⟨rfl, _⟩ | ⟨g, cap, cur, rfl, hg, _⟩
  · simp [Value.ownBlock]
  · simp [Value.ownBlock]; omega
/-- the scale that begins with another tone, its first tones -/
def rotL (zs : List Int) (k : Nat) (j : Nat) : List Int := (List.range j).map fun i => (zs.getD ((k + i) % zs.length) 0 - zs.getD k 0) % 12
theorem rotL_succ (zs : List Int) (k j : Nat) : rotL zs k (j + 1) = rotL zs k j ++ [(zs.getD ((k + j) % zs.length) 0 - zs.getD k 0) % 12] := by simp [rotL, List.range_succ]
theorem rotL_len (zs : List Int) (k j : Nat) : (rotL zs k j).length = j := by simp [rotL]
set_option maxHeartbeats 2000000 in
theorem spec_rotate (v : Value) (zs : List Int) (k : Nat) (w : World) (h : IntsAt w v zs) (hs : scaleB zs = true) (hk : k < zs.length) :
    Calls Try.prog 46 #[v, .int .i64 k] w (NewRow (rotL zs k zs.length) w) := by
  obtain ⟨i0, hi, hz0, hz1, hz2⟩ := info_parts infoI64
  obtain ⟨⟨l1, l2⟩, _, _⟩ := scale_yes hs
  obtain ⟨b, o, c, rfl, hb, hc⟩ := h.form (by omega)
  have HC := Bx.mk hc
  have HR := Bx.mk (scale_in hs)
  clear h hc hs
  go_enter Try.func46, Try.ntmps46
  go_wp2_with (fail)
  go_loopw [5, 7] (fun v i wr => ∃ j : Nat, j ≤ zs.length ∧ i = .int .i64 j ∧ wr.ownsRow w.heap.size 2 1 v (rotL zs k j).length (ints (rotL zs k j)) ∧ Below w.heap.size w wr) (fun _ i _ => zs.length - (intOf i).toNat)
  case atStart => exact ⟨0, Nat.zero_le _, rfl, World.ownsRow_lit _ _ _ (Nat.le_refl _) (by decide) (by decide), (Below.refl _ _).alloc (Nat.le_refl _) _⟩
  case round =>
    obtain ⟨j, hj, rfl, hown, hbw⟩ := hrel
    have hsz := hbw.size
    by_cases hlt : j < zs.length
    · have hm : (k + j) % zs.length < zs.length := Nat.mod_lt _ (by omega)
      have h1 : wr.cell? ⟨b, o + (k + j) % zs.length, none⟩ = some (.int .i64 (zs.getD ((k + j) % zs.length) 0)) := (hbw.cell (p := ⟨b, o + (k + j) % zs.length, none⟩) hb).trans (HC.out _ hm)
      have h2 : wr.cell? ⟨b, o + k, none⟩ = some (.int .i64 (zs.getD k 0)) := (hbw.cell (p := ⟨b, o + k, none⟩) hb).trans (HC.out _ hk)
      have HS := Bx.mk (rotL_succ zs k j)
      obtain ⟨r1, r2⟩ := HR.out _ hm
      obtain ⟨r3, r4⟩ := HR.out _ hk
      have hll := rotL_len zs k j
      have HT := fun W => spec_tone (zs.getD ((k + j) % zs.length) 0 - zs.getD k 0) W
      have E1 : IntKind.i64.wrap ((k : Int) + j) = (k : Int) + j := IntWalk.i64_in _ (by omega)
      have E3 : ((k : Int) + j) % (zs.length : Int) = (((k + j) % zs.length : Nat) : Int) := by push_cast; rfl
      have z0 : ((zs.length : Int) == 0) = false := beq_eq_false_iff_ne.2 (by omega)
      generalize zs.getD ((k + j) % zs.length) 0 = y at *
      generalize zs.getD k 0 = x at *
      have E2 : IntKind.i64.wrap (y - x) = y - x := IntWalk.i64_in _ (by omega)
      clear HC HR r1 r2 r3 r4
      go_wp2_with (fail)
      have og := own_far hown hb
      have hnn : w.heap.size ≤ wr.heap.size := hsz
      clear E3
      have E3 : ((k : Int) + j).tmod (zs.length : Int) = (((k + j) % zs.length : Nat) : Int) := by rw [Int.tmod_eq_emod_of_nonneg (by omega)]; push_cast; rfl
      generalize (k + j) % zs.length = m at *
      have E5 : IntKind.i64.wrap (m : Int) = (m : Int) := IntWalk.i64_in _ (by omega)
      have m0 : (0 : Int) ≤ (m : Int) := Int.natCast_nonneg _
      have m1 : (m : Int) < (zs.length : Int) := by omega
      have k0 : (0 : Int) ≤ (k : Int) := Int.natCast_nonneg _
      have k1 : (k : Int) < (zs.length : Int) := by omega
      have z1 : ¬ ((zs.length : Int) = 0) := by omega
      have z2 : ¬ (zs.length = 0) := by omega
      have z3 : ¬ (zs = []) := by rintro rfl; simp at l1
      have z4 : (zs.length == 0) = false := by simpa using z2
      have z5 : (decide (zs = [])) = false := by simpa using z3
      go_region_held3 (fun W => W.cell? ⟨b, o + m, none⟩ = some (.int .i64 y) ∧ W.cell? ⟨b, o + k, none⟩ = some (.int .i64 x))
        (first
          | go_keep
          | (go_split_ands
             refine ⟨?_, ?_⟩
             · (rw [hgrow.cell_far ⟨b, o + m, none⟩ (by simp; omega) (Ne.symm og)]; assumption)
             · (rw [hgrow.cell_far ⟨b, o + k, none⟩ (by simp; omega) (Ne.symm og)]; assumption)))
        (first
          | (go_at_call 55; refine (HT _).mono ?_; rintro e w4 ⟨rfl, rfl⟩)
          | (refine step_append_lies _ (by rfl) _ _ _ (by rfl) w.heap.size 2 i0 _ 1 8 Try.underlying24 hi hz0 hz1 hz2 rfl (by omega) _ _ _ (by rfl) ((hown.alloc _).drew) ⟨wr.heap.size, 0, none⟩ 1 1 [.int .i64 ((y - x) % 12)] (by rfl) (by rfl) (World.news_of_block (cs := #[.int .i64 ((y - x) % 12)]) (t := 2) (fr := (0, 0)) (heap_alloc_new wr _)) (by simp [Value.oneCell']) (by omega) (by unfold maxLen; omega) (by omega) (by simp; omega) (wr.heap.size + 1) (by simp) ?_; intro gg cap w1 hown1 hgrow hat hlt1))
      have hb2 : Below w.heap.size w w1 := ((hbw.alloc hsz _).drew).grown hgrow (by simp; omega) (own_ge' hown)
      have hown2 : w1.ownsRow w.heap.size 2 1 (.slice (some ⟨gg, 0, none⟩) (j + 1) cap) (rotL zs k (j + 1)).length (ints (rotL zs k (j + 1))) := by
        rw [HS.out, ints_snoc', List.length_append]; rw [hll] at hown1 ⊢; exact hown1
      clear hown1 hgrow hown og h1 h2 hat
      go_wp2_with (fail)
      go_roundw
      case rel => exact ⟨j + 1, by omega, by go_num, hown2, hb2⟩
      case measure => simp [intOf]; omega
    · obtain rfl : j = zs.length := by omega
      go_wp2_with (fail)
      go_ret
      exact ⟨_, rfl, hown, hbw⟩
end Go.Proofs.Ytljegggpgafkiaa
