/- ReadPhrases: the model's outer function; the program. -/
import Derived.Test.YtgkdonnkiljplaaDoorPy
import Derived.Test.YtgkdonnkiljplaaDoorRl
namespace Go.Proofs.YtgkdonnkiljplaaDoor
open Go.ChangeShapes Go.WideShapes Go.ChangeAt Go.RowKit
set_option linter.unusedVariables false
set_option linter.unusedSimpArgs false
set_option maxRecDepth 100000

theorem spec_readphrases (s : ByteArray) (w : World) (hs : s.size ≤ 1048576) : Calls Tryd.prog 4 #[.string s] w (RowsOut (readPh s.data.toList) w) := by
  have hq := spec_l06read s w hs
  generalize readPh s.data.toList = o at *
  go_enter Tryd.func4, Tryd.ntmps4
  go_wp2_with (fail)
  refine hq.mono ?_
  rintro r w1 ho
  obtain ⟨v, V, rfl, h1, h2⟩ := ro_parts ho
  obtain ⟨A, c, rfl⟩ := own_len h1.out
  clear ho
  have H1 := Bx.mk h1
  clear h1
  go_wp2_with (fail)
  go_returns
  exact ⟨_, V, rfl, H1.out, h2⟩
theorem rr_lens (ps : List (List UInt8)) : ∀ L, readRows ps = some L → ∀ i, i < L.length → (L.getD i []).length ≤ 64 := by
  induction ps with
  | nil =>
    intro L h i hi
    simp [readRows] at h
    subst h
    simp at hi
  | cons p r ih =>
    intro L h i hi
    unfold readRows at h
    cases hz : readL p with
    | none => rw [hz] at h; simp at h
    | some zs =>
      rw [hz] at h
      cases hr : readRows r with
      | none => rw [hr] at h; simp at h
      | some M =>
        rw [hr] at h
        simp at h
        subst h
        have hl := readL_len p
        rw [hz] at hl
        cases i with
        | zero => simpa using hl
        | succ i =>
          have := ih M hr i (by simpa using hi)
          simpa using this
/-- reading few lists that are phrases is reading phrases -/
theorem readPh_few {l : List UInt8} (h : l ≠ []) : readPh l = match readLs 12 l with
    | some L => if phsB L = true then some L else none
    | none => none := by
  unfold readPh
  rw [if_neg h]
  unfold readLs fewOf phsOf
  cases hr : readRows (cutL 59 l) with
  | none => rfl
  | some L =>
    by_cases hl : L.length ≤ 12
    · simp [hl]
    · have : phsB L = false := by
        unfold phsB
        rw [decide_eq_false hl]; rfl
      simp [hl, this]
theorem readLs_lens {l : List UInt8} {L : List (List Int)} (h : readLs 12 l = some L) : L.length ≤ 12 ∧ ∀ i, i < L.length → (L.getD i []).length ≤ 64 := by
  unfold readLs fewOf at h
  cases hr : readRows (cutL 59 l) with
  | none => rw [hr] at h; simp at h
  | some M =>
    rw [hr] at h
    by_cases hl : M.length ≤ 12
    · simp [hl] at h
      subst h
      exact ⟨hl, rr_lens _ M hr⟩
    · simp [hl] at h
set_option maxHeartbeats 4000000 in
theorem impl_readphrases (s : ByteArray) (w : World) (hs : s.size ≤ 1048576) (hv : Bx (Vars w)) (hm : Bx (∃ m, w.cell? ⟨0, 0, none⟩ = some (.int .i64 m))) (hgm : 0 < w.heap.size) :
    Calls Tryd.prog 5 #[.string s] w (RowsOut (readPh s.data.toList) w) := by
  by_cases h1 : s.data.toList = []
  · have HR : Bx (readPh s.data.toList = some []) := Bx.mk (by unfold readPh; rw [if_pos h1])
    have hE : (s.toList == []) = true := by rw [ByteArray.toList_eq, h1]; rfl
    have hE2 : s.toList = [] := by rw [ByteArray.toList_eq, h1]
    clear h1
    go_enter Tryd.func5, Tryd.ntmps5
    go_wp2_with (fail)
    go_returns
    exact ro_some (V := fun _ => .bool false) HR.out (RowsOwn.nil _ _ _) (Below.refl _ _)
  · have HR := Bx.mk (readPh_few h1)
    have hE : (s.toList == []) = false := by rw [ByteArray.toList_eq]; simpa using h1
    have hE2 : ¬ s.toList = [] := by rw [ByteArray.toList_eq]; exact h1
    have hE3 : s.toList.isEmpty = false := by cases h : s.toList with
      | nil => exact absurd h hE2
      | cons a b => rfl
    have hq := impl_readlists s 12 w hs (by decide) hv hm hgm
    rw [show ((12 : Nat) : Int) = 12 from rfl] at hq
    generalize readPh s.data.toList = o at HR ⊢
    cases hz : readLs 12 s.data.toList with
    | none =>
      have HN : Bx (o = none) := Bx.mk (by rw [HR.out, hz])
      rw [hz] at hq
      clear hz h1 HR
      go_enter Tryd.func5, Tryd.ntmps5
      go_wp2_with (fail)
      refine hq.mono ?_
      rintro r w1 ho
      obtain ⟨v, V, rfl, ho1, hb⟩ := ro_parts ho
      have HB := Bx.mk hb
      obtain ⟨A, c, rfl⟩ := own_len ho1.out
      clear ho ho1 hb
      simp only [Option.isSome_none, Option.getD_none]
      go_wp2_with (fail)
      go_returns
      exact ro_none HN.out HB.out
    | some L =>
      have hlen := readLs_lens hz
      have HRL : Bx (o = if phsB L = true then some L else none) := Bx.mk (by rw [HR.out, hz])
      rw [hz] at hq
      clear hz h1 HR
      go_enter Tryd.func5, Tryd.ntmps5
      go_wp2_with (fail)
      refine hq.mono ?_
      rintro r w1 ho
      obtain ⟨v, V, rfl, ho1, hb⟩ := ro_parts ho
      have HB := Bx.mk hb
      simp only [Option.isSome_some, Option.getD_some] at ho1 ⊢
      have HO := Bx.mk ho1
      have hp := impl_validphrasesW _ L w1 ho1.at (by omega) (fun i hi => Nat.le_trans (hlen.2 i hi) (by decide))
      obtain ⟨A, c, rfl⟩ := own_len ho1.out
      clear ho ho1 hb hlen hq
      cases hpb : phsB L
      · have HE : Bx (o = none) := Bx.mk (by rw [HRL.out, hpb]; rfl)
        rw [hpb] at hp
        clear hpb HRL
        go_wp2_with (fail)
        refine hp.mono ?_
        rintro r w5 ⟨rfl, n, rfl⟩
        go_wp2_with (fail)
        go_returns
        exact ro_none HE.out (below_draws HB.out n)
      · have HE : Bx (o = some L) := Bx.mk (by rw [HRL.out, hpb]; rfl)
        rw [hpb] at hp
        clear hpb HRL
        go_wp2_with (fail)
        refine hp.mono ?_
        rintro r w5 ⟨rfl, n, rfl⟩
        go_wp2_with (fail)
        go_returns
        exact ro_some HE.out (RowsOwn.below HO.out (below_draws (Below.refl _ _) n)) (below_draws HB.out n)
end Go.Proofs.YtgkdonnkiljplaaDoor
