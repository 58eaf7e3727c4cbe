/- A tuning that came in. -/
import Derived.Test.YtjjiibmbaggjoaaTu
namespace Go.Proofs.Ytjjiibmbaggjoaa
open Go.ChangeShapes Go.WideShapes Go.ChangeAt Go.RowKit
set_option linter.unusedVariables false
set_option linter.unusedSimpArgs false
set_option maxRecDepth 100000

theorem cells_rat : Try.prog.cellsOf 55 = 2 := by kernel_rfl
theorem cells_i64t : Try.prog.cellsOf 2 = 1 := by kernel_rfl
set_option maxRecDepth 100000 in
theorem arg_tun {H : Type} {enc : TypeId × Value → H} {W : World} {b0 : Nat} {v : Value} {d : DataW H} {p : List MemPlace} (hval : Value.okWide Try.prog W .any b0 53 v)
    (h : DataW.Trod enc Try.prog W 0 (fun _ => true) true 53 v d p) (hlt : ∀ x ∈ p, x.block < W.heap.size) :
    ∃ (s : ByteArray) (u : Value) (l : List (Int × Int)), v = tun s u ∧ PrsAt W u l ∧ s.size ≤ maxLen ∧ l.length ≤ 9223372036854775807 := by
  obtain ⟨c0, c1, y0, y1, m, rfl, rfl, rfl, hy0, hy1⟩ := Go.Joins.open_agg2 Try.underlying53 (by kernel_rfl) (by kernel_rfl) hval h
  obtain ⟨s, e0, rfl, ws⟩ := DataW.trod_string Try.underlying9 hy0
  simp at e0
  subst e0
  rcases Go.Deep.open_slice_pairs Try.underlying51 Try.underlying55 cells_rat rfl rfl cells_i64t cells_i64t hy1 with ⟨hcs, hx⟩ | ⟨a, len, cap, mm, n, V0, V1, D0, D1, P0, P1, hcs, hba, hl, hm, hmm, hx, hcell⟩
  · simp at hcs
    subst hcs
    exact ⟨s, _, [], rfl, .inl ⟨rfl, none, 0, rfl⟩, ws, by simp⟩
  · simp at hcs
    subst hcs
    have hml : mm = cap := by simpa using hmm
    have hval1 : ∀ i, i < len → ∃ a b : Int, V0 i = .int .i64 a ∧ V1 i = .int .i64 b := fun i hi => by
      obtain ⟨h1, h2, h3, h4⟩ := hcell i (by omega)
      obtain ⟨a, e0, _, _⟩ := DataW.trod_int Try.underlying2 h3
      obtain ⟨b, e1, _, _⟩ := DataW.trod_int Try.underlying2 h4
      simp at e0 e1
      exact ⟨a, b, e0, e1⟩
    by_cases hl0 : len = 0
    · subst hl0
      exact ⟨s, _, [], rfl, .inl ⟨rfl, _, _, rfl⟩, ws, by simp⟩
    · have hc0 := hcell 0 (by omega)
      obtain ⟨b, off, spot⟩ := a
      have hspot : spot = none := by simpa [Addr.add] using World.cell?_spot hc0.1
      subst hspot
      have hb : b < W.heap.size := by
        have := hc0.1
        rcases Nat.lt_or_ge b W.heap.size with h | h
        · exact h
        · simp [World.cell?, Addr.add, Array.getElem?_eq_none h] at this
      let num : Value → Int := fun v => match v with | .int _ x => x | _ => 0
      let l := (List.range len).map fun i => (num (V0 i), num (V1 i))
      have hll : l.length = len := by simp [l]
      refine ⟨s, _, l, rfl, .inr ⟨b, off, cap, by rw [hll], hb, fun k hk => ?_⟩, ws, by rw [hll]; unfold maxLen at hm; omega⟩
      rw [hll] at hk
      obtain ⟨h1, h2, _, _⟩ := hcell k (by omega)
      obtain ⟨a, b', e0, e1⟩ := hval1 k hk
      have hp : pat l k = (a, b') := by simp [pat, l, hk, e0, e1, num]
      rw [hp, ← e0, ← e1]
      rw [show (⟨b, off, none⟩ : Addr).add (k * 2) = ⟨b, off + k * 2, none⟩ by unfold Addr.add; split <;> simp_all] at h1
      rw [show (⟨b, off, none⟩ : Addr).add (k * 2 + 1) = ⟨b, off + k * 2 + 1, none⟩ by unfold Addr.add; split <;> simp_all [Nat.add_assoc]] at h2
      exact ⟨h1, h2⟩
end Go.Proofs.Ytjjiibmbaggjoaa
