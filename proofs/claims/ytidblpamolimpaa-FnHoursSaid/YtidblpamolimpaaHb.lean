/- The laws' own functions over items: sizes, equality, copies. -/
import Derived.Test.YtidblpamolimpaaHa
import Derived.Deep.RegionHeld3
namespace Go.Proofs.Ytidblpamolimpaa
open Go.ChangeShapes Go.WideShapes Go.ChangeAt Go.RowKit
set_option linter.unusedVariables false
set_option linter.unusedSimpArgs false
set_option maxRecDepth 100000

/-- lengths that a program may reckon with; numbers of 64 bits -/
structure SmI (l : List It) : Prop where
  n : l.length ≤ 1048576
  x : ∀ k, k < l.length → WfI (iat l k)
theorem strne (s : ByteArray) : (!s.toList == s.toList) = false := by simp
theorem keepI {w W W' : World} {b1 b2 y1 y2 : Nat} {x : It} (h : W.cell? ⟨b1, y1, none⟩ = some (.string x.nm) ∧ W.cell? ⟨b1, y1 + 1, none⟩ = some (.int .i64 x.f) ∧ W.cell? ⟨b1, y1 + 2, none⟩ = some (.int .i64 x.u) ∧ W.cell? ⟨b1, y1 + 3, none⟩ = some (.int .i64 x.s) ∧ W.cell? ⟨b1, y1 + 4, none⟩ = some (.int .i64 x.m) ∧ W.cell? ⟨b1, y1 + 5, none⟩ = some (.int .i64 x.p) ∧ W.cell? ⟨b2, y2, none⟩ = some (.string x.nm) ∧ W.cell? ⟨b2, y2 + 1, none⟩ = some (.int .i64 x.f) ∧ W.cell? ⟨b2, y2 + 2, none⟩ = some (.int .i64 x.u) ∧ W.cell? ⟨b2, y2 + 3, none⟩ = some (.int .i64 x.s) ∧ W.cell? ⟨b2, y2 + 4, none⟩ = some (.int .i64 x.m) ∧ W.cell? ⟨b2, y2 + 5, none⟩ = some (.int .i64 x.p) ∧ b1 < W.heap.size ∧ b2 < W.heap.size ∧ Below w.heap.size w W) (hb : Below W.heap.size W W') :
    W'.cell? ⟨b1, y1, none⟩ = some (.string x.nm) ∧ W'.cell? ⟨b1, y1 + 1, none⟩ = some (.int .i64 x.f) ∧ W'.cell? ⟨b1, y1 + 2, none⟩ = some (.int .i64 x.u) ∧ W'.cell? ⟨b1, y1 + 3, none⟩ = some (.int .i64 x.s) ∧ W'.cell? ⟨b1, y1 + 4, none⟩ = some (.int .i64 x.m) ∧ W'.cell? ⟨b1, y1 + 5, none⟩ = some (.int .i64 x.p) ∧ W'.cell? ⟨b2, y2, none⟩ = some (.string x.nm) ∧ W'.cell? ⟨b2, y2 + 1, none⟩ = some (.int .i64 x.f) ∧ W'.cell? ⟨b2, y2 + 2, none⟩ = some (.int .i64 x.u) ∧ W'.cell? ⟨b2, y2 + 3, none⟩ = some (.int .i64 x.s) ∧ W'.cell? ⟨b2, y2 + 4, none⟩ = some (.int .i64 x.m) ∧ W'.cell? ⟨b2, y2 + 5, none⟩ = some (.int .i64 x.p) ∧ b1 < W'.heap.size ∧ b2 < W'.heap.size ∧ Below w.heap.size w W' := by
  obtain ⟨h0, h1, h2, h3, h4, h5, h6, h7, h8, h9, h10, h11, l1, l2, l3⟩ := h
  have hs := hb.size
  exact ⟨(hb.cell (p := ⟨b1, y1, none⟩) l1).trans h0, (hb.cell (p := ⟨b1, y1 + 1, none⟩) l1).trans h1, (hb.cell (p := ⟨b1, y1 + 2, none⟩) l1).trans h2, (hb.cell (p := ⟨b1, y1 + 3, none⟩) l1).trans h3, (hb.cell (p := ⟨b1, y1 + 4, none⟩) l1).trans h4, (hb.cell (p := ⟨b1, y1 + 5, none⟩) l1).trans h5, (hb.cell (p := ⟨b2, y2, none⟩) l2).trans h6, (hb.cell (p := ⟨b2, y2 + 1, none⟩) l2).trans h7, (hb.cell (p := ⟨b2, y2 + 2, none⟩) l2).trans h8, (hb.cell (p := ⟨b2, y2 + 3, none⟩) l2).trans h9, (hb.cell (p := ⟨b2, y2 + 4, none⟩) l2).trans h10, (hb.cell (p := ⟨b2, y2 + 5, none⟩) l2).trans h11, by omega, by omega, l3.trans (hb.mono l3.size)⟩
end Go.Proofs.Ytidblpamolimpaa
