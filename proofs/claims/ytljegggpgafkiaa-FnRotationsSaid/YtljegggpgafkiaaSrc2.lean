/- The model's choices out of bytes: one and among. -/
import Derived.Test.YtljegggpgafkiaaSrc
namespace Go.Proofs.Ytljegggpgafkiaa
open Go.ChangeShapes Go.WideShapes Go.ChangeAt Go.RowKit
set_option linter.unusedVariables false
set_option linter.unusedSimpArgs false
set_option maxRecDepth 100000

def OneOut (g T : Nat) (w : World) (e : Ending) (w' : World) : Prop := ∃ b : Bool, e = .returned (.bool b) ∧ Src w' g (T + 2) ∧ w.grownBy w' (some g)
theorem one_parts {g T : Nat} {w : World} {e : Ending} {w' : World} (h : OneOut g T w e w') : ∃ b : Bool, e = .returned (.bool b) ∧ Src w' g (T + 2) ∧ w.grownBy w' (some g) := h
theorem one_any (g T : Nat) (n : Int) (w : World) (h : Src w g T) (hT : T ≤ 100000000) (hn : 1 ≤ n) (hn2 : n ≤ 1000000000000) :
    Calls Try.prog 48 #[.pointer (some ⟨g, 0, none⟩), .int .i64 n] w (OneOut g T w) := by
  have H := Bx.mk h
  clear h
  go_enter Try.func48, Try.ntmps48
  go_wp2_with (fail)
  refine (pick_any g T n w H.out hT hn hn2).mono ?_
  rintro e w1 ho
  obtain ⟨x, ⟨hx0, hx1⟩, rfl, hs1, hg1⟩ := pick_parts ho
  have S1 := Bx.mk hs1
  have G1 := Bx.mk hg1
  clear ho hs1 hg1
  go_wp2_with (fail)
  go_ret
  exact ⟨_, rfl, S1.out, G1.out⟩
/-- some of a list of numbers -/
def AmongOut (g T : Nat) (zs : List Int) (w : World) (e : Ending) (w' : World) : Prop := ∃ x : Int, x ∈ zs ∧ e = .returned (.int .i64 x) ∧ Src w' g (T + 2) ∧ w.grownBy w' (some g)
theorem among_parts {g T : Nat} {zs : List Int} {w : World} {e : Ending} {w' : World} (h : AmongOut g T zs w e w') : ∃ x : Int, x ∈ zs ∧ e = .returned (.int .i64 x) ∧ Src w' g (T + 2) ∧ w.grownBy w' (some g) := h
theorem grown_cell {w w' : World} {g b k : Nat} (h : w.grownBy w' (some g)) (hb : b ≠ g) (hl : b < w.heap.size) : w'.cell? ⟨b, k, none⟩ = w.cell? ⟨b, k, none⟩ :=
  World.cell?_of_block (w := w) (h.block b hl (by intro e; injection e with e; exact hb e))
end Go.Proofs.Ytljegggpgafkiaa
