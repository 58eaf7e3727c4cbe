/- The model's choices out of bytes: one and among. -/
import Derived.Test.YtidblpamolimpaaSrc
namespace Go.Proofs.Ytidblpamolimpaa
open Go.ChangeShapes Go.WideShapes Go.ChangeAt Go.RowKit
set_option linter.unusedVariables false
set_option linter.unusedSimpArgs false
set_option maxRecDepth 100000

def OneOut (g T : Nat) (w : World) (e : Ending) (w' : World) : Prop := ∃ b : Bool, e = .returned (.bool b) ∧ Src w' g (T + 2) ∧ w.grownBy w' (some g)
theorem one_parts {g T : Nat} {w : World} {e : Ending} {w' : World} (h : OneOut g T w e w') : ∃ b : Bool, e = .returned (.bool b) ∧ Src w' g (T + 2) ∧ w.grownBy w' (some g) := h
theorem one_any (g T : Nat) (n : Int) (w : World) (h : Src w g T) (hT : T ≤ 100000000) (hn : 1 ≤ n) (hn2 : n ≤ 1000000000000) :
    Calls Try.prog 33 #[.pointer (some ⟨g, 0, none⟩), .int .i64 n] w (OneOut g T w) := by
  have H := Bx.mk h
  clear h
  go_enter Try.func33, Try.ntmps33
  go_wp2_with (fail)
  refine (pick_any g T n w H.out hT hn hn2).mono ?_
  rintro e w1 ho
  obtain ⟨x, ⟨hx0, hx1⟩, rfl, hs1, hg1⟩ := pick_parts ho
  have S1 := Bx.mk hs1
  have G1 := Bx.mk hg1
  clear ho hs1 hg1
  go_wp2_with (fail)
  go_ret
  exact ⟨_, rfl, S1.out, G1.out⟩
/-- some of a list of numbers -/
def AmongOut (g T : Nat) (zs : List Int) (w : World) (e : Ending) (w' : World) : Prop := ∃ x : Int, x ∈ zs ∧ e = .returned (.int .i64 x) ∧ Src w' g (T + 2) ∧ w.grownBy w' (some g)
theorem among_parts {g T : Nat} {zs : List Int} {w : World} {e : Ending} {w' : World} (h : AmongOut g T zs w e w') : ∃ x : Int, x ∈ zs ∧ e = .returned (.int .i64 x) ∧ Src w' g (T + 2) ∧ w.grownBy w' (some g) := h
theorem grown_cell {w w' : World} {g b k : Nat} (h : w.grownBy w' (some g)) (hb : b ≠ g) (hl : b < w.heap.size) : w'.cell? ⟨b, k, none⟩ = w.cell? ⟨b, k, none⟩ :=
  World.cell?_of_block (w := w) (h.block b hl (by intro e; injection e with e; exact hb e))
theorem among_any (g T b n : Nat) (zs : List Int) (w : World) (h : Src w g T) (hT : T ≤ 100000000) (hl : n = zs.length) (hn : 1 ≤ n ∧ n ≤ 1000) (hb : b ≠ g ∧ b < w.heap.size)
    (hc : ∀ k, k < n → w.cell? ⟨b, k, none⟩ = some (.int .i64 (zs.getD k 0))) :
    Calls Try.prog 32 #[.pointer (some ⟨g, 0, none⟩), .slice (some ⟨b, 0, none⟩) n n] w (AmongOut g T zs w) := by
  have H := Bx.mk h
  have HC := Bx.mk hc
  have HL := Bx.mk hl
  obtain ⟨n1, n2⟩ := hn
  clear h hc hl
  go_enter Try.func32, Try.ntmps32
  go_wp2_with (fail)
  refine (pick_any g T n w H.out hT (by omega) (by omega)).mono ?_
  rintro e w1 ho
  obtain ⟨x, ⟨hx0, hx1⟩, rfl, hs1, hg1⟩ := pick_parts ho
  have S1 := Bx.mk hs1
  have G1 := Bx.mk hg1
  obtain ⟨k, rfl⟩ : ∃ k : Nat, x = k := ⟨x.toNat, by omega⟩
  have hk : k < n := by omega
  have hcell : w1.cell? ⟨b, k, none⟩ = some (.int .i64 (zs.getD k 0)) := (grown_cell hg1 hb.1 hb.2).trans (HC.out k hk)
  have HM : Bx (zs.getD k 0 ∈ zs) := Bx.mk (by have := HL.out; simp [List.getD, show k < zs.length by omega])
  generalize zs.getD k 0 = z at hcell HM
  clear ho hs1 hg1
  go_wp2_with (fail)
  go_ret
  exact ⟨z, HM.out, rfl, S1.out, G1.out⟩
end Go.Proofs.Ytidblpamolimpaa
