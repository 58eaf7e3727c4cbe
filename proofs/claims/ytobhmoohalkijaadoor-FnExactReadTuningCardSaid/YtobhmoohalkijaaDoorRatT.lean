/- A ratio as text, on both sides. -/
import Derived.Test.YtobhmoohalkijaaDoorRatQ
import Derived.Test.YtobhmoohalkijaaDoorDec
import Derived.Test.YtobhmoohalkijaaDoorReadDec2
import Derived.Lib.ItoaLen
namespace Go.Proofs.YtobhmoohalkijaaDoor
open Go.ChangeShapes Go.WideShapes Go.ChangeAt Go.RowKit
set_option linter.unusedVariables false
set_option linter.unusedSimpArgs false
set_option maxRecDepth 100000

/-- a ratio as text -/
def ratT (n d : Int) : List UInt8 := Lib.itoa n ++ ([47] ++ Lib.itoa d)
theorem keepP {g o : Nat} {w W W' : World} {n d : Value} (h : W.cell? ⟨g, o, none⟩ = some n ∧ W.cell? ⟨g, o + 1, none⟩ = some d ∧ g < W.heap.size ∧ Below w.heap.size w W) (hb : Below W.heap.size W W') :
    W'.cell? ⟨g, o, none⟩ = some n ∧ W'.cell? ⟨g, o + 1, none⟩ = some d ∧ g < W'.heap.size ∧ Below w.heap.size w W' := by
  obtain ⟨h1, h2, h5, h6⟩ := h
  have hs := hb.size
  exact ⟨(hb.cell (p := ⟨g, o, none⟩) h5).trans h1, (hb.cell (p := ⟨g, o + 1, none⟩) h5).trans h2, by omega, h6.trans (hb.mono h6.size)⟩
/-- RatioText -/
def rtextE (n d : Int) : List UInt8 := if okR n d = true then ratT n d else []
theorem okR_box {n d : Int} (h : okR n d = true) : Bx (-9223372036854775808 ≤ n ∧ n ≤ 9223372036854775807) ∧ Bx (-9223372036854775808 ≤ d ∧ d ≤ 9223372036854775807) := by
  obtain ⟨a, b, _⟩ := okR_yes h
  exact ⟨Bx.mk (by omega), Bx.mk (by omega)⟩
theorem keepQ {g o : Nat} {w W W' : World} {n d : Value} {nm : String} {k : IntKind} {zs : List Int} (h : W.cell? ⟨g, o, none⟩ = some n ∧ W.cell? ⟨g, o + 1, none⟩ = some d ∧ g < W.heap.size ∧ Bx (Lib.TabIs Tryd.prog W nm k zs) ∧ Below w.heap.size w W) (hb : Below W.heap.size W W') :
    W'.cell? ⟨g, o, none⟩ = some n ∧ W'.cell? ⟨g, o + 1, none⟩ = some d ∧ g < W'.heap.size ∧ Bx (Lib.TabIs Tryd.prog W' nm k zs) ∧ Below w.heap.size w W' := by
  obtain ⟨h1, h2, h5, h7, h6⟩ := h
  have hs := hb.size
  exact ⟨(hb.cell (p := ⟨g, o, none⟩) h5).trans h1, (hb.cell (p := ⟨g, o + 1, none⟩) h5).trans h2, by omega, Bx.mk (tab_below hb h7.out), h6.trans (hb.mono h6.size)⟩
end Go.Proofs.YtobhmoohalkijaaDoor
