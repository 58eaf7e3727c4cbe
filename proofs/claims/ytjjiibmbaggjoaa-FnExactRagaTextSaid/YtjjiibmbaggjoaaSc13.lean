/- Scales: the tone of a name, the scale of a text, by the model. -/
import Derived.Test.YtjjiibmbaggjoaaSc12
namespace Go.Proofs.Ytjjiibmbaggjoaa
open Go.ChangeShapes Go.WideShapes Go.ChangeAt Go.RowKit
set_option linter.unusedVariables false
set_option linter.unusedSimpArgs false
set_option maxRecDepth 100000

/-- the tone with a name -/
def tnZ : List UInt8 → Int × Bool
  | [c] => if namedZ c < 0 then (0, false) else (namedZ c, true)
  | _ => (0, false)
theorem tn_many (l : List UInt8) (h : l.length ≠ 1) : tnZ l = (0, false) := by
  match l with
  | [] => rfl
  | [c] => exact absurd rfl h
  | _ :: _ :: _ => rfl
/-- a new list, or none -/
def LBOut (o : Option (List Int)) (w : World) (e : Ending) (w' : World) : Prop :=
  ∃ v, e = .returned (.tuple #[v, .bool o.isSome]) ∧ w'.ownsRow w.heap.size 2 1 v (o.getD []).length (ints (o.getD [])) ∧ Below w.heap.size w w'
theorem lb_none {o : Option (List Int)} {w w' : World} (h : o = none) (hb : Below w.heap.size w w') : LBOut o w (.returned (.tuple #[.slice none 0 0, .bool false])) w' :=
  ⟨_, by rw [h]; rfl, by rw [h]; exact World.ownsRow_nil _ _ _ _, hb⟩
theorem lb_some {o : Option (List Int)} {w w' : World} {v : Value} {vs : List Int} (h : o = some vs) (ho : w'.ownsRow w.heap.size 2 1 v vs.length (ints vs)) (hb : Below w.heap.size w w') :
    LBOut o w (.returned (.tuple #[v, .bool true])) w' := ⟨_, by rw [h]; rfl, by rw [h]; exact ho, hb⟩
/-- the scale with a text -/
def readSc (l : List UInt8) : Option (List Int) := if scaleB (l.map namedZ) = true then some (l.map namedZ) else none
end Go.Proofs.Ytjjiibmbaggjoaa
