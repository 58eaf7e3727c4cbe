/- Scales: names, by the model. -/
import Derived.Test.YtjjiibmbaggjoaaSc11
namespace Go.Proofs.Ytjjiibmbaggjoaa
open Go.ChangeShapes Go.WideShapes Go.ChangeAt Go.RowKit
set_option linter.unusedVariables false
set_option linter.unusedSimpArgs false
set_option maxRecDepth 100000

def nameL : List UInt8 := [83, 114, 82, 103, 71, 109, 77, 80, 100, 68, 110, 78]
def toneS (t : Int) : ByteArray := if inB t 0 11 = true then ⟨#[nameL.getD t.toNat 0]⟩ else ⟨#[]⟩
theorem spec_names (w : World) : Calls Try.prog 110 #[] w fun e w' => e = .returned (.string ⟨nameL.toArray⟩) ∧ w = w' := by
  go_enter Try.func110, Try.ntmps110
  go_wp2_with (fail)
  go_ret
  exact ⟨rfl, rfl⟩
def namesS : ByteArray := ⟨nameL.toArray⟩
def namesI : List Int := nameL.map fun b => (b.toNat : Int)
theorem names_at (k : Nat) (h : k < namesS.size) : namesI.getD k 0 = (namesS[k].toNat : Int) := by
  have h12 : k < nameL.length := h
  have h2 : k < namesI.length := by simpa [namesI] using h12
  simp only [List.getD, List.getElem?_eq_getElem h2, Option.getD_some]
  simp only [namesI, List.getElem_map]
  rfl
/-- the tone of a letter, or -1 -/
def namedZ (c : UInt8) : Int := idxZ namesI (c.toNat : Int)
end Go.Proofs.Ytjjiibmbaggjoaa
