/-
  DERIVED. GIVEN WITH THE SEED: THE CARDS: each row of YtendfnimhmnioaaDoorRows.lean that lists a variable, with what it lists TIED to the program's text (the seventh form; the later family's looks); each row that meets fmt, with fmt's text TOLD by the authors' own Lean function (tested against real Go, not proved from fmt's source: count such statements apart). THE CARD IS WHAT COUNTS. Prove the row's statement (the work); the ties are given (YtendfnimhmnioaaDoorTie.lean); close each card by the builder's one call (the guide's Derived/Test/ToyasCard.lean, 'card_holds'). Laid BY PROGRAM, IN A SANDBOX (cutbox-door.mjs). By AI agents, Wed Nov 11 2026. No macro, syntax, notation, axiom, sorry.
-/
import Derived.Test.YtendfnimhmnioaaDoorRows
import GoSem.ClaimSeven
namespace Go.Proofs.YtendfnimhmnioaaDoor
namespace Rows

/-- THE TIED CARD OF 'laws.FnExactTransposeMelody'. -/
def fnExactTransposeMelodyCard : Claim7 := { stood := { row := fnExactTransposeMelodyRow, standIns := [], harness := (true, "ed0924fdbec1158b543e8fda36e7edd8e142a08ef1853e6206a397ff0fb6b7dd"), looks := true }, kinds := [], alts := [], laidByText := true, laidKinds := [.sentinel, .sentinel], laidTests := true, laidLooks := .later }
def FnExactTransposeMelodyCardSaid : Prop := Claim7.holds Tryd.pinned (.plain (OpenSpec.ofChange fnExactTransposeMelodySpec)) fnExactTransposeMelodyCard

/-- THE TIED CARD OF 'laws.FnExactMirrorMelody'. -/
def fnExactMirrorMelodyCard : Claim7 := { stood := { row := fnExactMirrorMelodyRow, standIns := [], harness := (true, "ed0924fdbec1158b543e8fda36e7edd8e142a08ef1853e6206a397ff0fb6b7dd"), looks := true }, kinds := [], alts := [], laidByText := true, laidKinds := [.sentinel, .sentinel], laidTests := true, laidLooks := .later }
def FnExactMirrorMelodyCardSaid : Prop := Claim7.holds Tryd.pinned (.plain (OpenSpec.ofChange fnExactMirrorMelodySpec)) fnExactMirrorMelodyCard

/-- THE TIED CARD OF 'laws.FnExactStretchMelody'. -/
def fnExactStretchMelodyCard : Claim7 := { stood := { row := fnExactStretchMelodyRow, standIns := [], harness := (true, "ed0924fdbec1158b543e8fda36e7edd8e142a08ef1853e6206a397ff0fb6b7dd"), looks := true }, kinds := [], alts := [], laidByText := true, laidKinds := [.sentinel, .sentinel], laidTests := true, laidLooks := .later }
def FnExactStretchMelodyCardSaid : Prop := Claim7.holds Tryd.pinned (.plain (OpenSpec.ofChange fnExactStretchMelodySpec)) fnExactStretchMelodyCard

/-- THE TIED CARD OF 'laws.FnExactJoinMelodies'. -/
def fnExactJoinMelodiesCard : Claim7 := { stood := { row := fnExactJoinMelodiesRow, standIns := [], harness := (true, "ed0924fdbec1158b543e8fda36e7edd8e142a08ef1853e6206a397ff0fb6b7dd"), looks := true }, kinds := [], alts := [], laidByText := true, laidKinds := [.sentinel, .sentinel], laidTests := true, laidLooks := .later }
def FnExactJoinMelodiesCardSaid : Prop := Claim7.holds Tryd.pinned (.plain (OpenSpec.ofChange fnExactJoinMelodiesSpec)) fnExactJoinMelodiesCard

/-- THE TIED CARD OF 'laws.FnExactCutMelody'. -/
def fnExactCutMelodyCard : Claim7 := { stood := { row := fnExactCutMelodyRow, standIns := [], harness := (true, "ed0924fdbec1158b543e8fda36e7edd8e142a08ef1853e6206a397ff0fb6b7dd"), looks := true }, kinds := [], alts := [], laidByText := true, laidKinds := [.sentinel, .sentinel], laidTests := true, laidLooks := .later }
def FnExactCutMelodyCardSaid : Prop := Claim7.holds Tryd.pinned (.plain (OpenSpec.ofChange fnExactCutMelodySpec)) fnExactCutMelodyCard

/-- THE TIED CARD OF 'laws.FnExactTieMelody'. -/
def fnExactTieMelodyCard : Claim7 := { stood := { row := fnExactTieMelodyRow, standIns := [], harness := (true, "ed0924fdbec1158b543e8fda36e7edd8e142a08ef1853e6206a397ff0fb6b7dd"), looks := true }, kinds := [], alts := [], laidByText := true, laidKinds := [.sentinel, .sentinel], laidTests := true, laidLooks := .later }
def FnExactTieMelodyCardSaid : Prop := Claim7.holds Tryd.pinned (.plain (OpenSpec.ofChange fnExactTieMelodySpec)) fnExactTieMelodyCard

/-- THE TIED CARD OF 'laws.FnExactMelodyText'. -/
def fnExactMelodyTextCard : Claim7 := { stood := { row := fnExactMelodyTextRow, standIns := [], harness := (true, "ed0924fdbec1158b543e8fda36e7edd8e142a08ef1853e6206a397ff0fb6b7dd"), looks := true }, kinds := [], alts := [], laidByText := true, laidKinds := [.data, .data, .data], laidTests := true, laidLooks := .later }
def FnExactMelodyTextCardSaid : Prop := Claim7.holds Tryd.pinned (.plain (OpenSpec.ofChange fnExactMelodyTextSpec)) fnExactMelodyTextCard

/-- THE TIED CARD OF 'laws.FnExactReadMelody'. -/
def fnExactReadMelodyCard : Claim7 := { stood := { row := fnExactReadMelodyRow, standIns := [], harness := (true, "ed0924fdbec1158b543e8fda36e7edd8e142a08ef1853e6206a397ff0fb6b7dd"), looks := true }, kinds := [], alts := [], laidByText := true, laidKinds := [.data, .data, .data, .data, .sentinel, .sentinel, .pinned], laidTests := true, laidLooks := .later }
def FnExactReadMelodyCardSaid : Prop := Claim7.holds Tryd.pinned (.plain (OpenSpec.ofChange fnExactReadMelodySpec)) fnExactReadMelodyCard

/-- THE SECOND FORM's CARD OF 'laws.FnExactTransposeMelody'. -/
def fnExactTransposeMelodyUptoCard : Claim7 := { stood := { row := fnExactTransposeMelodyUptoRow, standIns := [], harness := (true, "ed0924fdbec1158b543e8fda36e7edd8e142a08ef1853e6206a397ff0fb6b7dd"), looks := true }, kinds := [], alts := [], laidByText := true, laidKinds := [.sentinel, .sentinel], laidTests := true, laidLooks := .later }
def FnExactTransposeMelodyUptoCardSaid : Prop := Claim7.holds Tryd.pinned (.plain (OpenSpec.upto fnExactTransposeMelodySpec)) fnExactTransposeMelodyUptoCard

/-- THE SECOND FORM's CARD OF 'laws.FnExactMirrorMelody'. -/
def fnExactMirrorMelodyUptoCard : Claim7 := { stood := { row := fnExactMirrorMelodyUptoRow, standIns := [], harness := (true, "ed0924fdbec1158b543e8fda36e7edd8e142a08ef1853e6206a397ff0fb6b7dd"), looks := true }, kinds := [], alts := [], laidByText := true, laidKinds := [.sentinel, .sentinel], laidTests := true, laidLooks := .later }
def FnExactMirrorMelodyUptoCardSaid : Prop := Claim7.holds Tryd.pinned (.plain (OpenSpec.upto fnExactMirrorMelodySpec)) fnExactMirrorMelodyUptoCard

/-- THE SECOND FORM's CARD OF 'laws.FnExactStretchMelody'. -/
def fnExactStretchMelodyUptoCard : Claim7 := { stood := { row := fnExactStretchMelodyUptoRow, standIns := [], harness := (true, "ed0924fdbec1158b543e8fda36e7edd8e142a08ef1853e6206a397ff0fb6b7dd"), looks := true }, kinds := [], alts := [], laidByText := true, laidKinds := [.sentinel, .sentinel], laidTests := true, laidLooks := .later }
def FnExactStretchMelodyUptoCardSaid : Prop := Claim7.holds Tryd.pinned (.plain (OpenSpec.upto fnExactStretchMelodySpec)) fnExactStretchMelodyUptoCard

/-- THE SECOND FORM's CARD OF 'laws.FnExactJoinMelodies'. -/
def fnExactJoinMelodiesUptoCard : Claim7 := { stood := { row := fnExactJoinMelodiesUptoRow, standIns := [], harness := (true, "ed0924fdbec1158b543e8fda36e7edd8e142a08ef1853e6206a397ff0fb6b7dd"), looks := true }, kinds := [], alts := [], laidByText := true, laidKinds := [.sentinel, .sentinel], laidTests := true, laidLooks := .later }
def FnExactJoinMelodiesUptoCardSaid : Prop := Claim7.holds Tryd.pinned (.plain (OpenSpec.upto fnExactJoinMelodiesSpec)) fnExactJoinMelodiesUptoCard

/-- THE SECOND FORM's CARD OF 'laws.FnExactCutMelody'. -/
def fnExactCutMelodyUptoCard : Claim7 := { stood := { row := fnExactCutMelodyUptoRow, standIns := [], harness := (true, "ed0924fdbec1158b543e8fda36e7edd8e142a08ef1853e6206a397ff0fb6b7dd"), looks := true }, kinds := [], alts := [], laidByText := true, laidKinds := [.sentinel, .sentinel], laidTests := true, laidLooks := .later }
def FnExactCutMelodyUptoCardSaid : Prop := Claim7.holds Tryd.pinned (.plain (OpenSpec.upto fnExactCutMelodySpec)) fnExactCutMelodyUptoCard

/-- THE SECOND FORM's CARD OF 'laws.FnExactTieMelody'. -/
def fnExactTieMelodyUptoCard : Claim7 := { stood := { row := fnExactTieMelodyUptoRow, standIns := [], harness := (true, "ed0924fdbec1158b543e8fda36e7edd8e142a08ef1853e6206a397ff0fb6b7dd"), looks := true }, kinds := [], alts := [], laidByText := true, laidKinds := [.sentinel, .sentinel], laidTests := true, laidLooks := .later }
def FnExactTieMelodyUptoCardSaid : Prop := Claim7.holds Tryd.pinned (.plain (OpenSpec.upto fnExactTieMelodySpec)) fnExactTieMelodyUptoCard

/-- THE SECOND FORM's CARD OF 'laws.FnExactMelodyText'. -/
def fnExactMelodyTextUptoCard : Claim7 := { stood := { row := fnExactMelodyTextUptoRow, standIns := [], harness := (true, "ed0924fdbec1158b543e8fda36e7edd8e142a08ef1853e6206a397ff0fb6b7dd"), looks := true }, kinds := [], alts := [], laidByText := true, laidKinds := [.data, .data, .data], laidTests := true, laidLooks := .later }
def FnExactMelodyTextUptoCardSaid : Prop := Claim7.holds Tryd.pinned (.plain (OpenSpec.upto fnExactMelodyTextSpec)) fnExactMelodyTextUptoCard

/-- THE SECOND FORM's CARD OF 'laws.FnExactReadMelody'. -/
def fnExactReadMelodyUptoCard : Claim7 := { stood := { row := fnExactReadMelodyUptoRow, standIns := [], harness := (true, "ed0924fdbec1158b543e8fda36e7edd8e142a08ef1853e6206a397ff0fb6b7dd"), looks := true }, kinds := [], alts := [], laidByText := true, laidKinds := [.data, .data, .data, .data, .sentinel, .sentinel, .pinned], laidTests := true, laidLooks := .later }
def FnExactReadMelodyUptoCardSaid : Prop := Claim7.holds Tryd.pinned (.plain (OpenSpec.upto fnExactReadMelodySpec)) fnExactReadMelodyUptoCard
end Rows
end Go.Proofs.YtendfnimhmnioaaDoor
