/-
  DERIVED. GIVEN WITH THE SEED: THE CARDS: each row of YtpbbbkmcmfljdaaDoorRows.lean that lists a variable, with what it lists TIED to the program's text (the seventh form; the later family's looks); each row that meets fmt, with fmt's text TOLD by the authors' own Lean function (tested against real Go, not proved from fmt's source: count such statements apart). THE CARD IS WHAT COUNTS. Prove the row's statement (the work); the ties are given (YtpbbbkmcmfljdaaDoorTie.lean); close each card by the builder's one call (the guide's Derived/Test/ToyasCard.lean, 'card_holds'). Laid BY PROGRAM, IN A SANDBOX (cutbox-door.mjs). By AI agents, Wed Nov 11 2026. No macro, syntax, notation, axiom, sorry.
-/
import Derived.Test.YtpbbbkmcmfljdaaDoorRows
import GoSem.ClaimSeven
namespace Go.Proofs.YtpbbbkmcmfljdaaDoor
namespace Rows

/-- THE TIED CARD OF 'laws.FnRatios'. -/
def fnRatiosCard : Claim7 := { stood := { row := fnRatiosRow, standIns := [], harness := (true, "f5260f659b1099707af859ad4a672b8aba6b6e30ac1e5645cd398960089e6963"), looks := true }, kinds := [], alts := [], laidByText := true, laidKinds := [.data, .data, .data, .sentinel, .sentinel], laidTests := true, laidLooks := .later }
def FnRatiosCardSaid : Prop := Claim7.holds Tryd.pinned (.plain (OpenSpec.ofChange fnRatiosSpec)) fnRatiosCard

/-- THE TIED CARD OF 'laws.FnCents'. -/
def fnCentsCard : Claim7 := { stood := { row := fnCentsRow, standIns := [], harness := (true, "f5260f659b1099707af859ad4a672b8aba6b6e30ac1e5645cd398960089e6963"), looks := true }, kinds := [], alts := [], laidByText := true, laidKinds := [.data], laidTests := true, laidLooks := .later }
def FnCentsCardSaid : Prop := Claim7.holds Tryd.pinned (.plain (OpenSpec.ofChange fnCentsSpec)) fnCentsCard

/-- THE TIED CARD OF 'laws.FnExactCentsOf'. -/
def fnExactCentsOfCard : Claim7 := { stood := { row := fnExactCentsOfRow, standIns := [], harness := (true, "f5260f659b1099707af859ad4a672b8aba6b6e30ac1e5645cd398960089e6963"), looks := true }, kinds := [], alts := [], laidByText := true, laidKinds := [.data], laidTests := true, laidLooks := .later }
def FnExactCentsOfCardSaid : Prop := Claim7.holds Tryd.pinned (.plain (OpenSpec.ofChange fnExactCentsOfSpec)) fnExactCentsOfCard

/-- THE TIED CARD OF 'laws.FnExactBestRatio'. -/
def fnExactBestRatioCard : Claim7 := { stood := { row := fnExactBestRatioRow, standIns := [], harness := (true, "f5260f659b1099707af859ad4a672b8aba6b6e30ac1e5645cd398960089e6963"), looks := true }, kinds := [], alts := [], laidByText := true, laidKinds := [.data], laidTests := true, laidLooks := .later }
def FnExactBestRatioCardSaid : Prop := Claim7.holds Tryd.pinned (.plain (OpenSpec.ofChange fnExactBestRatioSpec)) fnExactBestRatioCard

/-- THE TIED CARD OF 'laws.FnExactRatioText'. -/
def fnExactRatioTextCard : Claim7 := { stood := { row := fnExactRatioTextRow, standIns := [], harness := (true, "f5260f659b1099707af859ad4a672b8aba6b6e30ac1e5645cd398960089e6963"), looks := true }, kinds := [], alts := [], laidByText := true, laidKinds := [.data, .data, .data], laidTests := true, laidLooks := .later }
def FnExactRatioTextCardSaid : Prop := Claim7.holds Tryd.pinned (.plain (OpenSpec.ofChange fnExactRatioTextSpec)) fnExactRatioTextCard

/-- THE TIED CARD OF 'laws.FnExactReadRatio'. -/
def fnExactReadRatioCard : Claim7 := { stood := { row := fnExactReadRatioRow, standIns := [], harness := (true, "f5260f659b1099707af859ad4a672b8aba6b6e30ac1e5645cd398960089e6963"), looks := true }, kinds := [], alts := [], laidByText := true, laidKinds := [.data, .data, .data, .sentinel, .sentinel], laidTests := true, laidLooks := .later }
def FnExactReadRatioCardSaid : Prop := Claim7.holds Tryd.pinned (.plain (OpenSpec.ofChange fnExactReadRatioSpec)) fnExactReadRatioCard

/-- THE SECOND FORM's CARD OF 'laws.FnRatios'. -/
def fnRatiosUptoCard : Claim7 := { stood := { row := fnRatiosUptoRow, standIns := [], harness := (true, "f5260f659b1099707af859ad4a672b8aba6b6e30ac1e5645cd398960089e6963"), looks := true }, kinds := [], alts := [], laidByText := true, laidKinds := [.data, .data, .data, .sentinel, .sentinel], laidTests := true, laidLooks := .later }
def FnRatiosUptoCardSaid : Prop := Claim7.holds Tryd.pinned (.plain (OpenSpec.upto fnRatiosSpec)) fnRatiosUptoCard

/-- THE SECOND FORM's CARD OF 'laws.FnCents'. -/
def fnCentsUptoCard : Claim7 := { stood := { row := fnCentsUptoRow, standIns := [], harness := (true, "f5260f659b1099707af859ad4a672b8aba6b6e30ac1e5645cd398960089e6963"), looks := true }, kinds := [], alts := [], laidByText := true, laidKinds := [.data], laidTests := true, laidLooks := .later }
def FnCentsUptoCardSaid : Prop := Claim7.holds Tryd.pinned (.plain (OpenSpec.upto fnCentsSpec)) fnCentsUptoCard

/-- THE SECOND FORM's CARD OF 'laws.FnExactCentsOf'. -/
def fnExactCentsOfUptoCard : Claim7 := { stood := { row := fnExactCentsOfUptoRow, standIns := [], harness := (true, "f5260f659b1099707af859ad4a672b8aba6b6e30ac1e5645cd398960089e6963"), looks := true }, kinds := [], alts := [], laidByText := true, laidKinds := [.data], laidTests := true, laidLooks := .later }
def FnExactCentsOfUptoCardSaid : Prop := Claim7.holds Tryd.pinned (.plain (OpenSpec.upto fnExactCentsOfSpec)) fnExactCentsOfUptoCard

/-- THE SECOND FORM's CARD OF 'laws.FnExactBestRatio'. -/
def fnExactBestRatioUptoCard : Claim7 := { stood := { row := fnExactBestRatioUptoRow, standIns := [], harness := (true, "f5260f659b1099707af859ad4a672b8aba6b6e30ac1e5645cd398960089e6963"), looks := true }, kinds := [], alts := [], laidByText := true, laidKinds := [.data], laidTests := true, laidLooks := .later }
def FnExactBestRatioUptoCardSaid : Prop := Claim7.holds Tryd.pinned (.plain (OpenSpec.upto fnExactBestRatioSpec)) fnExactBestRatioUptoCard

/-- THE SECOND FORM's CARD OF 'laws.FnExactRatioText'. -/
def fnExactRatioTextUptoCard : Claim7 := { stood := { row := fnExactRatioTextUptoRow, standIns := [], harness := (true, "f5260f659b1099707af859ad4a672b8aba6b6e30ac1e5645cd398960089e6963"), looks := true }, kinds := [], alts := [], laidByText := true, laidKinds := [.data, .data, .data], laidTests := true, laidLooks := .later }
def FnExactRatioTextUptoCardSaid : Prop := Claim7.holds Tryd.pinned (.plain (OpenSpec.upto fnExactRatioTextSpec)) fnExactRatioTextUptoCard

/-- THE SECOND FORM's CARD OF 'laws.FnExactReadRatio'. -/
def fnExactReadRatioUptoCard : Claim7 := { stood := { row := fnExactReadRatioUptoRow, standIns := [], harness := (true, "f5260f659b1099707af859ad4a672b8aba6b6e30ac1e5645cd398960089e6963"), looks := true }, kinds := [], alts := [], laidByText := true, laidKinds := [.data, .data, .data, .sentinel, .sentinel], laidTests := true, laidLooks := .later }
def FnExactReadRatioUptoCardSaid : Prop := Claim7.holds Tryd.pinned (.plain (OpenSpec.upto fnExactReadRatioSpec)) fnExactReadRatioUptoCard
end Rows
end Go.Proofs.YtpbbbkmcmfljdaaDoor
