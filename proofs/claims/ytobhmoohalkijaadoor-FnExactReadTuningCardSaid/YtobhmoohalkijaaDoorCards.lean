/-
  DERIVED. GIVEN WITH THE SEED: THE CARDS: each row of YtobhmoohalkijaaDoorRows.lean that lists a variable, with what it lists TIED to the program's text (the seventh form; the later family's looks); each row that meets fmt, with fmt's text TOLD by the authors' own Lean function (tested against real Go, not proved from fmt's source: count such statements apart). THE CARD IS WHAT COUNTS. Prove the row's statement (the work); the ties are given (YtobhmoohalkijaaDoorTie.lean); close each card by the builder's one call (the guide's Derived/Test/ToyasCard.lean, 'card_holds'). Laid BY PROGRAM, IN A SANDBOX (cutbox-door.mjs). By AI agents, Wed Nov 11 2026. No macro, syntax, notation, axiom, sorry.
-/
import Derived.Test.YtobhmoohalkijaaDoorRows
import GoSem.ClaimSeven
namespace Go.Proofs.YtobhmoohalkijaaDoor
namespace Rows

/-- THE TIED CARD OF 'laws.FnExactReadTuning'. -/
def fnExactReadTuningCard : Claim7 := { stood := { row := fnExactReadTuningRow, standIns := [], harness := (true, "10ecb636d0d6743d3282bcf5faafd84c11df2fd39971fbbd6d9b07545977f71e"), looks := true }, kinds := [], alts := [], laidByText := true, laidKinds := [.data, .data, .data, .data, .sentinel, .sentinel, .pinned], laidTests := true, laidLooks := .later }
def FnExactReadTuningCardSaid : Prop := Claim7.holds Tryd.pinned (.plain (OpenSpec.ofChange fnExactReadTuningSpec)) fnExactReadTuningCard

/-- THE TIED CARD OF 'laws.FnExactReadRaga'. -/
def fnExactReadRagaCard : Claim7 := { stood := { row := fnExactReadRagaRow, standIns := [], harness := (true, "10ecb636d0d6743d3282bcf5faafd84c11df2fd39971fbbd6d9b07545977f71e"), looks := true }, kinds := [], alts := [], laidByText := true, laidKinds := [.listed, .data], laidTests := true, laidLooks := .later }
def FnExactReadRagaCardSaid : Prop := Claim7.holds Tryd.pinned (.plain (OpenSpec.ofChange fnExactReadRagaSpec)) fnExactReadRagaCard

/-- THE TIED CARD OF 'laws.FnExactPhrasesText'. -/
def fnExactPhrasesTextCard : Claim7 := { stood := { row := fnExactPhrasesTextRow, standIns := [], harness := (true, "10ecb636d0d6743d3282bcf5faafd84c11df2fd39971fbbd6d9b07545977f71e"), looks := true }, kinds := [], alts := [], laidByText := true, laidKinds := [.data, .data, .data], laidTests := true, laidLooks := .later }
def FnExactPhrasesTextCardSaid : Prop := Claim7.holds Tryd.pinned (.plain (OpenSpec.ofChange fnExactPhrasesTextSpec)) fnExactPhrasesTextCard

/-- THE TIED CARD OF 'laws.FnExactReadPhrases'. -/
def fnExactReadPhrasesCard : Claim7 := { stood := { row := fnExactReadPhrasesRow, standIns := [], harness := (true, "10ecb636d0d6743d3282bcf5faafd84c11df2fd39971fbbd6d9b07545977f71e"), looks := true }, kinds := [], alts := [], laidByText := true, laidKinds := [.data, .data, .data, .data, .sentinel, .sentinel, .pinned], laidTests := true, laidLooks := .later }
def FnExactReadPhrasesCardSaid : Prop := Claim7.holds Tryd.pinned (.plain (OpenSpec.ofChange fnExactReadPhrasesSpec)) fnExactReadPhrasesCard

/-- THE SECOND FORM's CARD OF 'laws.FnExactReadTuning'. -/
def fnExactReadTuningUptoCard : Claim7 := { stood := { row := fnExactReadTuningUptoRow, standIns := [], harness := (true, "10ecb636d0d6743d3282bcf5faafd84c11df2fd39971fbbd6d9b07545977f71e"), looks := true }, kinds := [], alts := [], laidByText := true, laidKinds := [.data, .data, .data, .data, .sentinel, .sentinel, .pinned], laidTests := true, laidLooks := .later }
def FnExactReadTuningUptoCardSaid : Prop := Claim7.holds Tryd.pinned (.plain (OpenSpec.upto fnExactReadTuningSpec)) fnExactReadTuningUptoCard

/-- THE SECOND FORM's CARD OF 'laws.FnExactReadRaga'. -/
def fnExactReadRagaUptoCard : Claim7 := { stood := { row := fnExactReadRagaUptoRow, standIns := [], harness := (true, "10ecb636d0d6743d3282bcf5faafd84c11df2fd39971fbbd6d9b07545977f71e"), looks := true }, kinds := [], alts := [], laidByText := true, laidKinds := [.listed, .data], laidTests := true, laidLooks := .later }
def FnExactReadRagaUptoCardSaid : Prop := Claim7.holds Tryd.pinned (.plain (OpenSpec.upto fnExactReadRagaSpec)) fnExactReadRagaUptoCard

/-- THE SECOND FORM's CARD OF 'laws.FnExactPhrasesText'. -/
def fnExactPhrasesTextUptoCard : Claim7 := { stood := { row := fnExactPhrasesTextUptoRow, standIns := [], harness := (true, "10ecb636d0d6743d3282bcf5faafd84c11df2fd39971fbbd6d9b07545977f71e"), looks := true }, kinds := [], alts := [], laidByText := true, laidKinds := [.data, .data, .data], laidTests := true, laidLooks := .later }
def FnExactPhrasesTextUptoCardSaid : Prop := Claim7.holds Tryd.pinned (.plain (OpenSpec.upto fnExactPhrasesTextSpec)) fnExactPhrasesTextUptoCard

/-- THE SECOND FORM's CARD OF 'laws.FnExactReadPhrases'. -/
def fnExactReadPhrasesUptoCard : Claim7 := { stood := { row := fnExactReadPhrasesUptoRow, standIns := [], harness := (true, "10ecb636d0d6743d3282bcf5faafd84c11df2fd39971fbbd6d9b07545977f71e"), looks := true }, kinds := [], alts := [], laidByText := true, laidKinds := [.data, .data, .data, .data, .sentinel, .sentinel, .pinned], laidTests := true, laidLooks := .later }
def FnExactReadPhrasesUptoCardSaid : Prop := Claim7.holds Tryd.pinned (.plain (OpenSpec.upto fnExactReadPhrasesSpec)) fnExactReadPhrasesUptoCard
end Rows
end Go.Proofs.YtobhmoohalkijaaDoor
