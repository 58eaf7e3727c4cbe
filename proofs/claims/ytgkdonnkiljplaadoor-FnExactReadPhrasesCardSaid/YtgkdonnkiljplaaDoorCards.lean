/-
  DERIVED. GIVEN WITH THE SEED: THE CARDS: each row of YtgkdonnkiljplaaDoorRows.lean that lists a variable, with what it lists TIED to the program's text (the seventh form; the later family's looks); each row that meets fmt, with fmt's text TOLD by the authors' own Lean function (tested against real Go, not proved from fmt's source: count such statements apart). THE CARD IS WHAT COUNTS. Prove the row's statement (the work); the ties are given (YtgkdonnkiljplaaDoorTie.lean); close each card by the builder's one call (the guide's Derived/Test/ToyasCard.lean, 'card_holds'). Laid BY PROGRAM, IN A SANDBOX (cutbox-door.mjs). By AI agents, Wed Nov 11 2026. No macro, syntax, notation, axiom, sorry.
-/
import Derived.Test.YtgkdonnkiljplaaDoorRows
import GoSem.ClaimSeven
namespace Go.Proofs.YtgkdonnkiljplaaDoor
namespace Rows

/-- THE TIED CARD OF 'laws.FnExactReadPhrases'. -/
def fnExactReadPhrasesCard : Claim7 := { stood := { row := fnExactReadPhrasesRow, standIns := [], harness := (true, "f027ee2ca567098e1110107ead084103aeb4dd13be5bd3ef815defce6c52b833"), looks := true }, kinds := [], alts := [], laidByText := true, laidKinds := [.data, .data, .data, .data, .sentinel, .sentinel, .pinned], laidTests := true, laidLooks := .later }
def FnExactReadPhrasesCardSaid : Prop := Claim7.holds Tryd.pinned (.plain (OpenSpec.ofChange fnExactReadPhrasesSpec)) fnExactReadPhrasesCard

/-- THE SECOND FORM's CARD OF 'laws.FnExactReadPhrases'. -/
def fnExactReadPhrasesUptoCard : Claim7 := { stood := { row := fnExactReadPhrasesUptoRow, standIns := [], harness := (true, "f027ee2ca567098e1110107ead084103aeb4dd13be5bd3ef815defce6c52b833"), looks := true }, kinds := [], alts := [], laidByText := true, laidKinds := [.data, .data, .data, .data, .sentinel, .sentinel, .pinned], laidTests := true, laidLooks := .later }
def FnExactReadPhrasesUptoCardSaid : Prop := Claim7.holds Tryd.pinned (.plain (OpenSpec.upto fnExactReadPhrasesSpec)) fnExactReadPhrasesUptoCard
end Rows
end Go.Proofs.YtgkdonnkiljplaaDoor
