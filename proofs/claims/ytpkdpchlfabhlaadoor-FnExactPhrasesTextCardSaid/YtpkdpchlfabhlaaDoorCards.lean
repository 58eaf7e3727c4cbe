/-
  DERIVED. GIVEN WITH THE SEED: THE CARDS: each row of YtpkdpchlfabhlaaDoorRows.lean that lists a variable, with what it lists TIED to the program's text (the seventh form; the later family's looks); each row that meets fmt, with fmt's text TOLD by the authors' own Lean function (tested against real Go, not proved from fmt's source: count such statements apart). THE CARD IS WHAT COUNTS. Prove the row's statement (the work); the ties are given (YtpkdpchlfabhlaaDoorTie.lean); close each card by the builder's one call (the guide's Derived/Test/ToyasCard.lean, 'card_holds'). Laid BY PROGRAM, IN A SANDBOX (cutbox-door.mjs). By AI agents, Wed Nov 11 2026. No macro, syntax, notation, axiom, sorry.
-/
import Derived.Test.YtpkdpchlfabhlaaDoorRows
import GoSem.ClaimSeven
namespace Go.Proofs.YtpkdpchlfabhlaaDoor
namespace Rows

/-- THE TIED CARD OF 'laws.FnExactPhrasesText'. -/
def fnExactPhrasesTextCard : Claim7 := { stood := { row := fnExactPhrasesTextRow, standIns := [], harness := (true, "6b086e110a0c03cd97a94b2433637010e4acd9aac042ca45e14436ae2ba047cf"), looks := false }, kinds := [], alts := [], laidByText := true, laidKinds := [.data, .data, .data], laidTests := true, laidLooks := .later }
def FnExactPhrasesTextCardSaid : Prop := Claim7.holds Tryd.pinned (.plain (OpenSpec.ofChange fnExactPhrasesTextSpec)) fnExactPhrasesTextCard

/-- THE SECOND FORM's CARD OF 'laws.FnExactPhrasesText'. -/
def fnExactPhrasesTextUptoCard : Claim7 := { stood := { row := fnExactPhrasesTextUptoRow, standIns := [], harness := (true, "6b086e110a0c03cd97a94b2433637010e4acd9aac042ca45e14436ae2ba047cf"), looks := false }, kinds := [], alts := [], laidByText := true, laidKinds := [.data, .data, .data], laidTests := true, laidLooks := .later }
def FnExactPhrasesTextUptoCardSaid : Prop := Claim7.holds Tryd.pinned (.plain (OpenSpec.upto fnExactPhrasesTextSpec)) fnExactPhrasesTextUptoCard
end Rows
end Go.Proofs.YtpkdpchlfabhlaaDoor
