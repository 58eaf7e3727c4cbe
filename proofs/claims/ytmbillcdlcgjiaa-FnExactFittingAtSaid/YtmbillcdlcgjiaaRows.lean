/-
  No cell of these rows narrows 'for every input' (looked for: loops, veiled, ifaces, maps, wideKeys, modest, calm, conditions, laid).
  DERIVED. THE GIVEN ROWS OF THIS SEAT. 13 by the template 'for every input the law returns true; each argument reads behind the call as it read before'; 0 by the template 'total and deterministic' (their statements: YtmbillcdlcgjiaaTotals.lean).
  GIVEN WITH THE SEED: the statements are not yours to turn. If you find one false, say at which input.
  Laid BY PROGRAM, IN A SANDBOX (cutbox-rows.mjs): the forced cells as the released guide's own fill.sh prints them over the translation 45a95dc4e6780e2e… (all of the seat's roots in one cut). By AI agents, Wed Nov 11 2026. No macro, syntax, notation, axiom, sorry.
-/
import Derived.Test.YtmbillcdlcgjiaaChecked
import GoSem.Claim
import GoSem.ClaimJoined
import GoSem.ClaimMapViews
import Derived.JoinedTies
import Derived.KernelRfl
namespace Go.Proofs.Ytmbillcdlcgjiaa
/- THE CELL 'sum', in the pinned program and in every row, IS THE sha256 OF THE DUMP (.gsa) THAT YtmbillcdlcgjiaaProg.lean LOADS. Nothing in Lean hashes anything: it is a label: what it is worth is what the hold of that sum in a sandbox is worth. -/
noncomputable def Try.pinned : Pinned := { name := "ytmbillcdlcgjiaa", sum := "45a95dc4e6780e2eb3fda5c9ee304977c0d7940effc8e20553ac6bbdee75cd84", checked := Try.checked }
namespace Rows
def none {H : Type} : Left H := { results := [], args := [] }

/-- 'laws.FnExactMelodyNumber': WHATEVER THE INPUT: true; the input reads as it did. -/
def fnExactMelodyNumberSpec : ChangeSpec := { name := "fnExactMelodyNumber", fn := fun _ => fun
  | [d1, d2] => { results := [.lit (.bool true)], args := [d1, d2] }
  | _ => none }
def fnExactMelodyNumberRow : OpenClaim := { program := "ytmbillcdlcgjiaa", sum := "45a95dc4e6780e2eb3fda5c9ee304977c0d7940effc8e20553ac6bbdee75cd84", func := "loop.example/g01033/laws.FnExactMelodyNumber", spec := "fnExactMelodyNumber", unfollowed := true, recurses := true, apart := false }
def FnExactMelodyNumberSaid : Prop := fnExactMelodyNumberRow.holds Try.pinned (OpenSpec.ofChange fnExactMelodyNumberSpec)

/-- ITS FALSE NEIGHBOUR: 'it returns false'. Refute it at one input. -/
def fnExactMelodyNumberWrong : ChangeSpec := { name := "fnExactMelodyNumber", fn := fun _ => fun
  | [d1, d2] => { results := [.lit (.bool false)], args := [d1, d2] }
  | _ => none }
def FnExactMelodyNumberWrongFalsely : Prop := fnExactMelodyNumberRow.holds Try.pinned (OpenSpec.ofChange fnExactMelodyNumberWrong)

/-- 'laws.FnExactNumberedMelody': WHATEVER THE INPUT: true; the input reads as it did. -/
def fnExactNumberedMelodySpec : ChangeSpec := { name := "fnExactNumberedMelody", fn := fun _ => fun
  | [d1, d2, d3] => { results := [.lit (.bool true)], args := [d1, d2, d3] }
  | _ => none }
def fnExactNumberedMelodyRow : OpenClaim := { program := "ytmbillcdlcgjiaa", sum := "45a95dc4e6780e2eb3fda5c9ee304977c0d7940effc8e20553ac6bbdee75cd84", func := "loop.example/g01033/laws.FnExactNumberedMelody", spec := "fnExactNumberedMelody", unfollowed := true, recurses := true, apart := false }
def FnExactNumberedMelodySaid : Prop := fnExactNumberedMelodyRow.holds Try.pinned (OpenSpec.ofChange fnExactNumberedMelodySpec)

/-- ITS FALSE NEIGHBOUR: 'it returns false'. Refute it at one input. -/
def fnExactNumberedMelodyWrong : ChangeSpec := { name := "fnExactNumberedMelody", fn := fun _ => fun
  | [d1, d2, d3] => { results := [.lit (.bool false)], args := [d1, d2, d3] }
  | _ => none }
def FnExactNumberedMelodyWrongFalsely : Prop := fnExactNumberedMelodyRow.holds Try.pinned (OpenSpec.ofChange fnExactNumberedMelodyWrong)

/-- 'laws.FnExactShortestMelody': WHATEVER THE INPUT: true; the input reads as it did. -/
def fnExactShortestMelodySpec : ChangeSpec := { name := "fnExactShortestMelody", fn := fun _ => fun
  | [d] => { results := [.lit (.bool true)], args := [d] }
  | _ => none }
def fnExactShortestMelodyRow : OpenClaim := { program := "ytmbillcdlcgjiaa", sum := "45a95dc4e6780e2eb3fda5c9ee304977c0d7940effc8e20553ac6bbdee75cd84", func := "loop.example/g01033/laws.FnExactShortestMelody", spec := "fnExactShortestMelody", unfollowed := true, recurses := true, apart := false }
def FnExactShortestMelodySaid : Prop := fnExactShortestMelodyRow.holds Try.pinned (OpenSpec.ofChange fnExactShortestMelodySpec)

/-- ITS FALSE NEIGHBOUR: 'it returns false'. Refute it at one input. -/
def fnExactShortestMelodyWrong : ChangeSpec := { name := "fnExactShortestMelody", fn := fun _ => fun
  | [d] => { results := [.lit (.bool false)], args := [d] }
  | _ => none }
def FnExactShortestMelodyWrongFalsely : Prop := fnExactShortestMelodyRow.holds Try.pinned (OpenSpec.ofChange fnExactShortestMelodyWrong)

/-- 'laws.FnExactValidItem': WHATEVER THE INPUT: true; the input reads as it did. -/
def fnExactValidItemSpec : ChangeSpec := { name := "fnExactValidItem", fn := fun _ => fun
  | [d] => { results := [.lit (.bool true)], args := [d] }
  | _ => none }
def fnExactValidItemRow : OpenClaim := { program := "ytmbillcdlcgjiaa", sum := "45a95dc4e6780e2eb3fda5c9ee304977c0d7940effc8e20553ac6bbdee75cd84", func := "loop.example/g01033/laws.FnExactValidItem", spec := "fnExactValidItem", apart := false }
def FnExactValidItemSaid : Prop := fnExactValidItemRow.holds Try.pinned (OpenSpec.ofChange fnExactValidItemSpec)

/-- ITS FALSE NEIGHBOUR: 'it returns false'. Refute it at one input. -/
def fnExactValidItemWrong : ChangeSpec := { name := "fnExactValidItem", fn := fun _ => fun
  | [d] => { results := [.lit (.bool false)], args := [d] }
  | _ => none }
def FnExactValidItemWrongFalsely : Prop := fnExactValidItemRow.holds Try.pinned (OpenSpec.ofChange fnExactValidItemWrong)

/-- 'laws.FnExactValidItems': WHATEVER THE INPUT: true; the input reads as it did. -/
def fnExactValidItemsSpec : ChangeSpec := { name := "fnExactValidItems", fn := fun _ => fun
  | [d] => { results := [.lit (.bool true)], args := [d] }
  | _ => none }
def fnExactValidItemsRow : OpenClaim := { program := "ytmbillcdlcgjiaa", sum := "45a95dc4e6780e2eb3fda5c9ee304977c0d7940effc8e20553ac6bbdee75cd84", func := "loop.example/g01033/laws.FnExactValidItems", spec := "fnExactValidItems", inPlace := ["internal/bytealg.abigen_runtime_cmpstring"], unfollowed := true, recurses := true, apart := false }
def FnExactValidItemsSaid : Prop := fnExactValidItemsRow.holds Try.pinned (OpenSpec.ofChange fnExactValidItemsSpec)

/-- ITS FALSE NEIGHBOUR: 'it returns false'. Refute it at one input. -/
def fnExactValidItemsWrong : ChangeSpec := { name := "fnExactValidItems", fn := fun _ => fun
  | [d] => { results := [.lit (.bool false)], args := [d] }
  | _ => none }
def FnExactValidItemsWrongFalsely : Prop := fnExactValidItemsRow.holds Try.pinned (OpenSpec.ofChange fnExactValidItemsWrong)

/-- 'laws.FnExactFitsTime': WHATEVER THE INPUT: true; the input reads as it did. -/
def fnExactFitsTimeSpec : ChangeSpec := { name := "fnExactFitsTime", fn := fun _ => fun
  | [d1, d2, d3] => { results := [.lit (.bool true)], args := [d1, d2, d3] }
  | _ => none }
def fnExactFitsTimeRow : OpenClaim := { program := "ytmbillcdlcgjiaa", sum := "45a95dc4e6780e2eb3fda5c9ee304977c0d7940effc8e20553ac6bbdee75cd84", func := "loop.example/g01033/laws.FnExactFitsTime", spec := "fnExactFitsTime", unfollowed := true, recurses := true, apart := false }
def FnExactFitsTimeSaid : Prop := fnExactFitsTimeRow.holds Try.pinned (OpenSpec.ofChange fnExactFitsTimeSpec)

/-- ITS FALSE NEIGHBOUR: 'it returns false'. Refute it at one input. -/
def fnExactFitsTimeWrong : ChangeSpec := { name := "fnExactFitsTime", fn := fun _ => fun
  | [d1, d2, d3] => { results := [.lit (.bool false)], args := [d1, d2, d3] }
  | _ => none }
def FnExactFitsTimeWrongFalsely : Prop := fnExactFitsTimeRow.holds Try.pinned (OpenSpec.ofChange fnExactFitsTimeWrong)

/-- 'laws.FnExactFittingAt': WHATEVER THE INPUT: true; the input reads as it did. -/
def fnExactFittingAtSpec : ChangeSpec := { name := "fnExactFittingAt", fn := fun _ => fun
  | [d1, d2, d3] => { results := [.lit (.bool true)], args := [d1, d2, d3] }
  | _ => none }
def fnExactFittingAtRow : OpenClaim := { program := "ytmbillcdlcgjiaa", sum := "45a95dc4e6780e2eb3fda5c9ee304977c0d7940effc8e20553ac6bbdee75cd84", func := "loop.example/g01033/laws.FnExactFittingAt", spec := "fnExactFittingAt", inPlace := ["internal/bytealg.abigen_runtime_cmpstring"], unfollowed := true, recurses := true, apart := false }
def FnExactFittingAtSaid : Prop := fnExactFittingAtRow.holds Try.pinned (OpenSpec.ofChange fnExactFittingAtSpec)

/-- ITS FALSE NEIGHBOUR: 'it returns false'. Refute it at one input. -/
def fnExactFittingAtWrong : ChangeSpec := { name := "fnExactFittingAt", fn := fun _ => fun
  | [d1, d2, d3] => { results := [.lit (.bool false)], args := [d1, d2, d3] }
  | _ => none }
def FnExactFittingAtWrongFalsely : Prop := fnExactFittingAtRow.holds Try.pinned (OpenSpec.ofChange fnExactFittingAtWrong)

/-- 'laws.FnExactNextStart': WHATEVER THE INPUT: true; the input reads as it did. -/
def fnExactNextStartSpec : ChangeSpec := { name := "fnExactNextStart", fn := fun _ => fun
  | [d1, d2, d3] => { results := [.lit (.bool true)], args := [d1, d2, d3] }
  | _ => none }
def fnExactNextStartRow : OpenClaim := { program := "ytmbillcdlcgjiaa", sum := "45a95dc4e6780e2eb3fda5c9ee304977c0d7940effc8e20553ac6bbdee75cd84", func := "loop.example/g01033/laws.FnExactNextStart", spec := "fnExactNextStart", unfollowed := true, recurses := true, apart := false }
def FnExactNextStartSaid : Prop := fnExactNextStartRow.holds Try.pinned (OpenSpec.ofChange fnExactNextStartSpec)

/-- ITS FALSE NEIGHBOUR: 'it returns false'. Refute it at one input. -/
def fnExactNextStartWrong : ChangeSpec := { name := "fnExactNextStart", fn := fun _ => fun
  | [d1, d2, d3] => { results := [.lit (.bool false)], args := [d1, d2, d3] }
  | _ => none }
def FnExactNextStartWrongFalsely : Prop := fnExactNextStartRow.holds Try.pinned (OpenSpec.ofChange fnExactNextStartWrong)

/-- 'laws.FnExactEndOf': WHATEVER THE INPUT: true; the input reads as it did. -/
def fnExactEndOfSpec : ChangeSpec := { name := "fnExactEndOf", fn := fun _ => fun
  | [d1, d2, d3, d4] => { results := [.lit (.bool true)], args := [d1, d2, d3, d4] }
  | _ => none }
def fnExactEndOfRow : OpenClaim := { program := "ytmbillcdlcgjiaa", sum := "45a95dc4e6780e2eb3fda5c9ee304977c0d7940effc8e20553ac6bbdee75cd84", func := "loop.example/g01033/laws.FnExactEndOf", spec := "fnExactEndOf", inPlace := ["internal/bytealg.abigen_runtime_cmpstring"], unfollowed := true, recurses := true, apart := false }
def FnExactEndOfSaid : Prop := fnExactEndOfRow.holds Try.pinned (OpenSpec.ofChange fnExactEndOfSpec)

/-- ITS FALSE NEIGHBOUR: 'it returns false'. Refute it at one input. -/
def fnExactEndOfWrong : ChangeSpec := { name := "fnExactEndOf", fn := fun _ => fun
  | [d1, d2, d3, d4] => { results := [.lit (.bool false)], args := [d1, d2, d3, d4] }
  | _ => none }
def FnExactEndOfWrongFalsely : Prop := fnExactEndOfRow.holds Try.pinned (OpenSpec.ofChange fnExactEndOfWrong)

/-- 'laws.FnExactIsProgramme': WHATEVER THE INPUT: true; the input reads as it did. -/
def fnExactIsProgrammeSpec : ChangeSpec := { name := "fnExactIsProgramme", fn := fun _ => fun
  | [d1, d2, d3, d4, d5] => { results := [.lit (.bool true)], args := [d1, d2, d3, d4, d5] }
  | _ => none }
def fnExactIsProgrammeRow : OpenClaim := { program := "ytmbillcdlcgjiaa", sum := "45a95dc4e6780e2eb3fda5c9ee304977c0d7940effc8e20553ac6bbdee75cd84", func := "loop.example/g01033/laws.FnExactIsProgramme", spec := "fnExactIsProgramme", inPlace := ["internal/bytealg.abigen_runtime_cmpstring"], unfollowed := true, recurses := true, apart := false }
def FnExactIsProgrammeSaid : Prop := fnExactIsProgrammeRow.holds Try.pinned (OpenSpec.ofChange fnExactIsProgrammeSpec)

/-- ITS FALSE NEIGHBOUR: 'it returns false'. Refute it at one input. -/
def fnExactIsProgrammeWrong : ChangeSpec := { name := "fnExactIsProgramme", fn := fun _ => fun
  | [d1, d2, d3, d4, d5] => { results := [.lit (.bool false)], args := [d1, d2, d3, d4, d5] }
  | _ => none }
def FnExactIsProgrammeWrongFalsely : Prop := fnExactIsProgrammeRow.holds Try.pinned (OpenSpec.ofChange fnExactIsProgrammeWrong)

/-- 'laws.FnExactWorthOf': WHATEVER THE INPUT: true; the input reads as it did. -/
def fnExactWorthOfSpec : ChangeSpec := { name := "fnExactWorthOf", fn := fun _ => fun
  | [d1, d2] => { results := [.lit (.bool true)], args := [d1, d2] }
  | _ => none }
def fnExactWorthOfRow : OpenClaim := { program := "ytmbillcdlcgjiaa", sum := "45a95dc4e6780e2eb3fda5c9ee304977c0d7940effc8e20553ac6bbdee75cd84", func := "loop.example/g01033/laws.FnExactWorthOf", spec := "fnExactWorthOf", inPlace := ["internal/bytealg.abigen_runtime_cmpstring"], unfollowed := true, recurses := true, apart := false }
def FnExactWorthOfSaid : Prop := fnExactWorthOfRow.holds Try.pinned (OpenSpec.ofChange fnExactWorthOfSpec)

/-- ITS FALSE NEIGHBOUR: 'it returns false'. Refute it at one input. -/
def fnExactWorthOfWrong : ChangeSpec := { name := "fnExactWorthOf", fn := fun _ => fun
  | [d1, d2] => { results := [.lit (.bool false)], args := [d1, d2] }
  | _ => none }
def FnExactWorthOfWrongFalsely : Prop := fnExactWorthOfRow.holds Try.pinned (OpenSpec.ofChange fnExactWorthOfWrong)

/-- 'laws.FnExactBestProgramme': WHATEVER THE INPUT: true; the input reads as it did. -/
def fnExactBestProgrammeSpec : ChangeSpec := { name := "fnExactBestProgramme", fn := fun _ => fun
  | [d1, d2, d3, d4, d5] => { results := [.lit (.bool true)], args := [d1, d2, d3, d4, d5] }
  | _ => none }
def fnExactBestProgrammeRow : OpenClaim := { program := "ytmbillcdlcgjiaa", sum := "45a95dc4e6780e2eb3fda5c9ee304977c0d7940effc8e20553ac6bbdee75cd84", func := "loop.example/g01033/laws.FnExactBestProgramme", spec := "fnExactBestProgramme", inPlace := ["internal/bytealg.abigen_runtime_cmpstring"], unfollowed := true, recurses := true, apart := false }
def FnExactBestProgrammeSaid : Prop := fnExactBestProgrammeRow.holds Try.pinned (OpenSpec.ofChange fnExactBestProgrammeSpec)

/-- ITS FALSE NEIGHBOUR: 'it returns false'. Refute it at one input. -/
def fnExactBestProgrammeWrong : ChangeSpec := { name := "fnExactBestProgramme", fn := fun _ => fun
  | [d1, d2, d3, d4, d5] => { results := [.lit (.bool false)], args := [d1, d2, d3, d4, d5] }
  | _ => none }
def FnExactBestProgrammeWrongFalsely : Prop := fnExactBestProgrammeRow.holds Try.pinned (OpenSpec.ofChange fnExactBestProgrammeWrong)

/-- 'laws.FnExactCountProgrammes': WHATEVER THE INPUT: true; the input reads as it did. -/
def fnExactCountProgrammesSpec : ChangeSpec := { name := "fnExactCountProgrammes", fn := fun _ => fun
  | [d1, d2, d3, d4, d5] => { results := [.lit (.bool true)], args := [d1, d2, d3, d4, d5] }
  | _ => none }
def fnExactCountProgrammesRow : OpenClaim := { program := "ytmbillcdlcgjiaa", sum := "45a95dc4e6780e2eb3fda5c9ee304977c0d7940effc8e20553ac6bbdee75cd84", func := "loop.example/g01033/laws.FnExactCountProgrammes", spec := "fnExactCountProgrammes", inPlace := ["internal/bytealg.abigen_runtime_cmpstring"], unfollowed := true, recurses := true, apart := false }
def FnExactCountProgrammesSaid : Prop := fnExactCountProgrammesRow.holds Try.pinned (OpenSpec.ofChange fnExactCountProgrammesSpec)

/-- ITS FALSE NEIGHBOUR: 'it returns false'. Refute it at one input. -/
def fnExactCountProgrammesWrong : ChangeSpec := { name := "fnExactCountProgrammes", fn := fun _ => fun
  | [d1, d2, d3, d4, d5] => { results := [.lit (.bool false)], args := [d1, d2, d3, d4, d5] }
  | _ => none }
def FnExactCountProgrammesWrongFalsely : Prop := fnExactCountProgrammesRow.holds Try.pinned (OpenSpec.ofChange fnExactCountProgrammesWrong)

/- THE SECOND FORM. 'bulk': how many values and letters a reading holds, each counted each time it is reached (what is shared counts as often as it is met; a slice's spare places count too). A statement '..UptoSaid' is the law's where the arguments, and the package variables that the reading takes, are together of bulk at most 1048576: NARROWER than '..Said'. Prove '..Said' where nothing that the law and all that it calls make is longer than what came in: it says more and counts as full. Else prove '..UptoSaid'. A law counts once. -/
mutual
def uptoBulk {H : Type} : DataW H → Nat
  | .lit (.string bytes) => bytes.length + 1
  | .lit _ => 1
  | .nil => 1
  | .ptr d => uptoBulk d + 1
  | .slice elems spare => uptoBulkAll elems + uptoBulkAll spare + 1
  | .agg parts => uptoBulkAll parts + 1
  | .iface _ d => uptoBulk d + 1
  | .map entries => uptoBulkEntries entries + 1
  | .held _ => 1
def uptoBulkAll {H : Type} : List (DataW H) → Nat
  | [] => 0
  | d :: r => uptoBulk d + uptoBulkAll r
def uptoBulkEntries {H : Type} : List (Lit × DataW H) → Nat
  | [] => 0
  | x :: r => uptoBulkEntry x + uptoBulkEntries r
def uptoBulkEntry {H : Type} : Lit × DataW H → Nat
  | (.string bytes, d) => bytes.length + uptoBulk d + 1
  | (_, d) => uptoBulk d + 1
 end
def uptoSmall : (H : Type) → List (DataW H) → Bool := fun _ ds => decide (uptoBulkAll ds ≤ 1048576)
def OpenSpec.upto (s : _root_.Go.ChangeSpec) : _root_.Go.OpenSpec := { _root_.Go.OpenSpec.ofChange s with cond := some uptoSmall }

/-- 'laws.FnExactMelodyNumber', WHERE WHAT IT READS IS OF BULK AT MOST 1048576: true; the input reads as it did. -/
def fnExactMelodyNumberUptoRow : OpenClaim := { program := "ytmbillcdlcgjiaa", sum := "45a95dc4e6780e2eb3fda5c9ee304977c0d7940effc8e20553ac6bbdee75cd84", func := "loop.example/g01033/laws.FnExactMelodyNumber", spec := "fnExactMelodyNumber", unfollowed := true, recurses := true, apart := false, narrowed := true }
def FnExactMelodyNumberUptoSaid : Prop := fnExactMelodyNumberUptoRow.holds Try.pinned (OpenSpec.upto fnExactMelodyNumberSpec)

/-- 'laws.FnExactNumberedMelody', WHERE WHAT IT READS IS OF BULK AT MOST 1048576: true; the input reads as it did. -/
def fnExactNumberedMelodyUptoRow : OpenClaim := { program := "ytmbillcdlcgjiaa", sum := "45a95dc4e6780e2eb3fda5c9ee304977c0d7940effc8e20553ac6bbdee75cd84", func := "loop.example/g01033/laws.FnExactNumberedMelody", spec := "fnExactNumberedMelody", unfollowed := true, recurses := true, apart := false, narrowed := true }
def FnExactNumberedMelodyUptoSaid : Prop := fnExactNumberedMelodyUptoRow.holds Try.pinned (OpenSpec.upto fnExactNumberedMelodySpec)

/-- 'laws.FnExactShortestMelody', WHERE WHAT IT READS IS OF BULK AT MOST 1048576: true; the input reads as it did. -/
def fnExactShortestMelodyUptoRow : OpenClaim := { program := "ytmbillcdlcgjiaa", sum := "45a95dc4e6780e2eb3fda5c9ee304977c0d7940effc8e20553ac6bbdee75cd84", func := "loop.example/g01033/laws.FnExactShortestMelody", spec := "fnExactShortestMelody", unfollowed := true, recurses := true, apart := false, narrowed := true }
def FnExactShortestMelodyUptoSaid : Prop := fnExactShortestMelodyUptoRow.holds Try.pinned (OpenSpec.upto fnExactShortestMelodySpec)

/-- 'laws.FnExactValidItem', WHERE WHAT IT READS IS OF BULK AT MOST 1048576: true; the input reads as it did. -/
def fnExactValidItemUptoRow : OpenClaim := { program := "ytmbillcdlcgjiaa", sum := "45a95dc4e6780e2eb3fda5c9ee304977c0d7940effc8e20553ac6bbdee75cd84", func := "loop.example/g01033/laws.FnExactValidItem", spec := "fnExactValidItem", apart := false, narrowed := true }
def FnExactValidItemUptoSaid : Prop := fnExactValidItemUptoRow.holds Try.pinned (OpenSpec.upto fnExactValidItemSpec)

/-- 'laws.FnExactValidItems', WHERE WHAT IT READS IS OF BULK AT MOST 1048576: true; the input reads as it did. -/
def fnExactValidItemsUptoRow : OpenClaim := { program := "ytmbillcdlcgjiaa", sum := "45a95dc4e6780e2eb3fda5c9ee304977c0d7940effc8e20553ac6bbdee75cd84", func := "loop.example/g01033/laws.FnExactValidItems", spec := "fnExactValidItems", inPlace := ["internal/bytealg.abigen_runtime_cmpstring"], unfollowed := true, recurses := true, apart := false, narrowed := true }
def FnExactValidItemsUptoSaid : Prop := fnExactValidItemsUptoRow.holds Try.pinned (OpenSpec.upto fnExactValidItemsSpec)

/-- 'laws.FnExactFitsTime', WHERE WHAT IT READS IS OF BULK AT MOST 1048576: true; the input reads as it did. -/
def fnExactFitsTimeUptoRow : OpenClaim := { program := "ytmbillcdlcgjiaa", sum := "45a95dc4e6780e2eb3fda5c9ee304977c0d7940effc8e20553ac6bbdee75cd84", func := "loop.example/g01033/laws.FnExactFitsTime", spec := "fnExactFitsTime", unfollowed := true, recurses := true, apart := false, narrowed := true }
def FnExactFitsTimeUptoSaid : Prop := fnExactFitsTimeUptoRow.holds Try.pinned (OpenSpec.upto fnExactFitsTimeSpec)

/-- 'laws.FnExactFittingAt', WHERE WHAT IT READS IS OF BULK AT MOST 1048576: true; the input reads as it did. -/
def fnExactFittingAtUptoRow : OpenClaim := { program := "ytmbillcdlcgjiaa", sum := "45a95dc4e6780e2eb3fda5c9ee304977c0d7940effc8e20553ac6bbdee75cd84", func := "loop.example/g01033/laws.FnExactFittingAt", spec := "fnExactFittingAt", inPlace := ["internal/bytealg.abigen_runtime_cmpstring"], unfollowed := true, recurses := true, apart := false, narrowed := true }
def FnExactFittingAtUptoSaid : Prop := fnExactFittingAtUptoRow.holds Try.pinned (OpenSpec.upto fnExactFittingAtSpec)

/-- 'laws.FnExactNextStart', WHERE WHAT IT READS IS OF BULK AT MOST 1048576: true; the input reads as it did. -/
def fnExactNextStartUptoRow : OpenClaim := { program := "ytmbillcdlcgjiaa", sum := "45a95dc4e6780e2eb3fda5c9ee304977c0d7940effc8e20553ac6bbdee75cd84", func := "loop.example/g01033/laws.FnExactNextStart", spec := "fnExactNextStart", unfollowed := true, recurses := true, apart := false, narrowed := true }
def FnExactNextStartUptoSaid : Prop := fnExactNextStartUptoRow.holds Try.pinned (OpenSpec.upto fnExactNextStartSpec)

/-- 'laws.FnExactEndOf', WHERE WHAT IT READS IS OF BULK AT MOST 1048576: true; the input reads as it did. -/
def fnExactEndOfUptoRow : OpenClaim := { program := "ytmbillcdlcgjiaa", sum := "45a95dc4e6780e2eb3fda5c9ee304977c0d7940effc8e20553ac6bbdee75cd84", func := "loop.example/g01033/laws.FnExactEndOf", spec := "fnExactEndOf", inPlace := ["internal/bytealg.abigen_runtime_cmpstring"], unfollowed := true, recurses := true, apart := false, narrowed := true }
def FnExactEndOfUptoSaid : Prop := fnExactEndOfUptoRow.holds Try.pinned (OpenSpec.upto fnExactEndOfSpec)

/-- 'laws.FnExactIsProgramme', WHERE WHAT IT READS IS OF BULK AT MOST 1048576: true; the input reads as it did. -/
def fnExactIsProgrammeUptoRow : OpenClaim := { program := "ytmbillcdlcgjiaa", sum := "45a95dc4e6780e2eb3fda5c9ee304977c0d7940effc8e20553ac6bbdee75cd84", func := "loop.example/g01033/laws.FnExactIsProgramme", spec := "fnExactIsProgramme", inPlace := ["internal/bytealg.abigen_runtime_cmpstring"], unfollowed := true, recurses := true, apart := false, narrowed := true }
def FnExactIsProgrammeUptoSaid : Prop := fnExactIsProgrammeUptoRow.holds Try.pinned (OpenSpec.upto fnExactIsProgrammeSpec)

/-- 'laws.FnExactWorthOf', WHERE WHAT IT READS IS OF BULK AT MOST 1048576: true; the input reads as it did. -/
def fnExactWorthOfUptoRow : OpenClaim := { program := "ytmbillcdlcgjiaa", sum := "45a95dc4e6780e2eb3fda5c9ee304977c0d7940effc8e20553ac6bbdee75cd84", func := "loop.example/g01033/laws.FnExactWorthOf", spec := "fnExactWorthOf", inPlace := ["internal/bytealg.abigen_runtime_cmpstring"], unfollowed := true, recurses := true, apart := false, narrowed := true }
def FnExactWorthOfUptoSaid : Prop := fnExactWorthOfUptoRow.holds Try.pinned (OpenSpec.upto fnExactWorthOfSpec)

/-- 'laws.FnExactBestProgramme', WHERE WHAT IT READS IS OF BULK AT MOST 1048576: true; the input reads as it did. -/
def fnExactBestProgrammeUptoRow : OpenClaim := { program := "ytmbillcdlcgjiaa", sum := "45a95dc4e6780e2eb3fda5c9ee304977c0d7940effc8e20553ac6bbdee75cd84", func := "loop.example/g01033/laws.FnExactBestProgramme", spec := "fnExactBestProgramme", inPlace := ["internal/bytealg.abigen_runtime_cmpstring"], unfollowed := true, recurses := true, apart := false, narrowed := true }
def FnExactBestProgrammeUptoSaid : Prop := fnExactBestProgrammeUptoRow.holds Try.pinned (OpenSpec.upto fnExactBestProgrammeSpec)

/-- 'laws.FnExactCountProgrammes', WHERE WHAT IT READS IS OF BULK AT MOST 1048576: true; the input reads as it did. -/
def fnExactCountProgrammesUptoRow : OpenClaim := { program := "ytmbillcdlcgjiaa", sum := "45a95dc4e6780e2eb3fda5c9ee304977c0d7940effc8e20553ac6bbdee75cd84", func := "loop.example/g01033/laws.FnExactCountProgrammes", spec := "fnExactCountProgrammes", inPlace := ["internal/bytealg.abigen_runtime_cmpstring"], unfollowed := true, recurses := true, apart := false, narrowed := true }
def FnExactCountProgrammesUptoSaid : Prop := fnExactCountProgrammesUptoRow.holds Try.pinned (OpenSpec.upto fnExactCountProgrammesSpec)

end Rows
end Go.Proofs.Ytmbillcdlcgjiaa
