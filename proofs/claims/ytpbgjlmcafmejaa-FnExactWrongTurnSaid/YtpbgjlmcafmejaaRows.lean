/-
  No cell of these rows narrows 'for every input' (looked for: loops, veiled, ifaces, maps, wideKeys, modest, calm, conditions, laid).
  DERIVED. THE GIVEN ROWS OF THIS SEAT. 12 by the template 'for every input the law returns true; each argument reads behind the call as it read before'; 0 by the template 'total and deterministic' (their statements: YtpbgjlmcafmejaaTotals.lean).
  GIVEN WITH THE SEED: the statements are not yours to turn. If you find one false, say at which input.
  Laid BY PROGRAM, IN A SANDBOX (cutbox-rows.mjs): the forced cells as the released guide's own fill.sh prints them over the translation 50cef0ed9579e072… (all of the seat's roots in one cut). By AI agents, Wed Nov 11 2026. No macro, syntax, notation, axiom, sorry.
-/
import Derived.Test.YtpbgjlmcafmejaaChecked
import GoSem.Claim
import GoSem.ClaimJoined
import GoSem.ClaimMapViews
import Derived.JoinedTies
import Derived.KernelRfl
namespace Go.Proofs.Ytpbgjlmcafmejaa
/- THE CELL 'sum', in the pinned program and in every row, IS THE sha256 OF THE DUMP (.gsa) THAT YtpbgjlmcafmejaaProg.lean LOADS. Nothing in Lean hashes anything: it is a label: what it is worth is what the hold of that sum in a sandbox is worth. -/
noncomputable def Try.pinned : Pinned := { name := "ytpbgjlmcafmejaa", sum := "50cef0ed9579e072cb7034a620f044e92b8f5e15d81b114c843caf490826f19c", checked := Try.checked }
namespace Rows
def none {H : Type} : Left H := { results := [], args := [] }

/-- 'laws.FnExactValidGrammar': WHATEVER THE INPUT: true; the input reads as it did. -/
def fnExactValidGrammarSpec : ChangeSpec := { name := "fnExactValidGrammar", fn := fun _ => fun
  | [d] => { results := [.lit (.bool true)], args := [d] }
  | _ => none }
def fnExactValidGrammarRow : OpenClaim := { program := "ytpbgjlmcafmejaa", sum := "50cef0ed9579e072cb7034a620f044e92b8f5e15d81b114c843caf490826f19c", func := "loop.example/g01033/laws.FnExactValidGrammar", spec := "fnExactValidGrammar", unfollowed := true, recurses := true, plainKeys := false, apart := false }
def FnExactValidGrammarSaid : Prop := fnExactValidGrammarRow.holds Try.pinned (OpenSpec.ofChange fnExactValidGrammarSpec)

/-- ITS FALSE NEIGHBOUR: 'it returns false'. Refute it at one input. -/
def fnExactValidGrammarWrong : ChangeSpec := { name := "fnExactValidGrammar", fn := fun _ => fun
  | [d] => { results := [.lit (.bool false)], args := [d] }
  | _ => none }
def FnExactValidGrammarWrongFalsely : Prop := fnExactValidGrammarRow.holds Try.pinned (OpenSpec.ofChange fnExactValidGrammarWrong)

/-- 'laws.FnExactSameGrammar': WHATEVER THE INPUT: true; the input reads as it did. -/
def fnExactSameGrammarSpec : ChangeSpec := { name := "fnExactSameGrammar", fn := fun _ => fun
  | [d1, d2] => { results := [.lit (.bool true)], args := [d1, d2] }
  | _ => none }
def fnExactSameGrammarRow : OpenClaim := { program := "ytpbgjlmcafmejaa", sum := "50cef0ed9579e072cb7034a620f044e92b8f5e15d81b114c843caf490826f19c", func := "loop.example/g01033/laws.FnExactSameGrammar", spec := "fnExactSameGrammar", plainKeys := false, apart := false }
def FnExactSameGrammarSaid : Prop := fnExactSameGrammarRow.holds Try.pinned (OpenSpec.ofChange fnExactSameGrammarSpec)

/-- ITS FALSE NEIGHBOUR: 'it returns false'. Refute it at one input. -/
def fnExactSameGrammarWrong : ChangeSpec := { name := "fnExactSameGrammar", fn := fun _ => fun
  | [d1, d2] => { results := [.lit (.bool false)], args := [d1, d2] }
  | _ => none }
def FnExactSameGrammarWrongFalsely : Prop := fnExactSameGrammarRow.holds Try.pinned (OpenSpec.ofChange fnExactSameGrammarWrong)

/-- 'laws.FnExactGrammarOf': WHATEVER THE INPUT: true; the input reads as it did. -/
def fnExactGrammarOfSpec : ChangeSpec := { name := "fnExactGrammarOf", fn := fun _ => fun
  | [d1, d2, d3] => { results := [.lit (.bool true)], args := [d1, d2, d3] }
  | _ => none }
def fnExactGrammarOfRow : OpenClaim := { program := "ytpbgjlmcafmejaa", sum := "50cef0ed9579e072cb7034a620f044e92b8f5e15d81b114c843caf490826f19c", func := "loop.example/g01033/laws.FnExactGrammarOf", spec := "fnExactGrammarOf", unfollowed := true, recurses := true, plainKeys := false, apart := false }
def FnExactGrammarOfSaid : Prop := fnExactGrammarOfRow.holds Try.pinned (OpenSpec.ofChange fnExactGrammarOfSpec)

/-- ITS FALSE NEIGHBOUR: 'it returns false'. Refute it at one input. -/
def fnExactGrammarOfWrong : ChangeSpec := { name := "fnExactGrammarOf", fn := fun _ => fun
  | [d1, d2, d3] => { results := [.lit (.bool false)], args := [d1, d2, d3] }
  | _ => none }
def FnExactGrammarOfWrongFalsely : Prop := fnExactGrammarOfRow.holds Try.pinned (OpenSpec.ofChange fnExactGrammarOfWrong)

/-- 'laws.FnExactAccepts': WHATEVER THE INPUT: true; the input reads as it did. -/
def fnExactAcceptsSpec : ChangeSpec := { name := "fnExactAccepts", fn := fun _ => fun
  | [d1, d2] => { results := [.lit (.bool true)], args := [d1, d2] }
  | _ => none }
def fnExactAcceptsRow : OpenClaim := { program := "ytpbgjlmcafmejaa", sum := "50cef0ed9579e072cb7034a620f044e92b8f5e15d81b114c843caf490826f19c", func := "loop.example/g01033/laws.FnExactAccepts", spec := "fnExactAccepts", unfollowed := true, recurses := true, plainKeys := false, apart := false }
def FnExactAcceptsSaid : Prop := fnExactAcceptsRow.holds Try.pinned (OpenSpec.ofChange fnExactAcceptsSpec)

/-- ITS FALSE NEIGHBOUR: 'it returns false'. Refute it at one input. -/
def fnExactAcceptsWrong : ChangeSpec := { name := "fnExactAccepts", fn := fun _ => fun
  | [d1, d2] => { results := [.lit (.bool false)], args := [d1, d2] }
  | _ => none }
def FnExactAcceptsWrongFalsely : Prop := fnExactAcceptsRow.holds Try.pinned (OpenSpec.ofChange fnExactAcceptsWrong)

/-- 'laws.FnExactWrongTurn': WHATEVER THE INPUT: true; the input reads as it did. -/
def fnExactWrongTurnSpec : ChangeSpec := { name := "fnExactWrongTurn", fn := fun _ => fun
  | [d1, d2] => { results := [.lit (.bool true)], args := [d1, d2] }
  | _ => none }
def fnExactWrongTurnRow : OpenClaim := { program := "ytpbgjlmcafmejaa", sum := "50cef0ed9579e072cb7034a620f044e92b8f5e15d81b114c843caf490826f19c", func := "loop.example/g01033/laws.FnExactWrongTurn", spec := "fnExactWrongTurn", unfollowed := true, recurses := true, plainKeys := false, apart := false }
def FnExactWrongTurnSaid : Prop := fnExactWrongTurnRow.holds Try.pinned (OpenSpec.ofChange fnExactWrongTurnSpec)

/-- ITS FALSE NEIGHBOUR: 'it returns false'. Refute it at one input. -/
def fnExactWrongTurnWrong : ChangeSpec := { name := "fnExactWrongTurn", fn := fun _ => fun
  | [d1, d2] => { results := [.lit (.bool false)], args := [d1, d2] }
  | _ => none }
def FnExactWrongTurnWrongFalsely : Prop := fnExactWrongTurnRow.holds Try.pinned (OpenSpec.ofChange fnExactWrongTurnWrong)

/-- 'laws.FnExactCountMelodies': WHATEVER THE INPUT: true; the input reads as it did. -/
def fnExactCountMelodiesSpec : ChangeSpec := { name := "fnExactCountMelodies", fn := fun _ => fun
  | [d1, d2] => { results := [.lit (.bool true)], args := [d1, d2] }
  | _ => none }
def fnExactCountMelodiesRow : OpenClaim := { program := "ytpbgjlmcafmejaa", sum := "50cef0ed9579e072cb7034a620f044e92b8f5e15d81b114c843caf490826f19c", func := "loop.example/g01033/laws.FnExactCountMelodies", spec := "fnExactCountMelodies", unfollowed := true, recurses := true, plainKeys := false, apart := false }
def FnExactCountMelodiesSaid : Prop := fnExactCountMelodiesRow.holds Try.pinned (OpenSpec.ofChange fnExactCountMelodiesSpec)

/-- ITS FALSE NEIGHBOUR: 'it returns false'. Refute it at one input. -/
def fnExactCountMelodiesWrong : ChangeSpec := { name := "fnExactCountMelodies", fn := fun _ => fun
  | [d1, d2] => { results := [.lit (.bool false)], args := [d1, d2] }
  | _ => none }
def FnExactCountMelodiesWrongFalsely : Prop := fnExactCountMelodiesRow.holds Try.pinned (OpenSpec.ofChange fnExactCountMelodiesWrong)

/-- 'laws.FnExactMelodyNumber': WHATEVER THE INPUT: true; the input reads as it did. -/
def fnExactMelodyNumberSpec : ChangeSpec := { name := "fnExactMelodyNumber", fn := fun _ => fun
  | [d1, d2] => { results := [.lit (.bool true)], args := [d1, d2] }
  | _ => none }
def fnExactMelodyNumberRow : OpenClaim := { program := "ytpbgjlmcafmejaa", sum := "50cef0ed9579e072cb7034a620f044e92b8f5e15d81b114c843caf490826f19c", func := "loop.example/g01033/laws.FnExactMelodyNumber", spec := "fnExactMelodyNumber", unfollowed := true, recurses := true, plainKeys := false, apart := false }
def FnExactMelodyNumberSaid : Prop := fnExactMelodyNumberRow.holds Try.pinned (OpenSpec.ofChange fnExactMelodyNumberSpec)

/-- ITS FALSE NEIGHBOUR: 'it returns false'. Refute it at one input. -/
def fnExactMelodyNumberWrong : ChangeSpec := { name := "fnExactMelodyNumber", fn := fun _ => fun
  | [d1, d2] => { results := [.lit (.bool false)], args := [d1, d2] }
  | _ => none }
def FnExactMelodyNumberWrongFalsely : Prop := fnExactMelodyNumberRow.holds Try.pinned (OpenSpec.ofChange fnExactMelodyNumberWrong)

/-- 'laws.FnExactNumberedMelody': WHATEVER THE INPUT: true; the input reads as it did. -/
def fnExactNumberedMelodySpec : ChangeSpec := { name := "fnExactNumberedMelody", fn := fun _ => fun
  | [d1, d2, d3] => { results := [.lit (.bool true)], args := [d1, d2, d3] }
  | _ => none }
def fnExactNumberedMelodyRow : OpenClaim := { program := "ytpbgjlmcafmejaa", sum := "50cef0ed9579e072cb7034a620f044e92b8f5e15d81b114c843caf490826f19c", func := "loop.example/g01033/laws.FnExactNumberedMelody", spec := "fnExactNumberedMelody", unfollowed := true, recurses := true, plainKeys := false, apart := false }
def FnExactNumberedMelodySaid : Prop := fnExactNumberedMelodyRow.holds Try.pinned (OpenSpec.ofChange fnExactNumberedMelodySpec)

/-- ITS FALSE NEIGHBOUR: 'it returns false'. Refute it at one input. -/
def fnExactNumberedMelodyWrong : ChangeSpec := { name := "fnExactNumberedMelody", fn := fun _ => fun
  | [d1, d2, d3] => { results := [.lit (.bool false)], args := [d1, d2, d3] }
  | _ => none }
def FnExactNumberedMelodyWrongFalsely : Prop := fnExactNumberedMelodyRow.holds Try.pinned (OpenSpec.ofChange fnExactNumberedMelodyWrong)

/-- 'laws.FnExactShortestMelody': WHATEVER THE INPUT: true; the input reads as it did. -/
def fnExactShortestMelodySpec : ChangeSpec := { name := "fnExactShortestMelody", fn := fun _ => fun
  | [d] => { results := [.lit (.bool true)], args := [d] }
  | _ => none }
def fnExactShortestMelodyRow : OpenClaim := { program := "ytpbgjlmcafmejaa", sum := "50cef0ed9579e072cb7034a620f044e92b8f5e15d81b114c843caf490826f19c", func := "loop.example/g01033/laws.FnExactShortestMelody", spec := "fnExactShortestMelody", unfollowed := true, recurses := true, plainKeys := false, apart := false }
def FnExactShortestMelodySaid : Prop := fnExactShortestMelodyRow.holds Try.pinned (OpenSpec.ofChange fnExactShortestMelodySpec)

/-- ITS FALSE NEIGHBOUR: 'it returns false'. Refute it at one input. -/
def fnExactShortestMelodyWrong : ChangeSpec := { name := "fnExactShortestMelody", fn := fun _ => fun
  | [d] => { results := [.lit (.bool false)], args := [d] }
  | _ => none }
def FnExactShortestMelodyWrongFalsely : Prop := fnExactShortestMelodyRow.holds Try.pinned (OpenSpec.ofChange fnExactShortestMelodyWrong)

/-- 'laws.FnExactMeetGrammars': WHATEVER THE INPUT: true; the input reads as it did. -/
def fnExactMeetGrammarsSpec : ChangeSpec := { name := "fnExactMeetGrammars", fn := fun _ => fun
  | [d1, d2] => { results := [.lit (.bool true)], args := [d1, d2] }
  | _ => none }
def fnExactMeetGrammarsRow : OpenClaim := { program := "ytpbgjlmcafmejaa", sum := "50cef0ed9579e072cb7034a620f044e92b8f5e15d81b114c843caf490826f19c", func := "loop.example/g01033/laws.FnExactMeetGrammars", spec := "fnExactMeetGrammars", unfollowed := true, recurses := true, plainKeys := false, apart := false }
def FnExactMeetGrammarsSaid : Prop := fnExactMeetGrammarsRow.holds Try.pinned (OpenSpec.ofChange fnExactMeetGrammarsSpec)

/-- ITS FALSE NEIGHBOUR: 'it returns false'. Refute it at one input. -/
def fnExactMeetGrammarsWrong : ChangeSpec := { name := "fnExactMeetGrammars", fn := fun _ => fun
  | [d1, d2] => { results := [.lit (.bool false)], args := [d1, d2] }
  | _ => none }
def FnExactMeetGrammarsWrongFalsely : Prop := fnExactMeetGrammarsRow.holds Try.pinned (OpenSpec.ofChange fnExactMeetGrammarsWrong)

/-- 'laws.FnExactDeadStates': WHATEVER THE INPUT: true; the input reads as it did. -/
def fnExactDeadStatesSpec : ChangeSpec := { name := "fnExactDeadStates", fn := fun _ => fun
  | [d] => { results := [.lit (.bool true)], args := [d] }
  | _ => none }
def fnExactDeadStatesRow : OpenClaim := { program := "ytpbgjlmcafmejaa", sum := "50cef0ed9579e072cb7034a620f044e92b8f5e15d81b114c843caf490826f19c", func := "loop.example/g01033/laws.FnExactDeadStates", spec := "fnExactDeadStates", unfollowed := true, recurses := true, plainKeys := false, apart := false }
def FnExactDeadStatesSaid : Prop := fnExactDeadStatesRow.holds Try.pinned (OpenSpec.ofChange fnExactDeadStatesSpec)

/-- ITS FALSE NEIGHBOUR: 'it returns false'. Refute it at one input. -/
def fnExactDeadStatesWrong : ChangeSpec := { name := "fnExactDeadStates", fn := fun _ => fun
  | [d] => { results := [.lit (.bool false)], args := [d] }
  | _ => none }
def FnExactDeadStatesWrongFalsely : Prop := fnExactDeadStatesRow.holds Try.pinned (OpenSpec.ofChange fnExactDeadStatesWrong)

/-- 'laws.FnExactFrequentPhrase': WHATEVER THE INPUT: true; the input reads as it did. -/
def fnExactFrequentPhraseSpec : ChangeSpec := { name := "fnExactFrequentPhrase", fn := fun _ => fun
  | [d1, d2] => { results := [.lit (.bool true)], args := [d1, d2] }
  | _ => none }
def fnExactFrequentPhraseRow : OpenClaim := { program := "ytpbgjlmcafmejaa", sum := "50cef0ed9579e072cb7034a620f044e92b8f5e15d81b114c843caf490826f19c", func := "loop.example/g01033/laws.FnExactFrequentPhrase", spec := "fnExactFrequentPhrase", plainKeys := false, apart := false }
def FnExactFrequentPhraseSaid : Prop := fnExactFrequentPhraseRow.holds Try.pinned (OpenSpec.ofChange fnExactFrequentPhraseSpec)

/-- ITS FALSE NEIGHBOUR: 'it returns false'. Refute it at one input. -/
def fnExactFrequentPhraseWrong : ChangeSpec := { name := "fnExactFrequentPhrase", fn := fun _ => fun
  | [d1, d2] => { results := [.lit (.bool false)], args := [d1, d2] }
  | _ => none }
def FnExactFrequentPhraseWrongFalsely : Prop := fnExactFrequentPhraseRow.holds Try.pinned (OpenSpec.ofChange fnExactFrequentPhraseWrong)

/- THE SECOND FORM. 'bulk': how many values and letters a reading holds, each counted each time it is reached (what is shared counts as often as it is met; a slice's spare places count too). A statement '..UptoSaid' is the law's where the arguments, and the package variables that the reading takes, are together of bulk at most 1048576: NARROWER than '..Said'. Prove '..Said' where nothing that the law and all that it calls make is longer than what came in: it says more and counts as full. Else prove '..UptoSaid'. A law counts once. -/
mutual
def uptoBulk {H : Type} : DataW H → Nat
  | .lit (.string bytes) => bytes.length + 1
  | .lit _ => 1
  | .nil => 1
  | .ptr d => uptoBulk d + 1
  | .slice elems spare => uptoBulkAll elems + uptoBulkAll spare + 1
  | .agg parts => uptoBulkAll parts + 1
  | .iface _ d => uptoBulk d + 1
  | .map entries => uptoBulkEntries entries + 1
  | .held _ => 1
def uptoBulkAll {H : Type} : List (DataW H) → Nat
  | [] => 0
  | d :: r => uptoBulk d + uptoBulkAll r
def uptoBulkEntries {H : Type} : List (Lit × DataW H) → Nat
  | [] => 0
  | x :: r => uptoBulkEntry x + uptoBulkEntries r
def uptoBulkEntry {H : Type} : Lit × DataW H → Nat
  | (.string bytes, d) => bytes.length + uptoBulk d + 1
  | (_, d) => uptoBulk d + 1
 end
def uptoSmall : (H : Type) → List (DataW H) → Bool := fun _ ds => decide (uptoBulkAll ds ≤ 1048576)
def OpenSpec.upto (s : _root_.Go.ChangeSpec) : _root_.Go.OpenSpec := { _root_.Go.OpenSpec.ofChange s with cond := some uptoSmall }

/-- 'laws.FnExactValidGrammar', WHERE WHAT IT READS IS OF BULK AT MOST 1048576: true; the input reads as it did. -/
def fnExactValidGrammarUptoRow : OpenClaim := { program := "ytpbgjlmcafmejaa", sum := "50cef0ed9579e072cb7034a620f044e92b8f5e15d81b114c843caf490826f19c", func := "loop.example/g01033/laws.FnExactValidGrammar", spec := "fnExactValidGrammar", unfollowed := true, recurses := true, plainKeys := false, apart := false, narrowed := true }
def FnExactValidGrammarUptoSaid : Prop := fnExactValidGrammarUptoRow.holds Try.pinned (OpenSpec.upto fnExactValidGrammarSpec)

/-- 'laws.FnExactSameGrammar', WHERE WHAT IT READS IS OF BULK AT MOST 1048576: true; the input reads as it did. -/
def fnExactSameGrammarUptoRow : OpenClaim := { program := "ytpbgjlmcafmejaa", sum := "50cef0ed9579e072cb7034a620f044e92b8f5e15d81b114c843caf490826f19c", func := "loop.example/g01033/laws.FnExactSameGrammar", spec := "fnExactSameGrammar", plainKeys := false, apart := false, narrowed := true }
def FnExactSameGrammarUptoSaid : Prop := fnExactSameGrammarUptoRow.holds Try.pinned (OpenSpec.upto fnExactSameGrammarSpec)

/-- 'laws.FnExactGrammarOf', WHERE WHAT IT READS IS OF BULK AT MOST 1048576: true; the input reads as it did. -/
def fnExactGrammarOfUptoRow : OpenClaim := { program := "ytpbgjlmcafmejaa", sum := "50cef0ed9579e072cb7034a620f044e92b8f5e15d81b114c843caf490826f19c", func := "loop.example/g01033/laws.FnExactGrammarOf", spec := "fnExactGrammarOf", unfollowed := true, recurses := true, plainKeys := false, apart := false, narrowed := true }
def FnExactGrammarOfUptoSaid : Prop := fnExactGrammarOfUptoRow.holds Try.pinned (OpenSpec.upto fnExactGrammarOfSpec)

/-- 'laws.FnExactAccepts', WHERE WHAT IT READS IS OF BULK AT MOST 1048576: true; the input reads as it did. -/
def fnExactAcceptsUptoRow : OpenClaim := { program := "ytpbgjlmcafmejaa", sum := "50cef0ed9579e072cb7034a620f044e92b8f5e15d81b114c843caf490826f19c", func := "loop.example/g01033/laws.FnExactAccepts", spec := "fnExactAccepts", unfollowed := true, recurses := true, plainKeys := false, apart := false, narrowed := true }
def FnExactAcceptsUptoSaid : Prop := fnExactAcceptsUptoRow.holds Try.pinned (OpenSpec.upto fnExactAcceptsSpec)

/-- 'laws.FnExactWrongTurn', WHERE WHAT IT READS IS OF BULK AT MOST 1048576: true; the input reads as it did. -/
def fnExactWrongTurnUptoRow : OpenClaim := { program := "ytpbgjlmcafmejaa", sum := "50cef0ed9579e072cb7034a620f044e92b8f5e15d81b114c843caf490826f19c", func := "loop.example/g01033/laws.FnExactWrongTurn", spec := "fnExactWrongTurn", unfollowed := true, recurses := true, plainKeys := false, apart := false, narrowed := true }
def FnExactWrongTurnUptoSaid : Prop := fnExactWrongTurnUptoRow.holds Try.pinned (OpenSpec.upto fnExactWrongTurnSpec)

/-- 'laws.FnExactCountMelodies', WHERE WHAT IT READS IS OF BULK AT MOST 1048576: true; the input reads as it did. -/
def fnExactCountMelodiesUptoRow : OpenClaim := { program := "ytpbgjlmcafmejaa", sum := "50cef0ed9579e072cb7034a620f044e92b8f5e15d81b114c843caf490826f19c", func := "loop.example/g01033/laws.FnExactCountMelodies", spec := "fnExactCountMelodies", unfollowed := true, recurses := true, plainKeys := false, apart := false, narrowed := true }
def FnExactCountMelodiesUptoSaid : Prop := fnExactCountMelodiesUptoRow.holds Try.pinned (OpenSpec.upto fnExactCountMelodiesSpec)

/-- 'laws.FnExactMelodyNumber', WHERE WHAT IT READS IS OF BULK AT MOST 1048576: true; the input reads as it did. -/
def fnExactMelodyNumberUptoRow : OpenClaim := { program := "ytpbgjlmcafmejaa", sum := "50cef0ed9579e072cb7034a620f044e92b8f5e15d81b114c843caf490826f19c", func := "loop.example/g01033/laws.FnExactMelodyNumber", spec := "fnExactMelodyNumber", unfollowed := true, recurses := true, plainKeys := false, apart := false, narrowed := true }
def FnExactMelodyNumberUptoSaid : Prop := fnExactMelodyNumberUptoRow.holds Try.pinned (OpenSpec.upto fnExactMelodyNumberSpec)

/-- 'laws.FnExactNumberedMelody', WHERE WHAT IT READS IS OF BULK AT MOST 1048576: true; the input reads as it did. -/
def fnExactNumberedMelodyUptoRow : OpenClaim := { program := "ytpbgjlmcafmejaa", sum := "50cef0ed9579e072cb7034a620f044e92b8f5e15d81b114c843caf490826f19c", func := "loop.example/g01033/laws.FnExactNumberedMelody", spec := "fnExactNumberedMelody", unfollowed := true, recurses := true, plainKeys := false, apart := false, narrowed := true }
def FnExactNumberedMelodyUptoSaid : Prop := fnExactNumberedMelodyUptoRow.holds Try.pinned (OpenSpec.upto fnExactNumberedMelodySpec)

/-- 'laws.FnExactShortestMelody', WHERE WHAT IT READS IS OF BULK AT MOST 1048576: true; the input reads as it did. -/
def fnExactShortestMelodyUptoRow : OpenClaim := { program := "ytpbgjlmcafmejaa", sum := "50cef0ed9579e072cb7034a620f044e92b8f5e15d81b114c843caf490826f19c", func := "loop.example/g01033/laws.FnExactShortestMelody", spec := "fnExactShortestMelody", unfollowed := true, recurses := true, plainKeys := false, apart := false, narrowed := true }
def FnExactShortestMelodyUptoSaid : Prop := fnExactShortestMelodyUptoRow.holds Try.pinned (OpenSpec.upto fnExactShortestMelodySpec)

/-- 'laws.FnExactMeetGrammars', WHERE WHAT IT READS IS OF BULK AT MOST 1048576: true; the input reads as it did. -/
def fnExactMeetGrammarsUptoRow : OpenClaim := { program := "ytpbgjlmcafmejaa", sum := "50cef0ed9579e072cb7034a620f044e92b8f5e15d81b114c843caf490826f19c", func := "loop.example/g01033/laws.FnExactMeetGrammars", spec := "fnExactMeetGrammars", unfollowed := true, recurses := true, plainKeys := false, apart := false, narrowed := true }
def FnExactMeetGrammarsUptoSaid : Prop := fnExactMeetGrammarsUptoRow.holds Try.pinned (OpenSpec.upto fnExactMeetGrammarsSpec)

/-- 'laws.FnExactDeadStates', WHERE WHAT IT READS IS OF BULK AT MOST 1048576: true; the input reads as it did. -/
def fnExactDeadStatesUptoRow : OpenClaim := { program := "ytpbgjlmcafmejaa", sum := "50cef0ed9579e072cb7034a620f044e92b8f5e15d81b114c843caf490826f19c", func := "loop.example/g01033/laws.FnExactDeadStates", spec := "fnExactDeadStates", unfollowed := true, recurses := true, plainKeys := false, apart := false, narrowed := true }
def FnExactDeadStatesUptoSaid : Prop := fnExactDeadStatesUptoRow.holds Try.pinned (OpenSpec.upto fnExactDeadStatesSpec)

/-- 'laws.FnExactFrequentPhrase', WHERE WHAT IT READS IS OF BULK AT MOST 1048576: true; the input reads as it did. -/
def fnExactFrequentPhraseUptoRow : OpenClaim := { program := "ytpbgjlmcafmejaa", sum := "50cef0ed9579e072cb7034a620f044e92b8f5e15d81b114c843caf490826f19c", func := "loop.example/g01033/laws.FnExactFrequentPhrase", spec := "fnExactFrequentPhrase", plainKeys := false, apart := false, narrowed := true }
def FnExactFrequentPhraseUptoSaid : Prop := fnExactFrequentPhraseUptoRow.holds Try.pinned (OpenSpec.upto fnExactFrequentPhraseSpec)

end Rows
end Go.Proofs.Ytpbgjlmcafmejaa
