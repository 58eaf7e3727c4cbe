/-
  No cell of these rows narrows 'for every input' (looked for: loops, veiled, ifaces, maps, wideKeys, modest, calm, conditions, laid).
  DERIVED. THE GIVEN ROWS OF THIS SEAT. 10 by the template 'for every input the law returns true; each argument reads behind the call as it read before'; 0 by the template 'total and deterministic' (their statements: YtobhmoohalkijaaTotals.lean).
  GIVEN WITH THE SEED: the statements are not yours to turn. If you find one false, say at which input.
  Laid BY PROGRAM, IN A SANDBOX (cutbox-rows.mjs): the forced cells as the released guide's own fill.sh prints them over the translation de712140a50ea007… (all of the seat's roots in one cut). By AI agents, Wed Nov 11 2026. No macro, syntax, notation, axiom, sorry.
-/
import Derived.Test.YtobhmoohalkijaaChecked
import GoSem.Claim
import GoSem.ClaimJoined
import GoSem.ClaimMapViews
import Derived.JoinedTies
import Derived.KernelRfl
namespace Go.Proofs.Ytobhmoohalkijaa
/- THE CELL 'sum', in the pinned program and in every row, IS THE sha256 OF THE DUMP (.gsa) THAT YtobhmoohalkijaaProg.lean LOADS. Nothing in Lean hashes anything: it is a label: what it is worth is what the hold of that sum in a sandbox is worth. -/
noncomputable def Try.pinned : Pinned := { name := "ytobhmoohalkijaa", sum := "de712140a50ea007671cf1c981b8ed31bd333dd388706026a1f04be139acf88d", checked := Try.checked }
namespace Rows
def none {H : Type} : Left H := { results := [], args := [] }

/-- 'laws.FnExactValidPhrases': WHATEVER THE INPUT: true; the input reads as it did. -/
def fnExactValidPhrasesSpec : ChangeSpec := { name := "fnExactValidPhrases", fn := fun _ => fun
  | [d] => { results := [.lit (.bool true)], args := [d] }
  | _ => none }
def fnExactValidPhrasesRow : OpenClaim := { program := "ytobhmoohalkijaa", sum := "de712140a50ea007671cf1c981b8ed31bd333dd388706026a1f04be139acf88d", func := "loop.example/g01033/laws.FnExactValidPhrases", spec := "fnExactValidPhrases", plainKeys := false, apart := false }
def FnExactValidPhrasesSaid : Prop := fnExactValidPhrasesRow.holds Try.pinned (OpenSpec.ofChange fnExactValidPhrasesSpec)

/-- ITS FALSE NEIGHBOUR: 'it returns false'. Refute it at one input. -/
def fnExactValidPhrasesWrong : ChangeSpec := { name := "fnExactValidPhrases", fn := fun _ => fun
  | [d] => { results := [.lit (.bool false)], args := [d] }
  | _ => none }
def FnExactValidPhrasesWrongFalsely : Prop := fnExactValidPhrasesRow.holds Try.pinned (OpenSpec.ofChange fnExactValidPhrasesWrong)

/-- 'laws.FnExactPhraseFits': WHATEVER THE INPUT: true; the input reads as it did. -/
def fnExactPhraseFitsSpec : ChangeSpec := { name := "fnExactPhraseFits", fn := fun _ => fun
  | [d1, d2] => { results := [.lit (.bool true)], args := [d1, d2] }
  | _ => none }
def fnExactPhraseFitsRow : OpenClaim := { program := "ytobhmoohalkijaa", sum := "de712140a50ea007671cf1c981b8ed31bd333dd388706026a1f04be139acf88d", func := "loop.example/g01033/laws.FnExactPhraseFits", spec := "fnExactPhraseFits", plainKeys := false, apart := false }
def FnExactPhraseFitsSaid : Prop := fnExactPhraseFitsRow.holds Try.pinned (OpenSpec.ofChange fnExactPhraseFitsSpec)

/-- ITS FALSE NEIGHBOUR: 'it returns false'. Refute it at one input. -/
def fnExactPhraseFitsWrong : ChangeSpec := { name := "fnExactPhraseFits", fn := fun _ => fun
  | [d1, d2] => { results := [.lit (.bool false)], args := [d1, d2] }
  | _ => none }
def FnExactPhraseFitsWrongFalsely : Prop := fnExactPhraseFitsRow.holds Try.pinned (OpenSpec.ofChange fnExactPhraseFitsWrong)

/-- 'laws.FnExactFindPhrase': WHATEVER THE INPUT: true; the input reads as it did. -/
def fnExactFindPhraseSpec : ChangeSpec := { name := "fnExactFindPhrase", fn := fun _ => fun
  | [d1, d2] => { results := [.lit (.bool true)], args := [d1, d2] }
  | _ => none }
def fnExactFindPhraseRow : OpenClaim := { program := "ytobhmoohalkijaa", sum := "de712140a50ea007671cf1c981b8ed31bd333dd388706026a1f04be139acf88d", func := "loop.example/g01033/laws.FnExactFindPhrase", spec := "fnExactFindPhrase", unfollowed := true, recurses := true, plainKeys := false, apart := false }
def FnExactFindPhraseSaid : Prop := fnExactFindPhraseRow.holds Try.pinned (OpenSpec.ofChange fnExactFindPhraseSpec)

/-- ITS FALSE NEIGHBOUR: 'it returns false'. Refute it at one input. -/
def fnExactFindPhraseWrong : ChangeSpec := { name := "fnExactFindPhrase", fn := fun _ => fun
  | [d1, d2] => { results := [.lit (.bool false)], args := [d1, d2] }
  | _ => none }
def FnExactFindPhraseWrongFalsely : Prop := fnExactFindPhraseRow.holds Try.pinned (OpenSpec.ofChange fnExactFindPhraseWrong)

/-- 'laws.FnExactCountApart': WHATEVER THE INPUT: true; the input reads as it did. -/
def fnExactCountApartSpec : ChangeSpec := { name := "fnExactCountApart", fn := fun _ => fun
  | [d1, d2] => { results := [.lit (.bool true)], args := [d1, d2] }
  | _ => none }
def fnExactCountApartRow : OpenClaim := { program := "ytobhmoohalkijaa", sum := "de712140a50ea007671cf1c981b8ed31bd333dd388706026a1f04be139acf88d", func := "loop.example/g01033/laws.FnExactCountApart", spec := "fnExactCountApart", unfollowed := true, recurses := true, plainKeys := false, apart := false }
def FnExactCountApartSaid : Prop := fnExactCountApartRow.holds Try.pinned (OpenSpec.ofChange fnExactCountApartSpec)

/-- ITS FALSE NEIGHBOUR: 'it returns false'. Refute it at one input. -/
def fnExactCountApartWrong : ChangeSpec := { name := "fnExactCountApart", fn := fun _ => fun
  | [d1, d2] => { results := [.lit (.bool false)], args := [d1, d2] }
  | _ => none }
def FnExactCountApartWrongFalsely : Prop := fnExactCountApartRow.holds Try.pinned (OpenSpec.ofChange fnExactCountApartWrong)

/-- 'laws.FnExactBorderOf': WHATEVER THE INPUT: true; the input reads as it did. -/
def fnExactBorderOfSpec : ChangeSpec := { name := "fnExactBorderOf", fn := fun _ => fun
  | [d] => { results := [.lit (.bool true)], args := [d] }
  | _ => none }
def fnExactBorderOfRow : OpenClaim := { program := "ytobhmoohalkijaa", sum := "de712140a50ea007671cf1c981b8ed31bd333dd388706026a1f04be139acf88d", func := "loop.example/g01033/laws.FnExactBorderOf", spec := "fnExactBorderOf", plainKeys := false, apart := false }
def FnExactBorderOfSaid : Prop := fnExactBorderOfRow.holds Try.pinned (OpenSpec.ofChange fnExactBorderOfSpec)

/-- ITS FALSE NEIGHBOUR: 'it returns false'. Refute it at one input. -/
def fnExactBorderOfWrong : ChangeSpec := { name := "fnExactBorderOf", fn := fun _ => fun
  | [d] => { results := [.lit (.bool false)], args := [d] }
  | _ => none }
def FnExactBorderOfWrongFalsely : Prop := fnExactBorderOfRow.holds Try.pinned (OpenSpec.ofChange fnExactBorderOfWrong)

/-- 'laws.FnExactCommonPhrase': WHATEVER THE INPUT: true; the input reads as it did. -/
def fnExactCommonPhraseSpec : ChangeSpec := { name := "fnExactCommonPhrase", fn := fun _ => fun
  | [d1, d2] => { results := [.lit (.bool true)], args := [d1, d2] }
  | _ => none }
def fnExactCommonPhraseRow : OpenClaim := { program := "ytobhmoohalkijaa", sum := "de712140a50ea007671cf1c981b8ed31bd333dd388706026a1f04be139acf88d", func := "loop.example/g01033/laws.FnExactCommonPhrase", spec := "fnExactCommonPhrase", unfollowed := true, recurses := true, plainKeys := false, apart := false }
def FnExactCommonPhraseSaid : Prop := fnExactCommonPhraseRow.holds Try.pinned (OpenSpec.ofChange fnExactCommonPhraseSpec)

/-- ITS FALSE NEIGHBOUR: 'it returns false'. Refute it at one input. -/
def fnExactCommonPhraseWrong : ChangeSpec := { name := "fnExactCommonPhrase", fn := fun _ => fun
  | [d1, d2] => { results := [.lit (.bool false)], args := [d1, d2] }
  | _ => none }
def FnExactCommonPhraseWrongFalsely : Prop := fnExactCommonPhraseRow.holds Try.pinned (OpenSpec.ofChange fnExactCommonPhraseWrong)

/-- 'laws.FnExactFrequentPhrase': WHATEVER THE INPUT: true; the input reads as it did. -/
def fnExactFrequentPhraseSpec : ChangeSpec := { name := "fnExactFrequentPhrase", fn := fun _ => fun
  | [d1, d2] => { results := [.lit (.bool true)], args := [d1, d2] }
  | _ => none }
def fnExactFrequentPhraseRow : OpenClaim := { program := "ytobhmoohalkijaa", sum := "de712140a50ea007671cf1c981b8ed31bd333dd388706026a1f04be139acf88d", func := "loop.example/g01033/laws.FnExactFrequentPhrase", spec := "fnExactFrequentPhrase", plainKeys := false, apart := false }
def FnExactFrequentPhraseSaid : Prop := fnExactFrequentPhraseRow.holds Try.pinned (OpenSpec.ofChange fnExactFrequentPhraseSpec)

/-- ITS FALSE NEIGHBOUR: 'it returns false'. Refute it at one input. -/
def fnExactFrequentPhraseWrong : ChangeSpec := { name := "fnExactFrequentPhrase", fn := fun _ => fun
  | [d1, d2] => { results := [.lit (.bool false)], args := [d1, d2] }
  | _ => none }
def FnExactFrequentPhraseWrongFalsely : Prop := fnExactFrequentPhraseRow.holds Try.pinned (OpenSpec.ofChange fnExactFrequentPhraseWrong)

/-- 'laws.FnExactCoveredBy': WHATEVER THE INPUT: true; the input reads as it did. -/
def fnExactCoveredBySpec : ChangeSpec := { name := "fnExactCoveredBy", fn := fun _ => fun
  | [d1, d2] => { results := [.lit (.bool true)], args := [d1, d2] }
  | _ => none }
def fnExactCoveredByRow : OpenClaim := { program := "ytobhmoohalkijaa", sum := "de712140a50ea007671cf1c981b8ed31bd333dd388706026a1f04be139acf88d", func := "loop.example/g01033/laws.FnExactCoveredBy", spec := "fnExactCoveredBy", unfollowed := true, recurses := true, plainKeys := false, apart := false }
def FnExactCoveredBySaid : Prop := fnExactCoveredByRow.holds Try.pinned (OpenSpec.ofChange fnExactCoveredBySpec)

/-- ITS FALSE NEIGHBOUR: 'it returns false'. Refute it at one input. -/
def fnExactCoveredByWrong : ChangeSpec := { name := "fnExactCoveredBy", fn := fun _ => fun
  | [d1, d2] => { results := [.lit (.bool false)], args := [d1, d2] }
  | _ => none }
def FnExactCoveredByWrongFalsely : Prop := fnExactCoveredByRow.holds Try.pinned (OpenSpec.ofChange fnExactCoveredByWrong)

/-- 'laws.FnExactMovePhrase': WHATEVER THE INPUT: true; the input reads as it did. -/
def fnExactMovePhraseSpec : ChangeSpec := { name := "fnExactMovePhrase", fn := fun _ => fun
  | [d1, d2] => { results := [.lit (.bool true)], args := [d1, d2] }
  | _ => none }
def fnExactMovePhraseRow : OpenClaim := { program := "ytobhmoohalkijaa", sum := "de712140a50ea007671cf1c981b8ed31bd333dd388706026a1f04be139acf88d", func := "loop.example/g01033/laws.FnExactMovePhrase", spec := "fnExactMovePhrase", plainKeys := false, apart := false }
def FnExactMovePhraseSaid : Prop := fnExactMovePhraseRow.holds Try.pinned (OpenSpec.ofChange fnExactMovePhraseSpec)

/-- ITS FALSE NEIGHBOUR: 'it returns false'. Refute it at one input. -/
def fnExactMovePhraseWrong : ChangeSpec := { name := "fnExactMovePhrase", fn := fun _ => fun
  | [d1, d2] => { results := [.lit (.bool false)], args := [d1, d2] }
  | _ => none }
def FnExactMovePhraseWrongFalsely : Prop := fnExactMovePhraseRow.holds Try.pinned (OpenSpec.ofChange fnExactMovePhraseWrong)

/-- 'laws.FnExactFewestPhrases': WHATEVER THE INPUT: true; the input reads as it did. -/
def fnExactFewestPhrasesSpec : ChangeSpec := { name := "fnExactFewestPhrases", fn := fun _ => fun
  | [d1, d2, d3] => { results := [.lit (.bool true)], args := [d1, d2, d3] }
  | _ => none }
def fnExactFewestPhrasesRow : OpenClaim := { program := "ytobhmoohalkijaa", sum := "de712140a50ea007671cf1c981b8ed31bd333dd388706026a1f04be139acf88d", func := "loop.example/g01033/laws.FnExactFewestPhrases", spec := "fnExactFewestPhrases", unfollowed := true, recurses := true, plainKeys := false, apart := false }
def FnExactFewestPhrasesSaid : Prop := fnExactFewestPhrasesRow.holds Try.pinned (OpenSpec.ofChange fnExactFewestPhrasesSpec)

/-- ITS FALSE NEIGHBOUR: 'it returns false'. Refute it at one input. -/
def fnExactFewestPhrasesWrong : ChangeSpec := { name := "fnExactFewestPhrases", fn := fun _ => fun
  | [d1, d2, d3] => { results := [.lit (.bool false)], args := [d1, d2, d3] }
  | _ => none }
def FnExactFewestPhrasesWrongFalsely : Prop := fnExactFewestPhrasesRow.holds Try.pinned (OpenSpec.ofChange fnExactFewestPhrasesWrong)

/- THE SECOND FORM. 'bulk': how many values and letters a reading holds, each counted each time it is reached (what is shared counts as often as it is met; a slice's spare places count too). A statement '..UptoSaid' is the law's where the arguments, and the package variables that the reading takes, are together of bulk at most 1048576: NARROWER than '..Said'. Prove '..Said' where nothing that the law and all that it calls make is longer than what came in: it says more and counts as full. Else prove '..UptoSaid'. A law counts once. -/
mutual
def uptoBulk {H : Type} : DataW H → Nat
  | .lit (.string bytes) => bytes.length + 1
  | .lit _ => 1
  | .nil => 1
  | .ptr d => uptoBulk d + 1
  | .slice elems spare => uptoBulkAll elems + uptoBulkAll spare + 1
  | .agg parts => uptoBulkAll parts + 1
  | .iface _ d => uptoBulk d + 1
  | .map entries => uptoBulkEntries entries + 1
  | .held _ => 1
def uptoBulkAll {H : Type} : List (DataW H) → Nat
  | [] => 0
  | d :: r => uptoBulk d + uptoBulkAll r
def uptoBulkEntries {H : Type} : List (Lit × DataW H) → Nat
  | [] => 0
  | x :: r => uptoBulkEntry x + uptoBulkEntries r
def uptoBulkEntry {H : Type} : Lit × DataW H → Nat
  | (.string bytes, d) => bytes.length + uptoBulk d + 1
  | (_, d) => uptoBulk d + 1
 end
def uptoSmall : (H : Type) → List (DataW H) → Bool := fun _ ds => decide (uptoBulkAll ds ≤ 1048576)
def OpenSpec.upto (s : _root_.Go.ChangeSpec) : _root_.Go.OpenSpec := { _root_.Go.OpenSpec.ofChange s with cond := some uptoSmall }

/-- 'laws.FnExactValidPhrases', WHERE WHAT IT READS IS OF BULK AT MOST 1048576: true; the input reads as it did. -/
def fnExactValidPhrasesUptoRow : OpenClaim := { program := "ytobhmoohalkijaa", sum := "de712140a50ea007671cf1c981b8ed31bd333dd388706026a1f04be139acf88d", func := "loop.example/g01033/laws.FnExactValidPhrases", spec := "fnExactValidPhrases", plainKeys := false, apart := false, narrowed := true }
def FnExactValidPhrasesUptoSaid : Prop := fnExactValidPhrasesUptoRow.holds Try.pinned (OpenSpec.upto fnExactValidPhrasesSpec)

/-- 'laws.FnExactPhraseFits', WHERE WHAT IT READS IS OF BULK AT MOST 1048576: true; the input reads as it did. -/
def fnExactPhraseFitsUptoRow : OpenClaim := { program := "ytobhmoohalkijaa", sum := "de712140a50ea007671cf1c981b8ed31bd333dd388706026a1f04be139acf88d", func := "loop.example/g01033/laws.FnExactPhraseFits", spec := "fnExactPhraseFits", plainKeys := false, apart := false, narrowed := true }
def FnExactPhraseFitsUptoSaid : Prop := fnExactPhraseFitsUptoRow.holds Try.pinned (OpenSpec.upto fnExactPhraseFitsSpec)

/-- 'laws.FnExactFindPhrase', WHERE WHAT IT READS IS OF BULK AT MOST 1048576: true; the input reads as it did. -/
def fnExactFindPhraseUptoRow : OpenClaim := { program := "ytobhmoohalkijaa", sum := "de712140a50ea007671cf1c981b8ed31bd333dd388706026a1f04be139acf88d", func := "loop.example/g01033/laws.FnExactFindPhrase", spec := "fnExactFindPhrase", unfollowed := true, recurses := true, plainKeys := false, apart := false, narrowed := true }
def FnExactFindPhraseUptoSaid : Prop := fnExactFindPhraseUptoRow.holds Try.pinned (OpenSpec.upto fnExactFindPhraseSpec)

/-- 'laws.FnExactCountApart', WHERE WHAT IT READS IS OF BULK AT MOST 1048576: true; the input reads as it did. -/
def fnExactCountApartUptoRow : OpenClaim := { program := "ytobhmoohalkijaa", sum := "de712140a50ea007671cf1c981b8ed31bd333dd388706026a1f04be139acf88d", func := "loop.example/g01033/laws.FnExactCountApart", spec := "fnExactCountApart", unfollowed := true, recurses := true, plainKeys := false, apart := false, narrowed := true }
def FnExactCountApartUptoSaid : Prop := fnExactCountApartUptoRow.holds Try.pinned (OpenSpec.upto fnExactCountApartSpec)

/-- 'laws.FnExactBorderOf', WHERE WHAT IT READS IS OF BULK AT MOST 1048576: true; the input reads as it did. -/
def fnExactBorderOfUptoRow : OpenClaim := { program := "ytobhmoohalkijaa", sum := "de712140a50ea007671cf1c981b8ed31bd333dd388706026a1f04be139acf88d", func := "loop.example/g01033/laws.FnExactBorderOf", spec := "fnExactBorderOf", plainKeys := false, apart := false, narrowed := true }
def FnExactBorderOfUptoSaid : Prop := fnExactBorderOfUptoRow.holds Try.pinned (OpenSpec.upto fnExactBorderOfSpec)

/-- 'laws.FnExactCommonPhrase', WHERE WHAT IT READS IS OF BULK AT MOST 1048576: true; the input reads as it did. -/
def fnExactCommonPhraseUptoRow : OpenClaim := { program := "ytobhmoohalkijaa", sum := "de712140a50ea007671cf1c981b8ed31bd333dd388706026a1f04be139acf88d", func := "loop.example/g01033/laws.FnExactCommonPhrase", spec := "fnExactCommonPhrase", unfollowed := true, recurses := true, plainKeys := false, apart := false, narrowed := true }
def FnExactCommonPhraseUptoSaid : Prop := fnExactCommonPhraseUptoRow.holds Try.pinned (OpenSpec.upto fnExactCommonPhraseSpec)

/-- 'laws.FnExactFrequentPhrase', WHERE WHAT IT READS IS OF BULK AT MOST 1048576: true; the input reads as it did. -/
def fnExactFrequentPhraseUptoRow : OpenClaim := { program := "ytobhmoohalkijaa", sum := "de712140a50ea007671cf1c981b8ed31bd333dd388706026a1f04be139acf88d", func := "loop.example/g01033/laws.FnExactFrequentPhrase", spec := "fnExactFrequentPhrase", plainKeys := false, apart := false, narrowed := true }
def FnExactFrequentPhraseUptoSaid : Prop := fnExactFrequentPhraseUptoRow.holds Try.pinned (OpenSpec.upto fnExactFrequentPhraseSpec)

/-- 'laws.FnExactCoveredBy', WHERE WHAT IT READS IS OF BULK AT MOST 1048576: true; the input reads as it did. -/
def fnExactCoveredByUptoRow : OpenClaim := { program := "ytobhmoohalkijaa", sum := "de712140a50ea007671cf1c981b8ed31bd333dd388706026a1f04be139acf88d", func := "loop.example/g01033/laws.FnExactCoveredBy", spec := "fnExactCoveredBy", unfollowed := true, recurses := true, plainKeys := false, apart := false, narrowed := true }
def FnExactCoveredByUptoSaid : Prop := fnExactCoveredByUptoRow.holds Try.pinned (OpenSpec.upto fnExactCoveredBySpec)

/-- 'laws.FnExactMovePhrase', WHERE WHAT IT READS IS OF BULK AT MOST 1048576: true; the input reads as it did. -/
def fnExactMovePhraseUptoRow : OpenClaim := { program := "ytobhmoohalkijaa", sum := "de712140a50ea007671cf1c981b8ed31bd333dd388706026a1f04be139acf88d", func := "loop.example/g01033/laws.FnExactMovePhrase", spec := "fnExactMovePhrase", plainKeys := false, apart := false, narrowed := true }
def FnExactMovePhraseUptoSaid : Prop := fnExactMovePhraseUptoRow.holds Try.pinned (OpenSpec.upto fnExactMovePhraseSpec)

/-- 'laws.FnExactFewestPhrases', WHERE WHAT IT READS IS OF BULK AT MOST 1048576: true; the input reads as it did. -/
def fnExactFewestPhrasesUptoRow : OpenClaim := { program := "ytobhmoohalkijaa", sum := "de712140a50ea007671cf1c981b8ed31bd333dd388706026a1f04be139acf88d", func := "loop.example/g01033/laws.FnExactFewestPhrases", spec := "fnExactFewestPhrases", unfollowed := true, recurses := true, plainKeys := false, apart := false, narrowed := true }
def FnExactFewestPhrasesUptoSaid : Prop := fnExactFewestPhrasesUptoRow.holds Try.pinned (OpenSpec.upto fnExactFewestPhrasesSpec)

end Rows
end Go.Proofs.Ytobhmoohalkijaa
