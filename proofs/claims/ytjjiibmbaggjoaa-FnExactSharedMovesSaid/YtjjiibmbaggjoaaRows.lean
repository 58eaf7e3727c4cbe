/-
  No cell of these rows narrows 'for every input' (looked for: loops, veiled, ifaces, maps, wideKeys, modest, calm, conditions, laid).
  DERIVED. THE GIVEN ROWS OF THIS SEAT. 12 by the template 'for every input the law returns true; each argument reads behind the call as it read before'; 0 by the template 'total and deterministic' (their statements: YtjjiibmbaggjoaaTotals.lean).
  GIVEN WITH THE SEED: the statements are not yours to turn. If you find one false, say at which input.
  Laid BY PROGRAM, IN A SANDBOX (cutbox-rows.mjs): the forced cells as the released guide's own fill.sh prints them over the translation 02e93c11117596ac… (all of the seat's roots in one cut). By AI agents, Wed Nov 11 2026. No macro, syntax, notation, axiom, sorry.
-/
import Derived.Test.YtjjiibmbaggjoaaChecked
import GoSem.Claim
import GoSem.ClaimJoined
import GoSem.ClaimMapViews
import Derived.JoinedTies
import Derived.KernelRfl
namespace Go.Proofs.Ytjjiibmbaggjoaa
/- THE CELL 'sum', in the pinned program and in every row, IS THE sha256 OF THE DUMP (.gsa) THAT YtjjiibmbaggjoaaProg.lean LOADS. Nothing in Lean hashes anything: it is a label: what it is worth is what the hold of that sum in a sandbox is worth. -/
noncomputable def Try.pinned : Pinned := { name := "ytjjiibmbaggjoaa", sum := "02e93c11117596acf4c66f461b13cf04713894ce9050905bc4bd4d90df37bf4f", checked := Try.checked }
namespace Rows
def none {H : Type} : Left H := { results := [], args := [] }

/-- 'laws.FnExactValidRaga': WHATEVER THE INPUT: true; the input reads as it did. -/
def fnExactValidRagaSpec : ChangeSpec := { name := "fnExactValidRaga", fn := fun _ => fun
  | [d] => { results := [.lit (.bool true)], args := [d] }
  | _ => none }
def fnExactValidRagaRow : OpenClaim := { program := "ytjjiibmbaggjoaa", sum := "02e93c11117596acf4c66f461b13cf04713894ce9050905bc4bd4d90df37bf4f", func := "loop.example/g01033/laws.FnExactValidRaga", spec := "fnExactValidRaga", plainKeys := false, apart := false }
def FnExactValidRagaSaid : Prop := fnExactValidRagaRow.holds Try.pinned (OpenSpec.ofChange fnExactValidRagaSpec)

/-- ITS FALSE NEIGHBOUR: 'it returns false'. Refute it at one input. -/
def fnExactValidRagaWrong : ChangeSpec := { name := "fnExactValidRaga", fn := fun _ => fun
  | [d] => { results := [.lit (.bool false)], args := [d] }
  | _ => none }
def FnExactValidRagaWrongFalsely : Prop := fnExactValidRagaRow.holds Try.pinned (OpenSpec.ofChange fnExactValidRagaWrong)

/-- 'laws.FnExactSameRaga': WHATEVER THE INPUT: true; the input reads as it did. -/
def fnExactSameRagaSpec : ChangeSpec := { name := "fnExactSameRaga", fn := fun _ => fun
  | [d1, d2] => { results := [.lit (.bool true)], args := [d1, d2] }
  | _ => none }
def fnExactSameRagaRow : OpenClaim := { program := "ytjjiibmbaggjoaa", sum := "02e93c11117596acf4c66f461b13cf04713894ce9050905bc4bd4d90df37bf4f", func := "loop.example/g01033/laws.FnExactSameRaga", spec := "fnExactSameRaga", unfollowed := true, recurses := true, plainKeys := false, apart := false }
def FnExactSameRagaSaid : Prop := fnExactSameRagaRow.holds Try.pinned (OpenSpec.ofChange fnExactSameRagaSpec)

/-- ITS FALSE NEIGHBOUR: 'it returns false'. Refute it at one input. -/
def fnExactSameRagaWrong : ChangeSpec := { name := "fnExactSameRaga", fn := fun _ => fun
  | [d1, d2] => { results := [.lit (.bool false)], args := [d1, d2] }
  | _ => none }
def FnExactSameRagaWrongFalsely : Prop := fnExactSameRagaRow.holds Try.pinned (OpenSpec.ofChange fnExactSameRagaWrong)

/-- 'laws.FnExactTonesOf': WHATEVER THE INPUT: true; the input reads as it did. -/
def fnExactTonesOfSpec : ChangeSpec := { name := "fnExactTonesOf", fn := fun _ => fun
  | [d] => { results := [.lit (.bool true)], args := [d] }
  | _ => none }
def fnExactTonesOfRow : OpenClaim := { program := "ytjjiibmbaggjoaa", sum := "02e93c11117596acf4c66f461b13cf04713894ce9050905bc4bd4d90df37bf4f", func := "loop.example/g01033/laws.FnExactTonesOf", spec := "fnExactTonesOf", plainKeys := false, apart := false }
def FnExactTonesOfSaid : Prop := fnExactTonesOfRow.holds Try.pinned (OpenSpec.ofChange fnExactTonesOfSpec)

/-- ITS FALSE NEIGHBOUR: 'it returns false'. Refute it at one input. -/
def fnExactTonesOfWrong : ChangeSpec := { name := "fnExactTonesOf", fn := fun _ => fun
  | [d] => { results := [.lit (.bool false)], args := [d] }
  | _ => none }
def FnExactTonesOfWrongFalsely : Prop := fnExactTonesOfRow.holds Try.pinned (OpenSpec.ofChange fnExactTonesOfWrong)

/-- 'laws.FnExactKindOf': WHATEVER THE INPUT: true; the input reads as it did. -/
def fnExactKindOfSpec : ChangeSpec := { name := "fnExactKindOf", fn := fun _ => fun
  | [d] => { results := [.lit (.bool true)], args := [d] }
  | _ => none }
def fnExactKindOfRow : OpenClaim := { program := "ytjjiibmbaggjoaa", sum := "02e93c11117596acf4c66f461b13cf04713894ce9050905bc4bd4d90df37bf4f", func := "loop.example/g01033/laws.FnExactKindOf", spec := "fnExactKindOf", plainKeys := false, apart := false }
def FnExactKindOfSaid : Prop := fnExactKindOfRow.holds Try.pinned (OpenSpec.ofChange fnExactKindOfSpec)

/-- ITS FALSE NEIGHBOUR: 'it returns false'. Refute it at one input. -/
def fnExactKindOfWrong : ChangeSpec := { name := "fnExactKindOf", fn := fun _ => fun
  | [d] => { results := [.lit (.bool false)], args := [d] }
  | _ => none }
def FnExactKindOfWrongFalsely : Prop := fnExactKindOfRow.holds Try.pinned (OpenSpec.ofChange fnExactKindOfWrong)

/-- 'laws.FnExactIsAllowed': WHATEVER THE INPUT: true; the input reads as it did. -/
def fnExactIsAllowedSpec : ChangeSpec := { name := "fnExactIsAllowed", fn := fun _ => fun
  | [d1, d2, d3] => { results := [.lit (.bool true)], args := [d1, d2, d3] }
  | _ => none }
def fnExactIsAllowedRow : OpenClaim := { program := "ytjjiibmbaggjoaa", sum := "02e93c11117596acf4c66f461b13cf04713894ce9050905bc4bd4d90df37bf4f", func := "loop.example/g01033/laws.FnExactIsAllowed", spec := "fnExactIsAllowed", plainKeys := false, apart := false }
def FnExactIsAllowedSaid : Prop := fnExactIsAllowedRow.holds Try.pinned (OpenSpec.ofChange fnExactIsAllowedSpec)

/-- ITS FALSE NEIGHBOUR: 'it returns false'. Refute it at one input. -/
def fnExactIsAllowedWrong : ChangeSpec := { name := "fnExactIsAllowed", fn := fun _ => fun
  | [d1, d2, d3] => { results := [.lit (.bool false)], args := [d1, d2, d3] }
  | _ => none }
def FnExactIsAllowedWrongFalsely : Prop := fnExactIsAllowedRow.holds Try.pinned (OpenSpec.ofChange fnExactIsAllowedWrong)

/-- 'laws.FnExactReasonOf': WHATEVER THE INPUT: true; the input reads as it did. -/
def fnExactReasonOfSpec : ChangeSpec := { name := "fnExactReasonOf", fn := fun _ => fun
  | [d1, d2, d3] => { results := [.lit (.bool true)], args := [d1, d2, d3] }
  | _ => none }
def fnExactReasonOfRow : OpenClaim := { program := "ytjjiibmbaggjoaa", sum := "02e93c11117596acf4c66f461b13cf04713894ce9050905bc4bd4d90df37bf4f", func := "loop.example/g01033/laws.FnExactReasonOf", spec := "fnExactReasonOf", plainKeys := false, apart := false }
def FnExactReasonOfSaid : Prop := fnExactReasonOfRow.holds Try.pinned (OpenSpec.ofChange fnExactReasonOfSpec)

/-- ITS FALSE NEIGHBOUR: 'it returns false'. Refute it at one input. -/
def fnExactReasonOfWrong : ChangeSpec := { name := "fnExactReasonOf", fn := fun _ => fun
  | [d1, d2, d3] => { results := [.lit (.bool false)], args := [d1, d2, d3] }
  | _ => none }
def FnExactReasonOfWrongFalsely : Prop := fnExactReasonOfRow.holds Try.pinned (OpenSpec.ofChange fnExactReasonOfWrong)

/-- 'laws.FnExactNextPitches': WHATEVER THE INPUT: true; the input reads as it did. -/
def fnExactNextPitchesSpec : ChangeSpec := { name := "fnExactNextPitches", fn := fun _ => fun
  | [d1, d2] => { results := [.lit (.bool true)], args := [d1, d2] }
  | _ => none }
def fnExactNextPitchesRow : OpenClaim := { program := "ytjjiibmbaggjoaa", sum := "02e93c11117596acf4c66f461b13cf04713894ce9050905bc4bd4d90df37bf4f", func := "loop.example/g01033/laws.FnExactNextPitches", spec := "fnExactNextPitches", plainKeys := false, apart := false }
def FnExactNextPitchesSaid : Prop := fnExactNextPitchesRow.holds Try.pinned (OpenSpec.ofChange fnExactNextPitchesSpec)

/-- ITS FALSE NEIGHBOUR: 'it returns false'. Refute it at one input. -/
def fnExactNextPitchesWrong : ChangeSpec := { name := "fnExactNextPitches", fn := fun _ => fun
  | [d1, d2] => { results := [.lit (.bool false)], args := [d1, d2] }
  | _ => none }
def FnExactNextPitchesWrongFalsely : Prop := fnExactNextPitchesRow.holds Try.pinned (OpenSpec.ofChange fnExactNextPitchesWrong)

/-- 'laws.FnExactFirstWrong': WHATEVER THE INPUT: true; the input reads as it did. -/
def fnExactFirstWrongSpec : ChangeSpec := { name := "fnExactFirstWrong", fn := fun _ => fun
  | [d1, d2] => { results := [.lit (.bool true)], args := [d1, d2] }
  | _ => none }
def fnExactFirstWrongRow : OpenClaim := { program := "ytjjiibmbaggjoaa", sum := "02e93c11117596acf4c66f461b13cf04713894ce9050905bc4bd4d90df37bf4f", func := "loop.example/g01033/laws.FnExactFirstWrong", spec := "fnExactFirstWrong", plainKeys := false, apart := false }
def FnExactFirstWrongSaid : Prop := fnExactFirstWrongRow.holds Try.pinned (OpenSpec.ofChange fnExactFirstWrongSpec)

/-- ITS FALSE NEIGHBOUR: 'it returns false'. Refute it at one input. -/
def fnExactFirstWrongWrong : ChangeSpec := { name := "fnExactFirstWrong", fn := fun _ => fun
  | [d1, d2] => { results := [.lit (.bool false)], args := [d1, d2] }
  | _ => none }
def FnExactFirstWrongWrongFalsely : Prop := fnExactFirstWrongRow.holds Try.pinned (OpenSpec.ofChange fnExactFirstWrongWrong)

/-- 'laws.FnExactStrengthOf': WHATEVER THE INPUT: true; the input reads as it did. -/
def fnExactStrengthOfSpec : ChangeSpec := { name := "fnExactStrengthOf", fn := fun _ => fun
  | [d1, d2] => { results := [.lit (.bool true)], args := [d1, d2] }
  | _ => none }
def fnExactStrengthOfRow : OpenClaim := { program := "ytjjiibmbaggjoaa", sum := "02e93c11117596acf4c66f461b13cf04713894ce9050905bc4bd4d90df37bf4f", func := "loop.example/g01033/laws.FnExactStrengthOf", spec := "fnExactStrengthOf", plainKeys := false, apart := false }
def FnExactStrengthOfSaid : Prop := fnExactStrengthOfRow.holds Try.pinned (OpenSpec.ofChange fnExactStrengthOfSpec)

/-- ITS FALSE NEIGHBOUR: 'it returns false'. Refute it at one input. -/
def fnExactStrengthOfWrong : ChangeSpec := { name := "fnExactStrengthOf", fn := fun _ => fun
  | [d1, d2] => { results := [.lit (.bool false)], args := [d1, d2] }
  | _ => none }
def FnExactStrengthOfWrongFalsely : Prop := fnExactStrengthOfRow.holds Try.pinned (OpenSpec.ofChange fnExactStrengthOfWrong)

/-- 'laws.FnExactSharedMoves': WHATEVER THE INPUT: true; the input reads as it did. -/
def fnExactSharedMovesSpec : ChangeSpec := { name := "fnExactSharedMoves", fn := fun _ => fun
  | [d1, d2] => { results := [.lit (.bool true)], args := [d1, d2] }
  | _ => none }
def fnExactSharedMovesRow : OpenClaim := { program := "ytjjiibmbaggjoaa", sum := "02e93c11117596acf4c66f461b13cf04713894ce9050905bc4bd4d90df37bf4f", func := "loop.example/g01033/laws.FnExactSharedMoves", spec := "fnExactSharedMoves", plainKeys := false, apart := false }
def FnExactSharedMovesSaid : Prop := fnExactSharedMovesRow.holds Try.pinned (OpenSpec.ofChange fnExactSharedMovesSpec)

/-- ITS FALSE NEIGHBOUR: 'it returns false'. Refute it at one input. -/
def fnExactSharedMovesWrong : ChangeSpec := { name := "fnExactSharedMoves", fn := fun _ => fun
  | [d1, d2] => { results := [.lit (.bool false)], args := [d1, d2] }
  | _ => none }
def FnExactSharedMovesWrongFalsely : Prop := fnExactSharedMovesRow.holds Try.pinned (OpenSpec.ofChange fnExactSharedMovesWrong)

/-- 'laws.FnExactRagaText': WHATEVER THE INPUT: true; the input reads as it did. -/
def fnExactRagaTextSpec : ChangeSpec := { name := "fnExactRagaText", fn := fun _ => fun
  | [d] => { results := [.lit (.bool true)], args := [d] }
  | _ => none }
def fnExactRagaTextRow : OpenClaim := { program := "ytjjiibmbaggjoaa", sum := "02e93c11117596acf4c66f461b13cf04713894ce9050905bc4bd4d90df37bf4f", func := "loop.example/g01033/laws.FnExactRagaText", spec := "fnExactRagaText", inPlace := ["internal/abi.NoEscape", "internal/bytealg.MakeNoZero"], plainKeys := false, apart := false }
def FnExactRagaTextSaid : Prop := fnExactRagaTextRow.holds Try.pinned (OpenSpec.ofChange fnExactRagaTextSpec)

/-- ITS FALSE NEIGHBOUR: 'it returns false'. Refute it at one input. -/
def fnExactRagaTextWrong : ChangeSpec := { name := "fnExactRagaText", fn := fun _ => fun
  | [d] => { results := [.lit (.bool false)], args := [d] }
  | _ => none }
def FnExactRagaTextWrongFalsely : Prop := fnExactRagaTextRow.holds Try.pinned (OpenSpec.ofChange fnExactRagaTextWrong)

/-- 'laws.FnExactTuneTone': WHATEVER THE INPUT: true; the input reads as it did. -/
def fnExactTuneToneSpec : ChangeSpec := { name := "fnExactTuneTone", fn := fun _ => fun
  | [d1, d2, d3] => { results := [.lit (.bool true)], args := [d1, d2, d3] }
  | _ => none }
def fnExactTuneToneRow : OpenClaim := { program := "ytjjiibmbaggjoaa", sum := "02e93c11117596acf4c66f461b13cf04713894ce9050905bc4bd4d90df37bf4f", func := "loop.example/g01033/laws.FnExactTuneTone", spec := "fnExactTuneTone", plainKeys := false, apart := false }
def FnExactTuneToneSaid : Prop := fnExactTuneToneRow.holds Try.pinned (OpenSpec.ofChange fnExactTuneToneSpec)

/-- ITS FALSE NEIGHBOUR: 'it returns false'. Refute it at one input. -/
def fnExactTuneToneWrong : ChangeSpec := { name := "fnExactTuneTone", fn := fun _ => fun
  | [d1, d2, d3] => { results := [.lit (.bool false)], args := [d1, d2, d3] }
  | _ => none }
def FnExactTuneToneWrongFalsely : Prop := fnExactTuneToneRow.holds Try.pinned (OpenSpec.ofChange fnExactTuneToneWrong)

/- THE SECOND FORM. 'bulk': how many values and letters a reading holds, each counted each time it is reached (what is shared counts as often as it is met; a slice's spare places count too). A statement '..UptoSaid' is the law's where the arguments, and the package variables that the reading takes, are together of bulk at most 1048576: NARROWER than '..Said'. Prove '..Said' where nothing that the law and all that it calls make is longer than what came in: it says more and counts as full. Else prove '..UptoSaid'. A law counts once. -/
mutual
def uptoBulk {H : Type} : DataW H → Nat
  | .lit (.string bytes) => bytes.length + 1
  | .lit _ => 1
  | .nil => 1
  | .ptr d => uptoBulk d + 1
  | .slice elems spare => uptoBulkAll elems + uptoBulkAll spare + 1
  | .agg parts => uptoBulkAll parts + 1
  | .iface _ d => uptoBulk d + 1
  | .map entries => uptoBulkEntries entries + 1
  | .held _ => 1
def uptoBulkAll {H : Type} : List (DataW H) → Nat
  | [] => 0
  | d :: r => uptoBulk d + uptoBulkAll r
def uptoBulkEntries {H : Type} : List (Lit × DataW H) → Nat
  | [] => 0
  | x :: r => uptoBulkEntry x + uptoBulkEntries r
def uptoBulkEntry {H : Type} : Lit × DataW H → Nat
  | (.string bytes, d) => bytes.length + uptoBulk d + 1
  | (_, d) => uptoBulk d + 1
 end
def uptoSmall : (H : Type) → List (DataW H) → Bool := fun _ ds => decide (uptoBulkAll ds ≤ 1048576)
def OpenSpec.upto (s : _root_.Go.ChangeSpec) : _root_.Go.OpenSpec := { _root_.Go.OpenSpec.ofChange s with cond := some uptoSmall }

/-- 'laws.FnExactValidRaga', WHERE WHAT IT READS IS OF BULK AT MOST 1048576: true; the input reads as it did. -/
def fnExactValidRagaUptoRow : OpenClaim := { program := "ytjjiibmbaggjoaa", sum := "02e93c11117596acf4c66f461b13cf04713894ce9050905bc4bd4d90df37bf4f", func := "loop.example/g01033/laws.FnExactValidRaga", spec := "fnExactValidRaga", plainKeys := false, apart := false, narrowed := true }
def FnExactValidRagaUptoSaid : Prop := fnExactValidRagaUptoRow.holds Try.pinned (OpenSpec.upto fnExactValidRagaSpec)

/-- 'laws.FnExactSameRaga', WHERE WHAT IT READS IS OF BULK AT MOST 1048576: true; the input reads as it did. -/
def fnExactSameRagaUptoRow : OpenClaim := { program := "ytjjiibmbaggjoaa", sum := "02e93c11117596acf4c66f461b13cf04713894ce9050905bc4bd4d90df37bf4f", func := "loop.example/g01033/laws.FnExactSameRaga", spec := "fnExactSameRaga", unfollowed := true, recurses := true, plainKeys := false, apart := false, narrowed := true }
def FnExactSameRagaUptoSaid : Prop := fnExactSameRagaUptoRow.holds Try.pinned (OpenSpec.upto fnExactSameRagaSpec)

/-- 'laws.FnExactTonesOf', WHERE WHAT IT READS IS OF BULK AT MOST 1048576: true; the input reads as it did. -/
def fnExactTonesOfUptoRow : OpenClaim := { program := "ytjjiibmbaggjoaa", sum := "02e93c11117596acf4c66f461b13cf04713894ce9050905bc4bd4d90df37bf4f", func := "loop.example/g01033/laws.FnExactTonesOf", spec := "fnExactTonesOf", plainKeys := false, apart := false, narrowed := true }
def FnExactTonesOfUptoSaid : Prop := fnExactTonesOfUptoRow.holds Try.pinned (OpenSpec.upto fnExactTonesOfSpec)

/-- 'laws.FnExactKindOf', WHERE WHAT IT READS IS OF BULK AT MOST 1048576: true; the input reads as it did. -/
def fnExactKindOfUptoRow : OpenClaim := { program := "ytjjiibmbaggjoaa", sum := "02e93c11117596acf4c66f461b13cf04713894ce9050905bc4bd4d90df37bf4f", func := "loop.example/g01033/laws.FnExactKindOf", spec := "fnExactKindOf", plainKeys := false, apart := false, narrowed := true }
def FnExactKindOfUptoSaid : Prop := fnExactKindOfUptoRow.holds Try.pinned (OpenSpec.upto fnExactKindOfSpec)

/-- 'laws.FnExactIsAllowed', WHERE WHAT IT READS IS OF BULK AT MOST 1048576: true; the input reads as it did. -/
def fnExactIsAllowedUptoRow : OpenClaim := { program := "ytjjiibmbaggjoaa", sum := "02e93c11117596acf4c66f461b13cf04713894ce9050905bc4bd4d90df37bf4f", func := "loop.example/g01033/laws.FnExactIsAllowed", spec := "fnExactIsAllowed", plainKeys := false, apart := false, narrowed := true }
def FnExactIsAllowedUptoSaid : Prop := fnExactIsAllowedUptoRow.holds Try.pinned (OpenSpec.upto fnExactIsAllowedSpec)

/-- 'laws.FnExactReasonOf', WHERE WHAT IT READS IS OF BULK AT MOST 1048576: true; the input reads as it did. -/
def fnExactReasonOfUptoRow : OpenClaim := { program := "ytjjiibmbaggjoaa", sum := "02e93c11117596acf4c66f461b13cf04713894ce9050905bc4bd4d90df37bf4f", func := "loop.example/g01033/laws.FnExactReasonOf", spec := "fnExactReasonOf", plainKeys := false, apart := false, narrowed := true }
def FnExactReasonOfUptoSaid : Prop := fnExactReasonOfUptoRow.holds Try.pinned (OpenSpec.upto fnExactReasonOfSpec)

/-- 'laws.FnExactNextPitches', WHERE WHAT IT READS IS OF BULK AT MOST 1048576: true; the input reads as it did. -/
def fnExactNextPitchesUptoRow : OpenClaim := { program := "ytjjiibmbaggjoaa", sum := "02e93c11117596acf4c66f461b13cf04713894ce9050905bc4bd4d90df37bf4f", func := "loop.example/g01033/laws.FnExactNextPitches", spec := "fnExactNextPitches", plainKeys := false, apart := false, narrowed := true }
def FnExactNextPitchesUptoSaid : Prop := fnExactNextPitchesUptoRow.holds Try.pinned (OpenSpec.upto fnExactNextPitchesSpec)

/-- 'laws.FnExactFirstWrong', WHERE WHAT IT READS IS OF BULK AT MOST 1048576: true; the input reads as it did. -/
def fnExactFirstWrongUptoRow : OpenClaim := { program := "ytjjiibmbaggjoaa", sum := "02e93c11117596acf4c66f461b13cf04713894ce9050905bc4bd4d90df37bf4f", func := "loop.example/g01033/laws.FnExactFirstWrong", spec := "fnExactFirstWrong", plainKeys := false, apart := false, narrowed := true }
def FnExactFirstWrongUptoSaid : Prop := fnExactFirstWrongUptoRow.holds Try.pinned (OpenSpec.upto fnExactFirstWrongSpec)

/-- 'laws.FnExactStrengthOf', WHERE WHAT IT READS IS OF BULK AT MOST 1048576: true; the input reads as it did. -/
def fnExactStrengthOfUptoRow : OpenClaim := { program := "ytjjiibmbaggjoaa", sum := "02e93c11117596acf4c66f461b13cf04713894ce9050905bc4bd4d90df37bf4f", func := "loop.example/g01033/laws.FnExactStrengthOf", spec := "fnExactStrengthOf", plainKeys := false, apart := false, narrowed := true }
def FnExactStrengthOfUptoSaid : Prop := fnExactStrengthOfUptoRow.holds Try.pinned (OpenSpec.upto fnExactStrengthOfSpec)

/-- 'laws.FnExactSharedMoves', WHERE WHAT IT READS IS OF BULK AT MOST 1048576: true; the input reads as it did. -/
def fnExactSharedMovesUptoRow : OpenClaim := { program := "ytjjiibmbaggjoaa", sum := "02e93c11117596acf4c66f461b13cf04713894ce9050905bc4bd4d90df37bf4f", func := "loop.example/g01033/laws.FnExactSharedMoves", spec := "fnExactSharedMoves", plainKeys := false, apart := false, narrowed := true }
def FnExactSharedMovesUptoSaid : Prop := fnExactSharedMovesUptoRow.holds Try.pinned (OpenSpec.upto fnExactSharedMovesSpec)

/-- 'laws.FnExactRagaText', WHERE WHAT IT READS IS OF BULK AT MOST 1048576: true; the input reads as it did. -/
def fnExactRagaTextUptoRow : OpenClaim := { program := "ytjjiibmbaggjoaa", sum := "02e93c11117596acf4c66f461b13cf04713894ce9050905bc4bd4d90df37bf4f", func := "loop.example/g01033/laws.FnExactRagaText", spec := "fnExactRagaText", inPlace := ["internal/abi.NoEscape", "internal/bytealg.MakeNoZero"], plainKeys := false, apart := false, narrowed := true }
def FnExactRagaTextUptoSaid : Prop := fnExactRagaTextUptoRow.holds Try.pinned (OpenSpec.upto fnExactRagaTextSpec)

/-- 'laws.FnExactTuneTone', WHERE WHAT IT READS IS OF BULK AT MOST 1048576: true; the input reads as it did. -/
def fnExactTuneToneUptoRow : OpenClaim := { program := "ytjjiibmbaggjoaa", sum := "02e93c11117596acf4c66f461b13cf04713894ce9050905bc4bd4d90df37bf4f", func := "loop.example/g01033/laws.FnExactTuneTone", spec := "fnExactTuneTone", plainKeys := false, apart := false, narrowed := true }
def FnExactTuneToneUptoSaid : Prop := fnExactTuneToneUptoRow.holds Try.pinned (OpenSpec.upto fnExactTuneToneSpec)

end Rows
end Go.Proofs.Ytjjiibmbaggjoaa
