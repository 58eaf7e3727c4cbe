/-
  No cell of these rows narrows 'for every input' (looked for: loops, veiled, ifaces, maps, wideKeys, modest, calm, conditions, laid).
  DERIVED. THE GIVEN ROWS OF THIS SEAT. 10 by the template 'for every input the law returns true; each argument reads behind the call as it read before'; 0 by the template 'total and deterministic' (their statements: YtendfnimhmnioaaTotals.lean).
  GIVEN WITH THE SEED: the statements are not yours to turn. If you find one false, say at which input.
  Laid BY PROGRAM, IN A SANDBOX (cutbox-rows.mjs): the forced cells as the released guide's own fill.sh prints them over the translation 568ff4d72a6caf5e… (all of the seat's roots in one cut). By AI agents, Wed Nov 11 2026. No macro, syntax, notation, axiom, sorry.
-/
import Derived.Test.YtendfnimhmnioaaChecked
import GoSem.Claim
import GoSem.ClaimJoined
import GoSem.ClaimMapViews
import Derived.JoinedTies
import Derived.KernelRfl
namespace Go.Proofs.Ytendfnimhmnioaa
/- THE CELL 'sum', in the pinned program and in every row, IS THE sha256 OF THE DUMP (.gsa) THAT YtendfnimhmnioaaProg.lean LOADS. Nothing in Lean hashes anything: it is a label: what it is worth is what the hold of that sum in a sandbox is worth. -/
noncomputable def Try.pinned : Pinned := { name := "ytendfnimhmnioaa", sum := "568ff4d72a6caf5ed7d8a05cbcbae3a48c2fc43217a3ca35614249a3acc4de5c", checked := Try.checked }
namespace Rows
def none {H : Type} : Left H := { results := [], args := [] }

/-- 'laws.FnExactBestProgramme': WHATEVER THE INPUT: true; the input reads as it did. -/
def fnExactBestProgrammeSpec : ChangeSpec := { name := "fnExactBestProgramme", fn := fun _ => fun
  | [d1, d2, d3, d4, d5] => { results := [.lit (.bool true)], args := [d1, d2, d3, d4, d5] }
  | _ => none }
def fnExactBestProgrammeRow : OpenClaim := { program := "ytendfnimhmnioaa", sum := "568ff4d72a6caf5ed7d8a05cbcbae3a48c2fc43217a3ca35614249a3acc4de5c", func := "loop.example/g01033/laws.FnExactBestProgramme", spec := "fnExactBestProgramme", inPlace := ["internal/bytealg.abigen_runtime_cmpstring"], unfollowed := true, recurses := true, apart := false }
def FnExactBestProgrammeSaid : Prop := fnExactBestProgrammeRow.holds Try.pinned (OpenSpec.ofChange fnExactBestProgrammeSpec)

/-- ITS FALSE NEIGHBOUR: 'it returns false'. Refute it at one input. -/
def fnExactBestProgrammeWrong : ChangeSpec := { name := "fnExactBestProgramme", fn := fun _ => fun
  | [d1, d2, d3, d4, d5] => { results := [.lit (.bool false)], args := [d1, d2, d3, d4, d5] }
  | _ => none }
def FnExactBestProgrammeWrongFalsely : Prop := fnExactBestProgrammeRow.holds Try.pinned (OpenSpec.ofChange fnExactBestProgrammeWrong)

/-- 'laws.FnExactCountProgrammes': WHATEVER THE INPUT: true; the input reads as it did. -/
def fnExactCountProgrammesSpec : ChangeSpec := { name := "fnExactCountProgrammes", fn := fun _ => fun
  | [d1, d2, d3, d4, d5] => { results := [.lit (.bool true)], args := [d1, d2, d3, d4, d5] }
  | _ => none }
def fnExactCountProgrammesRow : OpenClaim := { program := "ytendfnimhmnioaa", sum := "568ff4d72a6caf5ed7d8a05cbcbae3a48c2fc43217a3ca35614249a3acc4de5c", func := "loop.example/g01033/laws.FnExactCountProgrammes", spec := "fnExactCountProgrammes", inPlace := ["internal/bytealg.abigen_runtime_cmpstring"], unfollowed := true, recurses := true, apart := false }
def FnExactCountProgrammesSaid : Prop := fnExactCountProgrammesRow.holds Try.pinned (OpenSpec.ofChange fnExactCountProgrammesSpec)

/-- ITS FALSE NEIGHBOUR: 'it returns false'. Refute it at one input. -/
def fnExactCountProgrammesWrong : ChangeSpec := { name := "fnExactCountProgrammes", fn := fun _ => fun
  | [d1, d2, d3, d4, d5] => { results := [.lit (.bool false)], args := [d1, d2, d3, d4, d5] }
  | _ => none }
def FnExactCountProgrammesWrongFalsely : Prop := fnExactCountProgrammesRow.holds Try.pinned (OpenSpec.ofChange fnExactCountProgrammesWrong)

/-- 'laws.FnExactValidMelody': WHATEVER THE INPUT: true; the input reads as it did. -/
def fnExactValidMelodySpec : ChangeSpec := { name := "fnExactValidMelody", fn := fun _ => fun
  | [d] => { results := [.lit (.bool true)], args := [d] }
  | _ => none }
def fnExactValidMelodyRow : OpenClaim := { program := "ytendfnimhmnioaa", sum := "568ff4d72a6caf5ed7d8a05cbcbae3a48c2fc43217a3ca35614249a3acc4de5c", func := "loop.example/g01033/laws.FnExactValidMelody", spec := "fnExactValidMelody", apart := false }
def FnExactValidMelodySaid : Prop := fnExactValidMelodyRow.holds Try.pinned (OpenSpec.ofChange fnExactValidMelodySpec)

/-- ITS FALSE NEIGHBOUR: 'it returns false'. Refute it at one input. -/
def fnExactValidMelodyWrong : ChangeSpec := { name := "fnExactValidMelody", fn := fun _ => fun
  | [d] => { results := [.lit (.bool false)], args := [d] }
  | _ => none }
def FnExactValidMelodyWrongFalsely : Prop := fnExactValidMelodyRow.holds Try.pinned (OpenSpec.ofChange fnExactValidMelodyWrong)

/-- 'laws.FnExactSameMelody': WHATEVER THE INPUT: true; the input reads as it did. -/
def fnExactSameMelodySpec : ChangeSpec := { name := "fnExactSameMelody", fn := fun _ => fun
  | [d1, d2] => { results := [.lit (.bool true)], args := [d1, d2] }
  | _ => none }
def fnExactSameMelodyRow : OpenClaim := { program := "ytendfnimhmnioaa", sum := "568ff4d72a6caf5ed7d8a05cbcbae3a48c2fc43217a3ca35614249a3acc4de5c", func := "loop.example/g01033/laws.FnExactSameMelody", spec := "fnExactSameMelody", apart := false }
def FnExactSameMelodySaid : Prop := fnExactSameMelodyRow.holds Try.pinned (OpenSpec.ofChange fnExactSameMelodySpec)

/-- ITS FALSE NEIGHBOUR: 'it returns false'. Refute it at one input. -/
def fnExactSameMelodyWrong : ChangeSpec := { name := "fnExactSameMelody", fn := fun _ => fun
  | [d1, d2] => { results := [.lit (.bool false)], args := [d1, d2] }
  | _ => none }
def FnExactSameMelodyWrongFalsely : Prop := fnExactSameMelodyRow.holds Try.pinned (OpenSpec.ofChange fnExactSameMelodyWrong)

/-- 'laws.FnExactDurationOf': WHATEVER THE INPUT: true; the input reads as it did. -/
def fnExactDurationOfSpec : ChangeSpec := { name := "fnExactDurationOf", fn := fun _ => fun
  | [d] => { results := [.lit (.bool true)], args := [d] }
  | _ => none }
def fnExactDurationOfRow : OpenClaim := { program := "ytendfnimhmnioaa", sum := "568ff4d72a6caf5ed7d8a05cbcbae3a48c2fc43217a3ca35614249a3acc4de5c", func := "loop.example/g01033/laws.FnExactDurationOf", spec := "fnExactDurationOf", apart := false }
def FnExactDurationOfSaid : Prop := fnExactDurationOfRow.holds Try.pinned (OpenSpec.ofChange fnExactDurationOfSpec)

/-- ITS FALSE NEIGHBOUR: 'it returns false'. Refute it at one input. -/
def fnExactDurationOfWrong : ChangeSpec := { name := "fnExactDurationOf", fn := fun _ => fun
  | [d] => { results := [.lit (.bool false)], args := [d] }
  | _ => none }
def FnExactDurationOfWrongFalsely : Prop := fnExactDurationOfRow.holds Try.pinned (OpenSpec.ofChange fnExactDurationOfWrong)

/-- 'laws.FnExactPitchesOf': WHATEVER THE INPUT: true; the input reads as it did. -/
def fnExactPitchesOfSpec : ChangeSpec := { name := "fnExactPitchesOf", fn := fun _ => fun
  | [d] => { results := [.lit (.bool true)], args := [d] }
  | _ => none }
def fnExactPitchesOfRow : OpenClaim := { program := "ytendfnimhmnioaa", sum := "568ff4d72a6caf5ed7d8a05cbcbae3a48c2fc43217a3ca35614249a3acc4de5c", func := "loop.example/g01033/laws.FnExactPitchesOf", spec := "fnExactPitchesOf", apart := false }
def FnExactPitchesOfSaid : Prop := fnExactPitchesOfRow.holds Try.pinned (OpenSpec.ofChange fnExactPitchesOfSpec)

/-- ITS FALSE NEIGHBOUR: 'it returns false'. Refute it at one input. -/
def fnExactPitchesOfWrong : ChangeSpec := { name := "fnExactPitchesOf", fn := fun _ => fun
  | [d] => { results := [.lit (.bool false)], args := [d] }
  | _ => none }
def FnExactPitchesOfWrongFalsely : Prop := fnExactPitchesOfRow.holds Try.pinned (OpenSpec.ofChange fnExactPitchesOfWrong)

/-- 'laws.FnExactRangeOf': WHATEVER THE INPUT: true; the input reads as it did. -/
def fnExactRangeOfSpec : ChangeSpec := { name := "fnExactRangeOf", fn := fun _ => fun
  | [d] => { results := [.lit (.bool true)], args := [d] }
  | _ => none }
def fnExactRangeOfRow : OpenClaim := { program := "ytendfnimhmnioaa", sum := "568ff4d72a6caf5ed7d8a05cbcbae3a48c2fc43217a3ca35614249a3acc4de5c", func := "loop.example/g01033/laws.FnExactRangeOf", spec := "fnExactRangeOf", apart := false }
def FnExactRangeOfSaid : Prop := fnExactRangeOfRow.holds Try.pinned (OpenSpec.ofChange fnExactRangeOfSpec)

/-- ITS FALSE NEIGHBOUR: 'it returns false'. Refute it at one input. -/
def fnExactRangeOfWrong : ChangeSpec := { name := "fnExactRangeOf", fn := fun _ => fun
  | [d] => { results := [.lit (.bool false)], args := [d] }
  | _ => none }
def FnExactRangeOfWrongFalsely : Prop := fnExactRangeOfRow.holds Try.pinned (OpenSpec.ofChange fnExactRangeOfWrong)

/-- 'laws.FnExactContourOf': WHATEVER THE INPUT: true; the input reads as it did. -/
def fnExactContourOfSpec : ChangeSpec := { name := "fnExactContourOf", fn := fun _ => fun
  | [d] => { results := [.lit (.bool true)], args := [d] }
  | _ => none }
def fnExactContourOfRow : OpenClaim := { program := "ytendfnimhmnioaa", sum := "568ff4d72a6caf5ed7d8a05cbcbae3a48c2fc43217a3ca35614249a3acc4de5c", func := "loop.example/g01033/laws.FnExactContourOf", spec := "fnExactContourOf", apart := false }
def FnExactContourOfSaid : Prop := fnExactContourOfRow.holds Try.pinned (OpenSpec.ofChange fnExactContourOfSpec)

/-- ITS FALSE NEIGHBOUR: 'it returns false'. Refute it at one input. -/
def fnExactContourOfWrong : ChangeSpec := { name := "fnExactContourOf", fn := fun _ => fun
  | [d] => { results := [.lit (.bool false)], args := [d] }
  | _ => none }
def FnExactContourOfWrongFalsely : Prop := fnExactContourOfRow.holds Try.pinned (OpenSpec.ofChange fnExactContourOfWrong)

/-- 'laws.FnExactPitchAt': WHATEVER THE INPUT: true; the input reads as it did. -/
def fnExactPitchAtSpec : ChangeSpec := { name := "fnExactPitchAt", fn := fun _ => fun
  | [d1, d2] => { results := [.lit (.bool true)], args := [d1, d2] }
  | _ => none }
def fnExactPitchAtRow : OpenClaim := { program := "ytendfnimhmnioaa", sum := "568ff4d72a6caf5ed7d8a05cbcbae3a48c2fc43217a3ca35614249a3acc4de5c", func := "loop.example/g01033/laws.FnExactPitchAt", spec := "fnExactPitchAt", unfollowed := true, recurses := true, apart := false }
def FnExactPitchAtSaid : Prop := fnExactPitchAtRow.holds Try.pinned (OpenSpec.ofChange fnExactPitchAtSpec)

/-- ITS FALSE NEIGHBOUR: 'it returns false'. Refute it at one input. -/
def fnExactPitchAtWrong : ChangeSpec := { name := "fnExactPitchAt", fn := fun _ => fun
  | [d1, d2] => { results := [.lit (.bool false)], args := [d1, d2] }
  | _ => none }
def FnExactPitchAtWrongFalsely : Prop := fnExactPitchAtRow.holds Try.pinned (OpenSpec.ofChange fnExactPitchAtWrong)

/-- 'laws.FnExactReverseMelody': WHATEVER THE INPUT: true; the input reads as it did. -/
def fnExactReverseMelodySpec : ChangeSpec := { name := "fnExactReverseMelody", fn := fun _ => fun
  | [d] => { results := [.lit (.bool true)], args := [d] }
  | _ => none }
def fnExactReverseMelodyRow : OpenClaim := { program := "ytendfnimhmnioaa", sum := "568ff4d72a6caf5ed7d8a05cbcbae3a48c2fc43217a3ca35614249a3acc4de5c", func := "loop.example/g01033/laws.FnExactReverseMelody", spec := "fnExactReverseMelody", apart := false }
def FnExactReverseMelodySaid : Prop := fnExactReverseMelodyRow.holds Try.pinned (OpenSpec.ofChange fnExactReverseMelodySpec)

/-- ITS FALSE NEIGHBOUR: 'it returns false'. Refute it at one input. -/
def fnExactReverseMelodyWrong : ChangeSpec := { name := "fnExactReverseMelody", fn := fun _ => fun
  | [d] => { results := [.lit (.bool false)], args := [d] }
  | _ => none }
def FnExactReverseMelodyWrongFalsely : Prop := fnExactReverseMelodyRow.holds Try.pinned (OpenSpec.ofChange fnExactReverseMelodyWrong)

/- THE SECOND FORM. 'bulk': how many values and letters a reading holds, each counted each time it is reached (what is shared counts as often as it is met; a slice's spare places count too). A statement '..UptoSaid' is the law's where the arguments, and the package variables that the reading takes, are together of bulk at most 1048576: NARROWER than '..Said'. Prove '..Said' where nothing that the law and all that it calls make is longer than what came in: it says more and counts as full. Else prove '..UptoSaid'. A law counts once. -/
mutual
def uptoBulk {H : Type} : DataW H → Nat
  | .lit (.string bytes) => bytes.length + 1
  | .lit _ => 1
  | .nil => 1
  | .ptr d => uptoBulk d + 1
  | .slice elems spare => uptoBulkAll elems + uptoBulkAll spare + 1
  | .agg parts => uptoBulkAll parts + 1
  | .iface _ d => uptoBulk d + 1
  | .map entries => uptoBulkEntries entries + 1
  | .held _ => 1
def uptoBulkAll {H : Type} : List (DataW H) → Nat
  | [] => 0
  | d :: r => uptoBulk d + uptoBulkAll r
def uptoBulkEntries {H : Type} : List (Lit × DataW H) → Nat
  | [] => 0
  | x :: r => uptoBulkEntry x + uptoBulkEntries r
def uptoBulkEntry {H : Type} : Lit × DataW H → Nat
  | (.string bytes, d) => bytes.length + uptoBulk d + 1
  | (_, d) => uptoBulk d + 1
 end
def uptoSmall : (H : Type) → List (DataW H) → Bool := fun _ ds => decide (uptoBulkAll ds ≤ 1048576)
def OpenSpec.upto (s : _root_.Go.ChangeSpec) : _root_.Go.OpenSpec := { _root_.Go.OpenSpec.ofChange s with cond := some uptoSmall }

/-- 'laws.FnExactBestProgramme', WHERE WHAT IT READS IS OF BULK AT MOST 1048576: true; the input reads as it did. -/
def fnExactBestProgrammeUptoRow : OpenClaim := { program := "ytendfnimhmnioaa", sum := "568ff4d72a6caf5ed7d8a05cbcbae3a48c2fc43217a3ca35614249a3acc4de5c", func := "loop.example/g01033/laws.FnExactBestProgramme", spec := "fnExactBestProgramme", inPlace := ["internal/bytealg.abigen_runtime_cmpstring"], unfollowed := true, recurses := true, apart := false, narrowed := true }
def FnExactBestProgrammeUptoSaid : Prop := fnExactBestProgrammeUptoRow.holds Try.pinned (OpenSpec.upto fnExactBestProgrammeSpec)

/-- 'laws.FnExactCountProgrammes', WHERE WHAT IT READS IS OF BULK AT MOST 1048576: true; the input reads as it did. -/
def fnExactCountProgrammesUptoRow : OpenClaim := { program := "ytendfnimhmnioaa", sum := "568ff4d72a6caf5ed7d8a05cbcbae3a48c2fc43217a3ca35614249a3acc4de5c", func := "loop.example/g01033/laws.FnExactCountProgrammes", spec := "fnExactCountProgrammes", inPlace := ["internal/bytealg.abigen_runtime_cmpstring"], unfollowed := true, recurses := true, apart := false, narrowed := true }
def FnExactCountProgrammesUptoSaid : Prop := fnExactCountProgrammesUptoRow.holds Try.pinned (OpenSpec.upto fnExactCountProgrammesSpec)

/-- 'laws.FnExactValidMelody', WHERE WHAT IT READS IS OF BULK AT MOST 1048576: true; the input reads as it did. -/
def fnExactValidMelodyUptoRow : OpenClaim := { program := "ytendfnimhmnioaa", sum := "568ff4d72a6caf5ed7d8a05cbcbae3a48c2fc43217a3ca35614249a3acc4de5c", func := "loop.example/g01033/laws.FnExactValidMelody", spec := "fnExactValidMelody", apart := false, narrowed := true }
def FnExactValidMelodyUptoSaid : Prop := fnExactValidMelodyUptoRow.holds Try.pinned (OpenSpec.upto fnExactValidMelodySpec)

/-- 'laws.FnExactSameMelody', WHERE WHAT IT READS IS OF BULK AT MOST 1048576: true; the input reads as it did. -/
def fnExactSameMelodyUptoRow : OpenClaim := { program := "ytendfnimhmnioaa", sum := "568ff4d72a6caf5ed7d8a05cbcbae3a48c2fc43217a3ca35614249a3acc4de5c", func := "loop.example/g01033/laws.FnExactSameMelody", spec := "fnExactSameMelody", apart := false, narrowed := true }
def FnExactSameMelodyUptoSaid : Prop := fnExactSameMelodyUptoRow.holds Try.pinned (OpenSpec.upto fnExactSameMelodySpec)

/-- 'laws.FnExactDurationOf', WHERE WHAT IT READS IS OF BULK AT MOST 1048576: true; the input reads as it did. -/
def fnExactDurationOfUptoRow : OpenClaim := { program := "ytendfnimhmnioaa", sum := "568ff4d72a6caf5ed7d8a05cbcbae3a48c2fc43217a3ca35614249a3acc4de5c", func := "loop.example/g01033/laws.FnExactDurationOf", spec := "fnExactDurationOf", apart := false, narrowed := true }
def FnExactDurationOfUptoSaid : Prop := fnExactDurationOfUptoRow.holds Try.pinned (OpenSpec.upto fnExactDurationOfSpec)

/-- 'laws.FnExactPitchesOf', WHERE WHAT IT READS IS OF BULK AT MOST 1048576: true; the input reads as it did. -/
def fnExactPitchesOfUptoRow : OpenClaim := { program := "ytendfnimhmnioaa", sum := "568ff4d72a6caf5ed7d8a05cbcbae3a48c2fc43217a3ca35614249a3acc4de5c", func := "loop.example/g01033/laws.FnExactPitchesOf", spec := "fnExactPitchesOf", apart := false, narrowed := true }
def FnExactPitchesOfUptoSaid : Prop := fnExactPitchesOfUptoRow.holds Try.pinned (OpenSpec.upto fnExactPitchesOfSpec)

/-- 'laws.FnExactRangeOf', WHERE WHAT IT READS IS OF BULK AT MOST 1048576: true; the input reads as it did. -/
def fnExactRangeOfUptoRow : OpenClaim := { program := "ytendfnimhmnioaa", sum := "568ff4d72a6caf5ed7d8a05cbcbae3a48c2fc43217a3ca35614249a3acc4de5c", func := "loop.example/g01033/laws.FnExactRangeOf", spec := "fnExactRangeOf", apart := false, narrowed := true }
def FnExactRangeOfUptoSaid : Prop := fnExactRangeOfUptoRow.holds Try.pinned (OpenSpec.upto fnExactRangeOfSpec)

/-- 'laws.FnExactContourOf', WHERE WHAT IT READS IS OF BULK AT MOST 1048576: true; the input reads as it did. -/
def fnExactContourOfUptoRow : OpenClaim := { program := "ytendfnimhmnioaa", sum := "568ff4d72a6caf5ed7d8a05cbcbae3a48c2fc43217a3ca35614249a3acc4de5c", func := "loop.example/g01033/laws.FnExactContourOf", spec := "fnExactContourOf", apart := false, narrowed := true }
def FnExactContourOfUptoSaid : Prop := fnExactContourOfUptoRow.holds Try.pinned (OpenSpec.upto fnExactContourOfSpec)

/-- 'laws.FnExactPitchAt', WHERE WHAT IT READS IS OF BULK AT MOST 1048576: true; the input reads as it did. -/
def fnExactPitchAtUptoRow : OpenClaim := { program := "ytendfnimhmnioaa", sum := "568ff4d72a6caf5ed7d8a05cbcbae3a48c2fc43217a3ca35614249a3acc4de5c", func := "loop.example/g01033/laws.FnExactPitchAt", spec := "fnExactPitchAt", unfollowed := true, recurses := true, apart := false, narrowed := true }
def FnExactPitchAtUptoSaid : Prop := fnExactPitchAtUptoRow.holds Try.pinned (OpenSpec.upto fnExactPitchAtSpec)

/-- 'laws.FnExactReverseMelody', WHERE WHAT IT READS IS OF BULK AT MOST 1048576: true; the input reads as it did. -/
def fnExactReverseMelodyUptoRow : OpenClaim := { program := "ytendfnimhmnioaa", sum := "568ff4d72a6caf5ed7d8a05cbcbae3a48c2fc43217a3ca35614249a3acc4de5c", func := "loop.example/g01033/laws.FnExactReverseMelody", spec := "fnExactReverseMelody", apart := false, narrowed := true }
def FnExactReverseMelodyUptoSaid : Prop := fnExactReverseMelodyUptoRow.holds Try.pinned (OpenSpec.upto fnExactReverseMelodySpec)

end Rows
end Go.Proofs.Ytendfnimhmnioaa
