/-
  No cell of these rows narrows 'for every input' (looked for: loops, veiled, ifaces, maps, wideKeys, modest, calm, conditions, laid).
  DERIVED. THE GIVEN ROWS OF THIS SEAT. 17 by the template 'for every input the law returns true; each argument reads behind the call as it read before'; 0 by the template 'total and deterministic' (their statements: YtfoikipacnmgkaaTotals.lean).
  GIVEN WITH THE SEED: the statements are not yours to turn. If you find one false, say at which input.
  Laid BY PROGRAM, IN A SANDBOX (cutbox-rows.mjs): the forced cells as the released guide's own fill.sh prints them over the translation 990b3e69f57c191c… (all of the seat's roots in one cut). By AI agents, Wed Nov 11 2026. No macro, syntax, notation, axiom, sorry.
-/
import Derived.Test.YtfoikipacnmgkaaChecked
import GoSem.Claim
import GoSem.ClaimJoined
import GoSem.ClaimMapViews
import Derived.JoinedTies
import Derived.KernelRfl
namespace Go.Proofs.Ytfoikipacnmgkaa
/- THE CELL 'sum', in the pinned program and in every row, IS THE sha256 OF THE DUMP (.gsa) THAT YtfoikipacnmgkaaProg.lean LOADS. Nothing in Lean hashes anything: it is a label: what it is worth is what the hold of that sum in a sandbox is worth. -/
noncomputable def Try.pinned : Pinned := { name := "ytfoikipacnmgkaa", sum := "990b3e69f57c191c154cd7fd9ca6fa481e1910a134b8e53d6c1f1f466ebb2e99", checked := Try.checked }
namespace Rows
def none {H : Type} : Left H := { results := [], args := [] }

/-- 'laws.FnScales': WHATEVER THE INPUT: true; the input reads as it did. -/
def fnScalesSpec : ChangeSpec := { name := "fnScales", fn := fun _ => fun
  | [d1, d2] => { results := [.lit (.bool true)], args := [d1, d2] }
  | _ => none }
def fnScalesRow : OpenClaim := { program := "ytfoikipacnmgkaa", sum := "990b3e69f57c191c154cd7fd9ca6fa481e1910a134b8e53d6c1f1f466ebb2e99", func := "loop.example/g01033/laws.FnScales", spec := "fnScales", inPlace := ["internal/abi.NoEscape", "internal/bytealg.IndexByteString"], apart := false }
def FnScalesSaid : Prop := fnScalesRow.holds Try.pinned (OpenSpec.ofChange fnScalesSpec)

/-- ITS FALSE NEIGHBOUR: 'it returns false'. Refute it at one input. -/
def fnScalesWrong : ChangeSpec := { name := "fnScales", fn := fun _ => fun
  | [d1, d2] => { results := [.lit (.bool false)], args := [d1, d2] }
  | _ => none }
def FnScalesWrongFalsely : Prop := fnScalesRow.holds Try.pinned (OpenSpec.ofChange fnScalesWrong)

/-- 'laws.FnRotations': WHATEVER THE INPUT: true; the input reads as it did. -/
def fnRotationsSpec : ChangeSpec := { name := "fnRotations", fn := fun _ => fun
  | [d1, d2] => { results := [.lit (.bool true)], args := [d1, d2] }
  | _ => none }
def fnRotationsRow : OpenClaim := { program := "ytfoikipacnmgkaa", sum := "990b3e69f57c191c154cd7fd9ca6fa481e1910a134b8e53d6c1f1f466ebb2e99", func := "loop.example/g01033/laws.FnRotations", spec := "fnRotations", apart := false }
def FnRotationsSaid : Prop := fnRotationsRow.holds Try.pinned (OpenSpec.ofChange fnRotationsSpec)

/-- ITS FALSE NEIGHBOUR: 'it returns false'. Refute it at one input. -/
def fnRotationsWrong : ChangeSpec := { name := "fnRotations", fn := fun _ => fun
  | [d1, d2] => { results := [.lit (.bool false)], args := [d1, d2] }
  | _ => none }
def FnRotationsWrongFalsely : Prop := fnRotationsRow.holds Try.pinned (OpenSpec.ofChange fnRotationsWrong)

/-- 'laws.FnExactToneOf': WHATEVER THE INPUT: true; the input reads as it did. -/
def fnExactToneOfSpec : ChangeSpec := { name := "fnExactToneOf", fn := fun _ => fun
  | [d] => { results := [.lit (.bool true)], args := [d] }
  | _ => none }
def fnExactToneOfRow : OpenClaim := { program := "ytfoikipacnmgkaa", sum := "990b3e69f57c191c154cd7fd9ca6fa481e1910a134b8e53d6c1f1f466ebb2e99", func := "loop.example/g01033/laws.FnExactToneOf", spec := "fnExactToneOf", apart := false }
def FnExactToneOfSaid : Prop := fnExactToneOfRow.holds Try.pinned (OpenSpec.ofChange fnExactToneOfSpec)

/-- ITS FALSE NEIGHBOUR: 'it returns false'. Refute it at one input. -/
def fnExactToneOfWrong : ChangeSpec := { name := "fnExactToneOf", fn := fun _ => fun
  | [d] => { results := [.lit (.bool false)], args := [d] }
  | _ => none }
def FnExactToneOfWrongFalsely : Prop := fnExactToneOfRow.holds Try.pinned (OpenSpec.ofChange fnExactToneOfWrong)

/-- 'laws.FnExactToneName': WHATEVER THE INPUT: true; the input reads as it did. -/
def fnExactToneNameSpec : ChangeSpec := { name := "fnExactToneName", fn := fun _ => fun
  | [d] => { results := [.lit (.bool true)], args := [d] }
  | _ => none }
def fnExactToneNameRow : OpenClaim := { program := "ytfoikipacnmgkaa", sum := "990b3e69f57c191c154cd7fd9ca6fa481e1910a134b8e53d6c1f1f466ebb2e99", func := "loop.example/g01033/laws.FnExactToneName", spec := "fnExactToneName", apart := false }
def FnExactToneNameSaid : Prop := fnExactToneNameRow.holds Try.pinned (OpenSpec.ofChange fnExactToneNameSpec)

/-- ITS FALSE NEIGHBOUR: 'it returns false'. Refute it at one input. -/
def fnExactToneNameWrong : ChangeSpec := { name := "fnExactToneName", fn := fun _ => fun
  | [d] => { results := [.lit (.bool false)], args := [d] }
  | _ => none }
def FnExactToneNameWrongFalsely : Prop := fnExactToneNameRow.holds Try.pinned (OpenSpec.ofChange fnExactToneNameWrong)

/-- 'laws.FnExactToneNamed': WHATEVER THE INPUT: true; the input reads as it did. -/
def fnExactToneNamedSpec : ChangeSpec := { name := "fnExactToneNamed", fn := fun _ => fun
  | [d] => { results := [.lit (.bool true)], args := [d] }
  | _ => none }
def fnExactToneNamedRow : OpenClaim := { program := "ytfoikipacnmgkaa", sum := "990b3e69f57c191c154cd7fd9ca6fa481e1910a134b8e53d6c1f1f466ebb2e99", func := "loop.example/g01033/laws.FnExactToneNamed", spec := "fnExactToneNamed", inPlace := ["internal/bytealg.IndexByteString"], apart := false }
def FnExactToneNamedSaid : Prop := fnExactToneNamedRow.holds Try.pinned (OpenSpec.ofChange fnExactToneNamedSpec)

/-- ITS FALSE NEIGHBOUR: 'it returns false'. Refute it at one input. -/
def fnExactToneNamedWrong : ChangeSpec := { name := "fnExactToneNamed", fn := fun _ => fun
  | [d] => { results := [.lit (.bool false)], args := [d] }
  | _ => none }
def FnExactToneNamedWrongFalsely : Prop := fnExactToneNamedRow.holds Try.pinned (OpenSpec.ofChange fnExactToneNamedWrong)

/-- 'laws.FnExactValidScale': WHATEVER THE INPUT: true; the input reads as it did. -/
def fnExactValidScaleSpec : ChangeSpec := { name := "fnExactValidScale", fn := fun _ => fun
  | [d] => { results := [.lit (.bool true)], args := [d] }
  | _ => none }
def fnExactValidScaleRow : OpenClaim := { program := "ytfoikipacnmgkaa", sum := "990b3e69f57c191c154cd7fd9ca6fa481e1910a134b8e53d6c1f1f466ebb2e99", func := "loop.example/g01033/laws.FnExactValidScale", spec := "fnExactValidScale", apart := false }
def FnExactValidScaleSaid : Prop := fnExactValidScaleRow.holds Try.pinned (OpenSpec.ofChange fnExactValidScaleSpec)

/-- ITS FALSE NEIGHBOUR: 'it returns false'. Refute it at one input. -/
def fnExactValidScaleWrong : ChangeSpec := { name := "fnExactValidScale", fn := fun _ => fun
  | [d] => { results := [.lit (.bool false)], args := [d] }
  | _ => none }
def FnExactValidScaleWrongFalsely : Prop := fnExactValidScaleRow.holds Try.pinned (OpenSpec.ofChange fnExactValidScaleWrong)

/-- 'laws.FnExactScaleText': WHATEVER THE INPUT: true; the input reads as it did. -/
def fnExactScaleTextSpec : ChangeSpec := { name := "fnExactScaleText", fn := fun _ => fun
  | [d] => { results := [.lit (.bool true)], args := [d] }
  | _ => none }
def fnExactScaleTextRow : OpenClaim := { program := "ytfoikipacnmgkaa", sum := "990b3e69f57c191c154cd7fd9ca6fa481e1910a134b8e53d6c1f1f466ebb2e99", func := "loop.example/g01033/laws.FnExactScaleText", spec := "fnExactScaleText", inPlace := ["internal/abi.NoEscape"], apart := false }
def FnExactScaleTextSaid : Prop := fnExactScaleTextRow.holds Try.pinned (OpenSpec.ofChange fnExactScaleTextSpec)

/-- ITS FALSE NEIGHBOUR: 'it returns false'. Refute it at one input. -/
def fnExactScaleTextWrong : ChangeSpec := { name := "fnExactScaleText", fn := fun _ => fun
  | [d] => { results := [.lit (.bool false)], args := [d] }
  | _ => none }
def FnExactScaleTextWrongFalsely : Prop := fnExactScaleTextRow.holds Try.pinned (OpenSpec.ofChange fnExactScaleTextWrong)

/-- 'laws.FnExactReadScale': WHATEVER THE INPUT: true; the input reads as it did. -/
def fnExactReadScaleSpec : ChangeSpec := { name := "fnExactReadScale", fn := fun _ => fun
  | [d] => { results := [.lit (.bool true)], args := [d] }
  | _ => none }
def fnExactReadScaleRow : OpenClaim := { program := "ytfoikipacnmgkaa", sum := "990b3e69f57c191c154cd7fd9ca6fa481e1910a134b8e53d6c1f1f466ebb2e99", func := "loop.example/g01033/laws.FnExactReadScale", spec := "fnExactReadScale", inPlace := ["internal/bytealg.IndexByteString"], apart := false }
def FnExactReadScaleSaid : Prop := fnExactReadScaleRow.holds Try.pinned (OpenSpec.ofChange fnExactReadScaleSpec)

/-- ITS FALSE NEIGHBOUR: 'it returns false'. Refute it at one input. -/
def fnExactReadScaleWrong : ChangeSpec := { name := "fnExactReadScale", fn := fun _ => fun
  | [d] => { results := [.lit (.bool false)], args := [d] }
  | _ => none }
def FnExactReadScaleWrongFalsely : Prop := fnExactReadScaleRow.holds Try.pinned (OpenSpec.ofChange fnExactReadScaleWrong)

/-- 'laws.FnExactDegreeOf': WHATEVER THE INPUT: true; the input reads as it did. -/
def fnExactDegreeOfSpec : ChangeSpec := { name := "fnExactDegreeOf", fn := fun _ => fun
  | [d1, d2] => { results := [.lit (.bool true)], args := [d1, d2] }
  | _ => none }
def fnExactDegreeOfRow : OpenClaim := { program := "ytfoikipacnmgkaa", sum := "990b3e69f57c191c154cd7fd9ca6fa481e1910a134b8e53d6c1f1f466ebb2e99", func := "loop.example/g01033/laws.FnExactDegreeOf", spec := "fnExactDegreeOf", apart := false }
def FnExactDegreeOfSaid : Prop := fnExactDegreeOfRow.holds Try.pinned (OpenSpec.ofChange fnExactDegreeOfSpec)

/-- ITS FALSE NEIGHBOUR: 'it returns false'. Refute it at one input. -/
def fnExactDegreeOfWrong : ChangeSpec := { name := "fnExactDegreeOf", fn := fun _ => fun
  | [d1, d2] => { results := [.lit (.bool false)], args := [d1, d2] }
  | _ => none }
def FnExactDegreeOfWrongFalsely : Prop := fnExactDegreeOfRow.holds Try.pinned (OpenSpec.ofChange fnExactDegreeOfWrong)

/-- 'laws.FnExactToneAt': WHATEVER THE INPUT: true; the input reads as it did. -/
def fnExactToneAtSpec : ChangeSpec := { name := "fnExactToneAt", fn := fun _ => fun
  | [d1, d2] => { results := [.lit (.bool true)], args := [d1, d2] }
  | _ => none }
def fnExactToneAtRow : OpenClaim := { program := "ytfoikipacnmgkaa", sum := "990b3e69f57c191c154cd7fd9ca6fa481e1910a134b8e53d6c1f1f466ebb2e99", func := "loop.example/g01033/laws.FnExactToneAt", spec := "fnExactToneAt", apart := false }
def FnExactToneAtSaid : Prop := fnExactToneAtRow.holds Try.pinned (OpenSpec.ofChange fnExactToneAtSpec)

/-- ITS FALSE NEIGHBOUR: 'it returns false'. Refute it at one input. -/
def fnExactToneAtWrong : ChangeSpec := { name := "fnExactToneAt", fn := fun _ => fun
  | [d1, d2] => { results := [.lit (.bool false)], args := [d1, d2] }
  | _ => none }
def FnExactToneAtWrongFalsely : Prop := fnExactToneAtRow.holds Try.pinned (OpenSpec.ofChange fnExactToneAtWrong)

/-- 'laws.FnExactIntervalsOf': WHATEVER THE INPUT: true; the input reads as it did. -/
def fnExactIntervalsOfSpec : ChangeSpec := { name := "fnExactIntervalsOf", fn := fun _ => fun
  | [d] => { results := [.lit (.bool true)], args := [d] }
  | _ => none }
def fnExactIntervalsOfRow : OpenClaim := { program := "ytfoikipacnmgkaa", sum := "990b3e69f57c191c154cd7fd9ca6fa481e1910a134b8e53d6c1f1f466ebb2e99", func := "loop.example/g01033/laws.FnExactIntervalsOf", spec := "fnExactIntervalsOf", apart := false }
def FnExactIntervalsOfSaid : Prop := fnExactIntervalsOfRow.holds Try.pinned (OpenSpec.ofChange fnExactIntervalsOfSpec)

/-- ITS FALSE NEIGHBOUR: 'it returns false'. Refute it at one input. -/
def fnExactIntervalsOfWrong : ChangeSpec := { name := "fnExactIntervalsOf", fn := fun _ => fun
  | [d] => { results := [.lit (.bool false)], args := [d] }
  | _ => none }
def FnExactIntervalsOfWrongFalsely : Prop := fnExactIntervalsOfRow.holds Try.pinned (OpenSpec.ofChange fnExactIntervalsOfWrong)

/-- 'laws.FnExactRotateScale': WHATEVER THE INPUT: true; the input reads as it did. -/
def fnExactRotateScaleSpec : ChangeSpec := { name := "fnExactRotateScale", fn := fun _ => fun
  | [d1, d2] => { results := [.lit (.bool true)], args := [d1, d2] }
  | _ => none }
def fnExactRotateScaleRow : OpenClaim := { program := "ytfoikipacnmgkaa", sum := "990b3e69f57c191c154cd7fd9ca6fa481e1910a134b8e53d6c1f1f466ebb2e99", func := "loop.example/g01033/laws.FnExactRotateScale", spec := "fnExactRotateScale", apart := false }
def FnExactRotateScaleSaid : Prop := fnExactRotateScaleRow.holds Try.pinned (OpenSpec.ofChange fnExactRotateScaleSpec)

/-- ITS FALSE NEIGHBOUR: 'it returns false'. Refute it at one input. -/
def fnExactRotateScaleWrong : ChangeSpec := { name := "fnExactRotateScale", fn := fun _ => fun
  | [d1, d2] => { results := [.lit (.bool false)], args := [d1, d2] }
  | _ => none }
def FnExactRotateScaleWrongFalsely : Prop := fnExactRotateScaleRow.holds Try.pinned (OpenSpec.ofChange fnExactRotateScaleWrong)

/-- 'laws.FnExactRotationTo': WHATEVER THE INPUT: true; the input reads as it did. -/
def fnExactRotationToSpec : ChangeSpec := { name := "fnExactRotationTo", fn := fun _ => fun
  | [d1, d2] => { results := [.lit (.bool true)], args := [d1, d2] }
  | _ => none }
def fnExactRotationToRow : OpenClaim := { program := "ytfoikipacnmgkaa", sum := "990b3e69f57c191c154cd7fd9ca6fa481e1910a134b8e53d6c1f1f466ebb2e99", func := "loop.example/g01033/laws.FnExactRotationTo", spec := "fnExactRotationTo", apart := false }
def FnExactRotationToSaid : Prop := fnExactRotationToRow.holds Try.pinned (OpenSpec.ofChange fnExactRotationToSpec)

/-- ITS FALSE NEIGHBOUR: 'it returns false'. Refute it at one input. -/
def fnExactRotationToWrong : ChangeSpec := { name := "fnExactRotationTo", fn := fun _ => fun
  | [d1, d2] => { results := [.lit (.bool false)], args := [d1, d2] }
  | _ => none }
def FnExactRotationToWrongFalsely : Prop := fnExactRotationToRow.holds Try.pinned (OpenSpec.ofChange fnExactRotationToWrong)

/-- 'laws.FnExactCommonTones': WHATEVER THE INPUT: true; the input reads as it did. -/
def fnExactCommonTonesSpec : ChangeSpec := { name := "fnExactCommonTones", fn := fun _ => fun
  | [d1, d2] => { results := [.lit (.bool true)], args := [d1, d2] }
  | _ => none }
def fnExactCommonTonesRow : OpenClaim := { program := "ytfoikipacnmgkaa", sum := "990b3e69f57c191c154cd7fd9ca6fa481e1910a134b8e53d6c1f1f466ebb2e99", func := "loop.example/g01033/laws.FnExactCommonTones", spec := "fnExactCommonTones", apart := false }
def FnExactCommonTonesSaid : Prop := fnExactCommonTonesRow.holds Try.pinned (OpenSpec.ofChange fnExactCommonTonesSpec)

/-- ITS FALSE NEIGHBOUR: 'it returns false'. Refute it at one input. -/
def fnExactCommonTonesWrong : ChangeSpec := { name := "fnExactCommonTones", fn := fun _ => fun
  | [d1, d2] => { results := [.lit (.bool false)], args := [d1, d2] }
  | _ => none }
def FnExactCommonTonesWrongFalsely : Prop := fnExactCommonTonesRow.holds Try.pinned (OpenSpec.ofChange fnExactCommonTonesWrong)

/-- 'laws.FnExactCountScales': WHATEVER THE INPUT: true; the input reads as it did. -/
def fnExactCountScalesSpec : ChangeSpec := { name := "fnExactCountScales", fn := fun _ => fun
  | [d] => { results := [.lit (.bool true)], args := [d] }
  | _ => none }
def fnExactCountScalesRow : OpenClaim := { program := "ytfoikipacnmgkaa", sum := "990b3e69f57c191c154cd7fd9ca6fa481e1910a134b8e53d6c1f1f466ebb2e99", func := "loop.example/g01033/laws.FnExactCountScales", spec := "fnExactCountScales", apart := false }
def FnExactCountScalesSaid : Prop := fnExactCountScalesRow.holds Try.pinned (OpenSpec.ofChange fnExactCountScalesSpec)

/-- ITS FALSE NEIGHBOUR: 'it returns false'. Refute it at one input. -/
def fnExactCountScalesWrong : ChangeSpec := { name := "fnExactCountScales", fn := fun _ => fun
  | [d] => { results := [.lit (.bool false)], args := [d] }
  | _ => none }
def FnExactCountScalesWrongFalsely : Prop := fnExactCountScalesRow.holds Try.pinned (OpenSpec.ofChange fnExactCountScalesWrong)

/-- 'laws.FnExactScaleNumber': WHATEVER THE INPUT: true; the input reads as it did. -/
def fnExactScaleNumberSpec : ChangeSpec := { name := "fnExactScaleNumber", fn := fun _ => fun
  | [d] => { results := [.lit (.bool true)], args := [d] }
  | _ => none }
def fnExactScaleNumberRow : OpenClaim := { program := "ytfoikipacnmgkaa", sum := "990b3e69f57c191c154cd7fd9ca6fa481e1910a134b8e53d6c1f1f466ebb2e99", func := "loop.example/g01033/laws.FnExactScaleNumber", spec := "fnExactScaleNumber", apart := false }
def FnExactScaleNumberSaid : Prop := fnExactScaleNumberRow.holds Try.pinned (OpenSpec.ofChange fnExactScaleNumberSpec)

/-- ITS FALSE NEIGHBOUR: 'it returns false'. Refute it at one input. -/
def fnExactScaleNumberWrong : ChangeSpec := { name := "fnExactScaleNumber", fn := fun _ => fun
  | [d] => { results := [.lit (.bool false)], args := [d] }
  | _ => none }
def FnExactScaleNumberWrongFalsely : Prop := fnExactScaleNumberRow.holds Try.pinned (OpenSpec.ofChange fnExactScaleNumberWrong)

/-- 'laws.FnExactNumberedScale': WHATEVER THE INPUT: true; the input reads as it did. -/
def fnExactNumberedScaleSpec : ChangeSpec := { name := "fnExactNumberedScale", fn := fun _ => fun
  | [d1, d2] => { results := [.lit (.bool true)], args := [d1, d2] }
  | _ => none }
def fnExactNumberedScaleRow : OpenClaim := { program := "ytfoikipacnmgkaa", sum := "990b3e69f57c191c154cd7fd9ca6fa481e1910a134b8e53d6c1f1f466ebb2e99", func := "loop.example/g01033/laws.FnExactNumberedScale", spec := "fnExactNumberedScale", apart := false }
def FnExactNumberedScaleSaid : Prop := fnExactNumberedScaleRow.holds Try.pinned (OpenSpec.ofChange fnExactNumberedScaleSpec)

/-- ITS FALSE NEIGHBOUR: 'it returns false'. Refute it at one input. -/
def fnExactNumberedScaleWrong : ChangeSpec := { name := "fnExactNumberedScale", fn := fun _ => fun
  | [d1, d2] => { results := [.lit (.bool false)], args := [d1, d2] }
  | _ => none }
def FnExactNumberedScaleWrongFalsely : Prop := fnExactNumberedScaleRow.holds Try.pinned (OpenSpec.ofChange fnExactNumberedScaleWrong)

/- THE SECOND FORM. 'bulk': how many values and letters a reading holds, each counted each time it is reached (what is shared counts as often as it is met; a slice's spare places count too). A statement '..UptoSaid' is the law's where the arguments, and the package variables that the reading takes, are together of bulk at most 1048576: NARROWER than '..Said'. Prove '..Said' where nothing that the law and all that it calls make is longer than what came in: it says more and counts as full. Else prove '..UptoSaid'. A law counts once. -/
mutual
def uptoBulk {H : Type} : DataW H → Nat
  | .lit (.string bytes) => bytes.length + 1
  | .lit _ => 1
  | .nil => 1
  | .ptr d => uptoBulk d + 1
  | .slice elems spare => uptoBulkAll elems + uptoBulkAll spare + 1
  | .agg parts => uptoBulkAll parts + 1
  | .iface _ d => uptoBulk d + 1
  | .map entries => uptoBulkEntries entries + 1
  | .held _ => 1
def uptoBulkAll {H : Type} : List (DataW H) → Nat
  | [] => 0
  | d :: r => uptoBulk d + uptoBulkAll r
def uptoBulkEntries {H : Type} : List (Lit × DataW H) → Nat
  | [] => 0
  | x :: r => uptoBulkEntry x + uptoBulkEntries r
def uptoBulkEntry {H : Type} : Lit × DataW H → Nat
  | (.string bytes, d) => bytes.length + uptoBulk d + 1
  | (_, d) => uptoBulk d + 1
 end
def uptoSmall : (H : Type) → List (DataW H) → Bool := fun _ ds => decide (uptoBulkAll ds ≤ 1048576)
def OpenSpec.upto (s : _root_.Go.ChangeSpec) : _root_.Go.OpenSpec := { _root_.Go.OpenSpec.ofChange s with cond := some uptoSmall }

/-- 'laws.FnScales', WHERE WHAT IT READS IS OF BULK AT MOST 1048576: true; the input reads as it did. -/
def fnScalesUptoRow : OpenClaim := { program := "ytfoikipacnmgkaa", sum := "990b3e69f57c191c154cd7fd9ca6fa481e1910a134b8e53d6c1f1f466ebb2e99", func := "loop.example/g01033/laws.FnScales", spec := "fnScales", inPlace := ["internal/abi.NoEscape", "internal/bytealg.IndexByteString"], apart := false, narrowed := true }
def FnScalesUptoSaid : Prop := fnScalesUptoRow.holds Try.pinned (OpenSpec.upto fnScalesSpec)

/-- 'laws.FnRotations', WHERE WHAT IT READS IS OF BULK AT MOST 1048576: true; the input reads as it did. -/
def fnRotationsUptoRow : OpenClaim := { program := "ytfoikipacnmgkaa", sum := "990b3e69f57c191c154cd7fd9ca6fa481e1910a134b8e53d6c1f1f466ebb2e99", func := "loop.example/g01033/laws.FnRotations", spec := "fnRotations", apart := false, narrowed := true }
def FnRotationsUptoSaid : Prop := fnRotationsUptoRow.holds Try.pinned (OpenSpec.upto fnRotationsSpec)

/-- 'laws.FnExactToneOf', WHERE WHAT IT READS IS OF BULK AT MOST 1048576: true; the input reads as it did. -/
def fnExactToneOfUptoRow : OpenClaim := { program := "ytfoikipacnmgkaa", sum := "990b3e69f57c191c154cd7fd9ca6fa481e1910a134b8e53d6c1f1f466ebb2e99", func := "loop.example/g01033/laws.FnExactToneOf", spec := "fnExactToneOf", apart := false, narrowed := true }
def FnExactToneOfUptoSaid : Prop := fnExactToneOfUptoRow.holds Try.pinned (OpenSpec.upto fnExactToneOfSpec)

/-- 'laws.FnExactToneName', WHERE WHAT IT READS IS OF BULK AT MOST 1048576: true; the input reads as it did. -/
def fnExactToneNameUptoRow : OpenClaim := { program := "ytfoikipacnmgkaa", sum := "990b3e69f57c191c154cd7fd9ca6fa481e1910a134b8e53d6c1f1f466ebb2e99", func := "loop.example/g01033/laws.FnExactToneName", spec := "fnExactToneName", apart := false, narrowed := true }
def FnExactToneNameUptoSaid : Prop := fnExactToneNameUptoRow.holds Try.pinned (OpenSpec.upto fnExactToneNameSpec)

/-- 'laws.FnExactToneNamed', WHERE WHAT IT READS IS OF BULK AT MOST 1048576: true; the input reads as it did. -/
def fnExactToneNamedUptoRow : OpenClaim := { program := "ytfoikipacnmgkaa", sum := "990b3e69f57c191c154cd7fd9ca6fa481e1910a134b8e53d6c1f1f466ebb2e99", func := "loop.example/g01033/laws.FnExactToneNamed", spec := "fnExactToneNamed", inPlace := ["internal/bytealg.IndexByteString"], apart := false, narrowed := true }
def FnExactToneNamedUptoSaid : Prop := fnExactToneNamedUptoRow.holds Try.pinned (OpenSpec.upto fnExactToneNamedSpec)

/-- 'laws.FnExactValidScale', WHERE WHAT IT READS IS OF BULK AT MOST 1048576: true; the input reads as it did. -/
def fnExactValidScaleUptoRow : OpenClaim := { program := "ytfoikipacnmgkaa", sum := "990b3e69f57c191c154cd7fd9ca6fa481e1910a134b8e53d6c1f1f466ebb2e99", func := "loop.example/g01033/laws.FnExactValidScale", spec := "fnExactValidScale", apart := false, narrowed := true }
def FnExactValidScaleUptoSaid : Prop := fnExactValidScaleUptoRow.holds Try.pinned (OpenSpec.upto fnExactValidScaleSpec)

/-- 'laws.FnExactScaleText', WHERE WHAT IT READS IS OF BULK AT MOST 1048576: true; the input reads as it did. -/
def fnExactScaleTextUptoRow : OpenClaim := { program := "ytfoikipacnmgkaa", sum := "990b3e69f57c191c154cd7fd9ca6fa481e1910a134b8e53d6c1f1f466ebb2e99", func := "loop.example/g01033/laws.FnExactScaleText", spec := "fnExactScaleText", inPlace := ["internal/abi.NoEscape"], apart := false, narrowed := true }
def FnExactScaleTextUptoSaid : Prop := fnExactScaleTextUptoRow.holds Try.pinned (OpenSpec.upto fnExactScaleTextSpec)

/-- 'laws.FnExactReadScale', WHERE WHAT IT READS IS OF BULK AT MOST 1048576: true; the input reads as it did. -/
def fnExactReadScaleUptoRow : OpenClaim := { program := "ytfoikipacnmgkaa", sum := "990b3e69f57c191c154cd7fd9ca6fa481e1910a134b8e53d6c1f1f466ebb2e99", func := "loop.example/g01033/laws.FnExactReadScale", spec := "fnExactReadScale", inPlace := ["internal/bytealg.IndexByteString"], apart := false, narrowed := true }
def FnExactReadScaleUptoSaid : Prop := fnExactReadScaleUptoRow.holds Try.pinned (OpenSpec.upto fnExactReadScaleSpec)

/-- 'laws.FnExactDegreeOf', WHERE WHAT IT READS IS OF BULK AT MOST 1048576: true; the input reads as it did. -/
def fnExactDegreeOfUptoRow : OpenClaim := { program := "ytfoikipacnmgkaa", sum := "990b3e69f57c191c154cd7fd9ca6fa481e1910a134b8e53d6c1f1f466ebb2e99", func := "loop.example/g01033/laws.FnExactDegreeOf", spec := "fnExactDegreeOf", apart := false, narrowed := true }
def FnExactDegreeOfUptoSaid : Prop := fnExactDegreeOfUptoRow.holds Try.pinned (OpenSpec.upto fnExactDegreeOfSpec)

/-- 'laws.FnExactToneAt', WHERE WHAT IT READS IS OF BULK AT MOST 1048576: true; the input reads as it did. -/
def fnExactToneAtUptoRow : OpenClaim := { program := "ytfoikipacnmgkaa", sum := "990b3e69f57c191c154cd7fd9ca6fa481e1910a134b8e53d6c1f1f466ebb2e99", func := "loop.example/g01033/laws.FnExactToneAt", spec := "fnExactToneAt", apart := false, narrowed := true }
def FnExactToneAtUptoSaid : Prop := fnExactToneAtUptoRow.holds Try.pinned (OpenSpec.upto fnExactToneAtSpec)

/-- 'laws.FnExactIntervalsOf', WHERE WHAT IT READS IS OF BULK AT MOST 1048576: true; the input reads as it did. -/
def fnExactIntervalsOfUptoRow : OpenClaim := { program := "ytfoikipacnmgkaa", sum := "990b3e69f57c191c154cd7fd9ca6fa481e1910a134b8e53d6c1f1f466ebb2e99", func := "loop.example/g01033/laws.FnExactIntervalsOf", spec := "fnExactIntervalsOf", apart := false, narrowed := true }
def FnExactIntervalsOfUptoSaid : Prop := fnExactIntervalsOfUptoRow.holds Try.pinned (OpenSpec.upto fnExactIntervalsOfSpec)

/-- 'laws.FnExactRotateScale', WHERE WHAT IT READS IS OF BULK AT MOST 1048576: true; the input reads as it did. -/
def fnExactRotateScaleUptoRow : OpenClaim := { program := "ytfoikipacnmgkaa", sum := "990b3e69f57c191c154cd7fd9ca6fa481e1910a134b8e53d6c1f1f466ebb2e99", func := "loop.example/g01033/laws.FnExactRotateScale", spec := "fnExactRotateScale", apart := false, narrowed := true }
def FnExactRotateScaleUptoSaid : Prop := fnExactRotateScaleUptoRow.holds Try.pinned (OpenSpec.upto fnExactRotateScaleSpec)

/-- 'laws.FnExactRotationTo', WHERE WHAT IT READS IS OF BULK AT MOST 1048576: true; the input reads as it did. -/
def fnExactRotationToUptoRow : OpenClaim := { program := "ytfoikipacnmgkaa", sum := "990b3e69f57c191c154cd7fd9ca6fa481e1910a134b8e53d6c1f1f466ebb2e99", func := "loop.example/g01033/laws.FnExactRotationTo", spec := "fnExactRotationTo", apart := false, narrowed := true }
def FnExactRotationToUptoSaid : Prop := fnExactRotationToUptoRow.holds Try.pinned (OpenSpec.upto fnExactRotationToSpec)

/-- 'laws.FnExactCommonTones', WHERE WHAT IT READS IS OF BULK AT MOST 1048576: true; the input reads as it did. -/
def fnExactCommonTonesUptoRow : OpenClaim := { program := "ytfoikipacnmgkaa", sum := "990b3e69f57c191c154cd7fd9ca6fa481e1910a134b8e53d6c1f1f466ebb2e99", func := "loop.example/g01033/laws.FnExactCommonTones", spec := "fnExactCommonTones", apart := false, narrowed := true }
def FnExactCommonTonesUptoSaid : Prop := fnExactCommonTonesUptoRow.holds Try.pinned (OpenSpec.upto fnExactCommonTonesSpec)

/-- 'laws.FnExactCountScales', WHERE WHAT IT READS IS OF BULK AT MOST 1048576: true; the input reads as it did. -/
def fnExactCountScalesUptoRow : OpenClaim := { program := "ytfoikipacnmgkaa", sum := "990b3e69f57c191c154cd7fd9ca6fa481e1910a134b8e53d6c1f1f466ebb2e99", func := "loop.example/g01033/laws.FnExactCountScales", spec := "fnExactCountScales", apart := false, narrowed := true }
def FnExactCountScalesUptoSaid : Prop := fnExactCountScalesUptoRow.holds Try.pinned (OpenSpec.upto fnExactCountScalesSpec)

/-- 'laws.FnExactScaleNumber', WHERE WHAT IT READS IS OF BULK AT MOST 1048576: true; the input reads as it did. -/
def fnExactScaleNumberUptoRow : OpenClaim := { program := "ytfoikipacnmgkaa", sum := "990b3e69f57c191c154cd7fd9ca6fa481e1910a134b8e53d6c1f1f466ebb2e99", func := "loop.example/g01033/laws.FnExactScaleNumber", spec := "fnExactScaleNumber", apart := false, narrowed := true }
def FnExactScaleNumberUptoSaid : Prop := fnExactScaleNumberUptoRow.holds Try.pinned (OpenSpec.upto fnExactScaleNumberSpec)

/-- 'laws.FnExactNumberedScale', WHERE WHAT IT READS IS OF BULK AT MOST 1048576: true; the input reads as it did. -/
def fnExactNumberedScaleUptoRow : OpenClaim := { program := "ytfoikipacnmgkaa", sum := "990b3e69f57c191c154cd7fd9ca6fa481e1910a134b8e53d6c1f1f466ebb2e99", func := "loop.example/g01033/laws.FnExactNumberedScale", spec := "fnExactNumberedScale", apart := false, narrowed := true }
def FnExactNumberedScaleUptoSaid : Prop := fnExactNumberedScaleUptoRow.holds Try.pinned (OpenSpec.upto fnExactNumberedScaleSpec)

end Rows
end Go.Proofs.Ytfoikipacnmgkaa
