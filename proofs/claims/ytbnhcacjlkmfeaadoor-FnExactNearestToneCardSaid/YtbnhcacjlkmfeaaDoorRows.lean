/-
  NARROWER THAN 'FOR EVERY INPUT', by the rows' own cells (each row's printed sentence says how): FnExactPitchCents: laid · FnExactNearestTone: laid · FnExactEqualErrors: laid · FnExactWorstFifth: laid · FnExactTuningText: laid · FnExactReadTuning: laid.
  DERIVED. THE GIVEN ROWS OF THIS SEAT. 6 by the template 'for every input the law returns true; each argument reads behind the call as it read before'; 0 by the template 'total and deterministic' (their statements: YtbnhcacjlkmfeaaDoorTotals.lean).
  GIVEN WITH THE SEED: the statements are not yours to turn. If you find one false, say at which input.
  Laid BY PROGRAM, IN A SANDBOX (cutbox-rows.mjs): the forced cells as the released guide's own fill.sh prints them over the translation df18e1f771bac5ed… (all of the seat's roots in one cut). By AI agents, Wed Nov 11 2026. No macro, syntax, notation, axiom, sorry.
-/
import Derived.Test.YtbnhcacjlkmfeaaDoorChecked
import GoSem.PinnedTables
import GoSem.Claim
import GoSem.ClaimJoined
import GoSem.ClaimMapViews
import Derived.JoinedTies
import Derived.KernelRfl
namespace Go.Proofs.YtbnhcacjlkmfeaaDoor
/- THE CELL 'sum', in the pinned program and in every row, IS THE sha256 OF THE DUMP (.gsa) THAT YtbnhcacjlkmfeaaDoorProg.lean LOADS. Nothing in Lean hashes anything: it is a label: what it is worth is what the hold of that sum in a sandbox is worth. -/
noncomputable def Tryd.pinned : Pinned := { name := "ytbnhcacjlkmfeaadoor", sum := "df18e1f771bac5ed7454632faf736c091756d2a01f764e7b31f641d066282a43", checked := Tryd.checked }
namespace Rows
def none {H : Type} : Left H := { results := [], args := [] }

/- WHAT THE LISTED PACKAGE-LEVEL VARIABLES READ AS WHEN THE CALL BEGINS. Each datum BY PROGRAM (the guide's laid-datum.mjs) off the statement by which the dump's own 'gosem.cut.vars' lays the variable. In a bare row this is a premise. The card (YtbnhcacjlkmfeaaDoorCards.lean) ties it to the program's text. -/
def laid_loop_example_g01033_impl_centsOfSteps {H : Type} : DataW H := .agg [.lit (.int .i64 0), .lit (.int .i64 5327), .lit (.int .i64 10496), .lit (.int .i64 15514), .lit (.int .i64 20391), .lit (.int .i64 25134), .lit (.int .i64 29751), .lit (.int .i64 34248), .lit (.int .i64 38631), .lit (.int .i64 42906), .lit (.int .i64 47078), .lit (.int .i64 51152), .lit (.int .i64 55132), .lit (.int .i64 59022), .lit (.int .i64 62827), .lit (.int .i64 66551), .lit (.int .i64 70196), .lit (.int .i64 73765), .lit (.int .i64 77263), .lit (.int .i64 80691), .lit (.int .i64 84053), .lit (.int .i64 87350), .lit (.int .i64 90587), .lit (.int .i64 93763), .lit (.int .i64 96883), .lit (.int .i64 99947), .lit (.int .i64 102958), .lit (.int .i64 105917), .lit (.int .i64 108827), .lit (.int .i64 111688), .lit (.int .i64 114504), .lit (.int .i64 117274), .lit (.int .i64 120000)]
def laid_math_bits_deBruijn32tab {H : Type} : DataW H := .agg [.lit (.int .u8 0), .lit (.int .u8 1), .lit (.int .u8 28), .lit (.int .u8 2), .lit (.int .u8 29), .lit (.int .u8 14), .lit (.int .u8 24), .lit (.int .u8 3), .lit (.int .u8 30), .lit (.int .u8 22), .lit (.int .u8 20), .lit (.int .u8 15), .lit (.int .u8 25), .lit (.int .u8 17), .lit (.int .u8 4), .lit (.int .u8 8), .lit (.int .u8 31), .lit (.int .u8 27), .lit (.int .u8 13), .lit (.int .u8 23), .lit (.int .u8 21), .lit (.int .u8 19), .lit (.int .u8 16), .lit (.int .u8 7), .lit (.int .u8 26), .lit (.int .u8 12), .lit (.int .u8 18), .lit (.int .u8 6), .lit (.int .u8 11), .lit (.int .u8 5), .lit (.int .u8 10), .lit (.int .u8 9)]
def laid_math_bits_deBruijn64tab {H : Type} : DataW H := .agg [.lit (.int .u8 0), .lit (.int .u8 1), .lit (.int .u8 56), .lit (.int .u8 2), .lit (.int .u8 57), .lit (.int .u8 49), .lit (.int .u8 28), .lit (.int .u8 3), .lit (.int .u8 61), .lit (.int .u8 58), .lit (.int .u8 42), .lit (.int .u8 50), .lit (.int .u8 38), .lit (.int .u8 29), .lit (.int .u8 17), .lit (.int .u8 4), .lit (.int .u8 62), .lit (.int .u8 47), .lit (.int .u8 59), .lit (.int .u8 36), .lit (.int .u8 45), .lit (.int .u8 43), .lit (.int .u8 51), .lit (.int .u8 22), .lit (.int .u8 53), .lit (.int .u8 39), .lit (.int .u8 33), .lit (.int .u8 30), .lit (.int .u8 24), .lit (.int .u8 18), .lit (.int .u8 12), .lit (.int .u8 5), .lit (.int .u8 63), .lit (.int .u8 55), .lit (.int .u8 48), .lit (.int .u8 27), .lit (.int .u8 60), .lit (.int .u8 41), .lit (.int .u8 37), .lit (.int .u8 16), .lit (.int .u8 46), .lit (.int .u8 35), .lit (.int .u8 44), .lit (.int .u8 21), .lit (.int .u8 52), .lit (.int .u8 32), .lit (.int .u8 23), .lit (.int .u8 11), .lit (.int .u8 54), .lit (.int .u8 26), .lit (.int .u8 40), .lit (.int .u8 15), .lit (.int .u8 34), .lit (.int .u8 20), .lit (.int .u8 31), .lit (.int .u8 10), .lit (.int .u8 25), .lit (.int .u8 14), .lit (.int .u8 19), .lit (.int .u8 9), .lit (.int .u8 13), .lit (.int .u8 8), .lit (.int .u8 7), .lit (.int .u8 6)]
def laid_internal_strconv_uint64pow10 {H : Type} : DataW H := .agg [.lit (.int .u64 1), .lit (.int .u64 10), .lit (.int .u64 100), .lit (.int .u64 1000), .lit (.int .u64 10000), .lit (.int .u64 100000), .lit (.int .u64 1000000), .lit (.int .u64 10000000), .lit (.int .u64 100000000), .lit (.int .u64 1000000000), .lit (.int .u64 10000000000), .lit (.int .u64 100000000000), .lit (.int .u64 1000000000000), .lit (.int .u64 10000000000000), .lit (.int .u64 100000000000000), .lit (.int .u64 1000000000000000), .lit (.int .u64 10000000000000000), .lit (.int .u64 100000000000000000), .lit (.int .u64 1000000000000000000), .lit (.int .u64 10000000000000000000)]
def laid_unicode_utf8_acceptRanges {H : Type} : DataW H := .agg [.agg [.lit (.int .u8 128), .lit (.int .u8 191)], .agg [.lit (.int .u8 160), .lit (.int .u8 191)], .agg [.lit (.int .u8 128), .lit (.int .u8 159)], .agg [.lit (.int .u8 144), .lit (.int .u8 191)], .agg [.lit (.int .u8 128), .lit (.int .u8 143)], .agg [.lit (.int .u8 0), .lit (.int .u8 0)], .agg [.lit (.int .u8 0), .lit (.int .u8 0)], .agg [.lit (.int .u8 0), .lit (.int .u8 0)], .agg [.lit (.int .u8 0), .lit (.int .u8 0)], .agg [.lit (.int .u8 0), .lit (.int .u8 0)], .agg [.lit (.int .u8 0), .lit (.int .u8 0)], .agg [.lit (.int .u8 0), .lit (.int .u8 0)], .agg [.lit (.int .u8 0), .lit (.int .u8 0)], .agg [.lit (.int .u8 0), .lit (.int .u8 0)], .agg [.lit (.int .u8 0), .lit (.int .u8 0)], .agg [.lit (.int .u8 0), .lit (.int .u8 0)]]
def laid_strconv_ErrRange {H : Type} : DataW H := .iface "*errors.errorString" (.ptr (.agg [.lit (.string [118, 97, 108, 117, 101, 32, 111, 117, 116, 32, 111, 102, 32, 114, 97, 110, 103, 101])]))
def laid_strconv_ErrSyntax {H : Type} : DataW H := .iface "*errors.errorString" (.ptr (.agg [.lit (.string [105, 110, 118, 97, 108, 105, 100, 32, 115, 121, 110, 116, 97, 120])]))
/-- One of Go's own tables, pinned by name: the form's constant. -/
def laid_unicode_utf8_first : DataW Unit := Go.Pinned.utf8First

/-- 'laws.FnExactPitchCents': WHATEVER THE INPUT: true; the input reads as it did. -/
def fnExactPitchCentsSpec : ChangeSpec := { name := "fnExactPitchCents", vars := ["loop.example/g01033/impl.centsOfSteps"], fn := fun _ => fun
  | [d1, d2, g1] => { results := [.lit (.bool true)], args := [d1, d2], vars := [g1] }
  | _ => none }
def fnExactPitchCentsRow : OpenClaim := { program := "ytbnhcacjlkmfeaadoor", sum := "df18e1f771bac5ed7454632faf736c091756d2a01f764e7b31f641d066282a43", func := "loop.example/g01033/laws.FnExactPitchCents", spec := "fnExactPitchCents", named := ["loop.example/g01033/impl.centsOfSteps"], apart := false, laid := [("loop.example/g01033/impl.centsOfSteps", laid_loop_example_g01033_impl_centsOfSteps)] }
def FnExactPitchCentsSaid : Prop := fnExactPitchCentsRow.holds Tryd.pinned (OpenSpec.ofChange fnExactPitchCentsSpec)

/-- ITS FALSE NEIGHBOUR: 'it returns false'. Refute it at one input. -/
def fnExactPitchCentsWrong : ChangeSpec := { name := "fnExactPitchCents", vars := ["loop.example/g01033/impl.centsOfSteps"], fn := fun _ => fun
  | [d1, d2, g1] => { results := [.lit (.bool false)], args := [d1, d2], vars := [g1] }
  | _ => none }
def FnExactPitchCentsWrongFalsely : Prop := fnExactPitchCentsRow.holds Tryd.pinned (OpenSpec.ofChange fnExactPitchCentsWrong)

/-- 'laws.FnExactNearestTone': WHATEVER THE INPUT: true; the input reads as it did. -/
def fnExactNearestToneSpec : ChangeSpec := { name := "fnExactNearestTone", vars := ["loop.example/g01033/impl.centsOfSteps"], fn := fun _ => fun
  | [d1, d2, g1] => { results := [.lit (.bool true)], args := [d1, d2], vars := [g1] }
  | _ => none }
def fnExactNearestToneRow : OpenClaim := { program := "ytbnhcacjlkmfeaadoor", sum := "df18e1f771bac5ed7454632faf736c091756d2a01f764e7b31f641d066282a43", func := "loop.example/g01033/laws.FnExactNearestTone", spec := "fnExactNearestTone", unfollowed := true, recurses := true, named := ["loop.example/g01033/impl.centsOfSteps"], apart := false, laid := [("loop.example/g01033/impl.centsOfSteps", laid_loop_example_g01033_impl_centsOfSteps)] }
def FnExactNearestToneSaid : Prop := fnExactNearestToneRow.holds Tryd.pinned (OpenSpec.ofChange fnExactNearestToneSpec)

/-- ITS FALSE NEIGHBOUR: 'it returns false'. Refute it at one input. -/
def fnExactNearestToneWrong : ChangeSpec := { name := "fnExactNearestTone", vars := ["loop.example/g01033/impl.centsOfSteps"], fn := fun _ => fun
  | [d1, d2, g1] => { results := [.lit (.bool false)], args := [d1, d2], vars := [g1] }
  | _ => none }
def FnExactNearestToneWrongFalsely : Prop := fnExactNearestToneRow.holds Tryd.pinned (OpenSpec.ofChange fnExactNearestToneWrong)

/-- 'laws.FnExactEqualErrors': WHATEVER THE INPUT: true; the input reads as it did. -/
def fnExactEqualErrorsSpec : ChangeSpec := { name := "fnExactEqualErrors", vars := ["loop.example/g01033/impl.centsOfSteps"], fn := fun _ => fun
  | [d, g1] => { results := [.lit (.bool true)], args := [d], vars := [g1] }
  | _ => none }
def fnExactEqualErrorsRow : OpenClaim := { program := "ytbnhcacjlkmfeaadoor", sum := "df18e1f771bac5ed7454632faf736c091756d2a01f764e7b31f641d066282a43", func := "loop.example/g01033/laws.FnExactEqualErrors", spec := "fnExactEqualErrors", unfollowed := true, recurses := true, named := ["loop.example/g01033/impl.centsOfSteps"], apart := false, laid := [("loop.example/g01033/impl.centsOfSteps", laid_loop_example_g01033_impl_centsOfSteps)] }
def FnExactEqualErrorsSaid : Prop := fnExactEqualErrorsRow.holds Tryd.pinned (OpenSpec.ofChange fnExactEqualErrorsSpec)

/-- ITS FALSE NEIGHBOUR: 'it returns false'. Refute it at one input. -/
def fnExactEqualErrorsWrong : ChangeSpec := { name := "fnExactEqualErrors", vars := ["loop.example/g01033/impl.centsOfSteps"], fn := fun _ => fun
  | [d, g1] => { results := [.lit (.bool false)], args := [d], vars := [g1] }
  | _ => none }
def FnExactEqualErrorsWrongFalsely : Prop := fnExactEqualErrorsRow.holds Tryd.pinned (OpenSpec.ofChange fnExactEqualErrorsWrong)

/-- 'laws.FnExactWorstFifth': WHATEVER THE INPUT: true; the input reads as it did. -/
def fnExactWorstFifthSpec : ChangeSpec := { name := "fnExactWorstFifth", vars := ["loop.example/g01033/impl.centsOfSteps"], fn := fun _ => fun
  | [d, g1] => { results := [.lit (.bool true)], args := [d], vars := [g1] }
  | _ => none }
def fnExactWorstFifthRow : OpenClaim := { program := "ytbnhcacjlkmfeaadoor", sum := "df18e1f771bac5ed7454632faf736c091756d2a01f764e7b31f641d066282a43", func := "loop.example/g01033/laws.FnExactWorstFifth", spec := "fnExactWorstFifth", named := ["loop.example/g01033/impl.centsOfSteps"], apart := false, laid := [("loop.example/g01033/impl.centsOfSteps", laid_loop_example_g01033_impl_centsOfSteps)] }
def FnExactWorstFifthSaid : Prop := fnExactWorstFifthRow.holds Tryd.pinned (OpenSpec.ofChange fnExactWorstFifthSpec)

/-- ITS FALSE NEIGHBOUR: 'it returns false'. Refute it at one input. -/
def fnExactWorstFifthWrong : ChangeSpec := { name := "fnExactWorstFifth", vars := ["loop.example/g01033/impl.centsOfSteps"], fn := fun _ => fun
  | [d, g1] => { results := [.lit (.bool false)], args := [d], vars := [g1] }
  | _ => none }
def FnExactWorstFifthWrongFalsely : Prop := fnExactWorstFifthRow.holds Tryd.pinned (OpenSpec.ofChange fnExactWorstFifthWrong)

/-- 'laws.FnExactTuningText': WHATEVER THE INPUT: true; the input reads as it did. -/
def fnExactTuningTextSpec : ChangeSpec := { name := "fnExactTuningText", fn := fun _ => fun
  | [d] => { results := [.lit (.bool true)], args := [d] }
  | _ => none }
def fnExactTuningTextRow : OpenClaim := { program := "ytbnhcacjlkmfeaadoor", sum := "df18e1f771bac5ed7454632faf736c091756d2a01f764e7b31f641d066282a43", func := "loop.example/g01033/laws.FnExactTuningText", spec := "fnExactTuningText", inPlace := ["internal/abi.NoEscape", "internal/bytealg.MakeNoZero"], unfollowed := true, recurses := true, named := ["internal/strconv.uint64pow10", "math/bits.deBruijn32tab", "math/bits.deBruijn64tab"], apart := false, laid := [("math/bits.deBruijn32tab", laid_math_bits_deBruijn32tab), ("math/bits.deBruijn64tab", laid_math_bits_deBruijn64tab), ("internal/strconv.uint64pow10", laid_internal_strconv_uint64pow10)] }
def FnExactTuningTextSaid : Prop := fnExactTuningTextRow.holds Tryd.pinned (OpenSpec.ofChange fnExactTuningTextSpec)

/-- ITS FALSE NEIGHBOUR: 'it returns false'. Refute it at one input. -/
def fnExactTuningTextWrong : ChangeSpec := { name := "fnExactTuningText", fn := fun _ => fun
  | [d] => { results := [.lit (.bool false)], args := [d] }
  | _ => none }
def FnExactTuningTextWrongFalsely : Prop := fnExactTuningTextRow.holds Tryd.pinned (OpenSpec.ofChange fnExactTuningTextWrong)

/-- 'laws.FnExactReadTuning': WHATEVER THE INPUT: true; the input reads as it did. -/
def fnExactReadTuningSpec : ChangeSpec := { name := "fnExactReadTuning", fn := fun _ => fun
  | [d] => { results := [.lit (.bool true)], args := [d] }
  | _ => none }
def fnExactReadTuningRow : OpenClaim := { program := "ytbnhcacjlkmfeaadoor", sum := "df18e1f771bac5ed7454632faf736c091756d2a01f764e7b31f641d066282a43", func := "loop.example/g01033/laws.FnExactReadTuning", spec := "fnExactReadTuning", inPlace := ["internal/bytealg.IndexByteString", "internal/bytealg.IndexString", "internal/bytealg.CountString"], named := ["internal/bytealg.MaxLen", "unicode/utf8.first", "unicode/utf8.acceptRanges", "strconv.ErrSyntax", "strconv.ErrRange", "internal/strconv.uint64pow10", "math/bits.deBruijn32tab", "math/bits.deBruijn64tab"], apart := false, laid := [("math/bits.deBruijn32tab", laid_math_bits_deBruijn32tab), ("math/bits.deBruijn64tab", laid_math_bits_deBruijn64tab), ("internal/strconv.uint64pow10", laid_internal_strconv_uint64pow10), ("unicode/utf8.acceptRanges", laid_unicode_utf8_acceptRanges), ("strconv.ErrRange", laid_strconv_ErrRange), ("strconv.ErrSyntax", laid_strconv_ErrSyntax), ("unicode/utf8.first", laid_unicode_utf8_first)] }
def FnExactReadTuningSaid : Prop := fnExactReadTuningRow.holds Tryd.pinned (OpenSpec.ofChange fnExactReadTuningSpec)

/-- ITS FALSE NEIGHBOUR: 'it returns false'. Refute it at one input. -/
def fnExactReadTuningWrong : ChangeSpec := { name := "fnExactReadTuning", fn := fun _ => fun
  | [d] => { results := [.lit (.bool false)], args := [d] }
  | _ => none }
def FnExactReadTuningWrongFalsely : Prop := fnExactReadTuningRow.holds Tryd.pinned (OpenSpec.ofChange fnExactReadTuningWrong)

/- THE SECOND FORM. 'bulk': how many values and letters a reading holds, each counted each time it is reached (what is shared counts as often as it is met; a slice's spare places count too). A statement '..UptoSaid' is the law's where the arguments, and the package variables that the reading takes, are together of bulk at most 1048576: NARROWER than '..Said'. Prove '..Said' where nothing that the law and all that it calls make is longer than what came in: it says more and counts as full. Else prove '..UptoSaid'. A law counts once. -/
mutual
def uptoBulk {H : Type} : DataW H → Nat
  | .lit (.string bytes) => bytes.length + 1
  | .lit _ => 1
  | .nil => 1
  | .ptr d => uptoBulk d + 1
  | .slice elems spare => uptoBulkAll elems + uptoBulkAll spare + 1
  | .agg parts => uptoBulkAll parts + 1
  | .iface _ d => uptoBulk d + 1
  | .map entries => uptoBulkEntries entries + 1
  | .held _ => 1
def uptoBulkAll {H : Type} : List (DataW H) → Nat
  | [] => 0
  | d :: r => uptoBulk d + uptoBulkAll r
def uptoBulkEntries {H : Type} : List (Lit × DataW H) → Nat
  | [] => 0
  | x :: r => uptoBulkEntry x + uptoBulkEntries r
def uptoBulkEntry {H : Type} : Lit × DataW H → Nat
  | (.string bytes, d) => bytes.length + uptoBulk d + 1
  | (_, d) => uptoBulk d + 1
 end
def uptoSmall : (H : Type) → List (DataW H) → Bool := fun _ ds => decide (uptoBulkAll ds ≤ 1048576)
def OpenSpec.upto (s : _root_.Go.ChangeSpec) : _root_.Go.OpenSpec := { _root_.Go.OpenSpec.ofChange s with cond := some uptoSmall }

/-- 'laws.FnExactPitchCents', WHERE WHAT IT READS IS OF BULK AT MOST 1048576: true; the input reads as it did. -/
def fnExactPitchCentsUptoRow : OpenClaim := { program := "ytbnhcacjlkmfeaadoor", sum := "df18e1f771bac5ed7454632faf736c091756d2a01f764e7b31f641d066282a43", func := "loop.example/g01033/laws.FnExactPitchCents", spec := "fnExactPitchCents", named := ["loop.example/g01033/impl.centsOfSteps"], apart := false, laid := [("loop.example/g01033/impl.centsOfSteps", laid_loop_example_g01033_impl_centsOfSteps)], narrowed := true }
def FnExactPitchCentsUptoSaid : Prop := fnExactPitchCentsUptoRow.holds Tryd.pinned (OpenSpec.upto fnExactPitchCentsSpec)

/-- 'laws.FnExactNearestTone', WHERE WHAT IT READS IS OF BULK AT MOST 1048576: true; the input reads as it did. -/
def fnExactNearestToneUptoRow : OpenClaim := { program := "ytbnhcacjlkmfeaadoor", sum := "df18e1f771bac5ed7454632faf736c091756d2a01f764e7b31f641d066282a43", func := "loop.example/g01033/laws.FnExactNearestTone", spec := "fnExactNearestTone", unfollowed := true, recurses := true, named := ["loop.example/g01033/impl.centsOfSteps"], apart := false, laid := [("loop.example/g01033/impl.centsOfSteps", laid_loop_example_g01033_impl_centsOfSteps)], narrowed := true }
def FnExactNearestToneUptoSaid : Prop := fnExactNearestToneUptoRow.holds Tryd.pinned (OpenSpec.upto fnExactNearestToneSpec)

/-- 'laws.FnExactEqualErrors', WHERE WHAT IT READS IS OF BULK AT MOST 1048576: true; the input reads as it did. -/
def fnExactEqualErrorsUptoRow : OpenClaim := { program := "ytbnhcacjlkmfeaadoor", sum := "df18e1f771bac5ed7454632faf736c091756d2a01f764e7b31f641d066282a43", func := "loop.example/g01033/laws.FnExactEqualErrors", spec := "fnExactEqualErrors", unfollowed := true, recurses := true, named := ["loop.example/g01033/impl.centsOfSteps"], apart := false, laid := [("loop.example/g01033/impl.centsOfSteps", laid_loop_example_g01033_impl_centsOfSteps)], narrowed := true }
def FnExactEqualErrorsUptoSaid : Prop := fnExactEqualErrorsUptoRow.holds Tryd.pinned (OpenSpec.upto fnExactEqualErrorsSpec)

/-- 'laws.FnExactWorstFifth', WHERE WHAT IT READS IS OF BULK AT MOST 1048576: true; the input reads as it did. -/
def fnExactWorstFifthUptoRow : OpenClaim := { program := "ytbnhcacjlkmfeaadoor", sum := "df18e1f771bac5ed7454632faf736c091756d2a01f764e7b31f641d066282a43", func := "loop.example/g01033/laws.FnExactWorstFifth", spec := "fnExactWorstFifth", named := ["loop.example/g01033/impl.centsOfSteps"], apart := false, laid := [("loop.example/g01033/impl.centsOfSteps", laid_loop_example_g01033_impl_centsOfSteps)], narrowed := true }
def FnExactWorstFifthUptoSaid : Prop := fnExactWorstFifthUptoRow.holds Tryd.pinned (OpenSpec.upto fnExactWorstFifthSpec)

/-- 'laws.FnExactTuningText', WHERE WHAT IT READS IS OF BULK AT MOST 1048576: true; the input reads as it did. -/
def fnExactTuningTextUptoRow : OpenClaim := { program := "ytbnhcacjlkmfeaadoor", sum := "df18e1f771bac5ed7454632faf736c091756d2a01f764e7b31f641d066282a43", func := "loop.example/g01033/laws.FnExactTuningText", spec := "fnExactTuningText", inPlace := ["internal/abi.NoEscape", "internal/bytealg.MakeNoZero"], unfollowed := true, recurses := true, named := ["internal/strconv.uint64pow10", "math/bits.deBruijn32tab", "math/bits.deBruijn64tab"], apart := false, laid := [("math/bits.deBruijn32tab", laid_math_bits_deBruijn32tab), ("math/bits.deBruijn64tab", laid_math_bits_deBruijn64tab), ("internal/strconv.uint64pow10", laid_internal_strconv_uint64pow10)], narrowed := true }
def FnExactTuningTextUptoSaid : Prop := fnExactTuningTextUptoRow.holds Tryd.pinned (OpenSpec.upto fnExactTuningTextSpec)

/-- 'laws.FnExactReadTuning', WHERE WHAT IT READS IS OF BULK AT MOST 1048576: true; the input reads as it did. -/
def fnExactReadTuningUptoRow : OpenClaim := { program := "ytbnhcacjlkmfeaadoor", sum := "df18e1f771bac5ed7454632faf736c091756d2a01f764e7b31f641d066282a43", func := "loop.example/g01033/laws.FnExactReadTuning", spec := "fnExactReadTuning", inPlace := ["internal/bytealg.IndexByteString", "internal/bytealg.IndexString", "internal/bytealg.CountString"], named := ["internal/bytealg.MaxLen", "unicode/utf8.first", "unicode/utf8.acceptRanges", "strconv.ErrSyntax", "strconv.ErrRange", "internal/strconv.uint64pow10", "math/bits.deBruijn32tab", "math/bits.deBruijn64tab"], apart := false, laid := [("math/bits.deBruijn32tab", laid_math_bits_deBruijn32tab), ("math/bits.deBruijn64tab", laid_math_bits_deBruijn64tab), ("internal/strconv.uint64pow10", laid_internal_strconv_uint64pow10), ("unicode/utf8.acceptRanges", laid_unicode_utf8_acceptRanges), ("strconv.ErrRange", laid_strconv_ErrRange), ("strconv.ErrSyntax", laid_strconv_ErrSyntax), ("unicode/utf8.first", laid_unicode_utf8_first)], narrowed := true }
def FnExactReadTuningUptoSaid : Prop := fnExactReadTuningUptoRow.holds Tryd.pinned (OpenSpec.upto fnExactReadTuningSpec)

end Rows
end Go.Proofs.YtbnhcacjlkmfeaaDoor
