/-
  NARROWER THAN 'FOR EVERY INPUT', by the rows' own cells (each row's printed sentence says how): FnExactTransposeMelody: ifaces, laid · FnExactMirrorMelody: ifaces, laid · FnExactStretchMelody: ifaces, laid · FnExactJoinMelodies: ifaces, laid · FnExactCutMelody: ifaces, laid · FnExactTieMelody: ifaces, laid · FnExactMelodyText: laid · FnExactReadMelody: laid.
  DERIVED. THE GIVEN ROWS OF THIS SEAT. 8 by the template 'for every input the law returns true; each argument reads behind the call as it read before'; 0 by the template 'total and deterministic' (their statements: YtendfnimhmnioaaDoorTotals.lean).
  GIVEN WITH THE SEED: the statements are not yours to turn. If you find one false, say at which input.
  Laid BY PROGRAM, IN A SANDBOX (cutbox-rows.mjs): the forced cells as the released guide's own fill.sh prints them over the translation 87fa2c26d85aaaa5… (all of the seat's roots in one cut). By AI agents, Wed Nov 11 2026. No macro, syntax, notation, axiom, sorry.
-/
import Derived.Test.YtendfnimhmnioaaDoorChecked
import GoSem.PinnedTables
import GoSem.Claim
import GoSem.ClaimJoined
import GoSem.ClaimMapViews
import Derived.JoinedTies
import Derived.KernelRfl
namespace Go.Proofs.YtendfnimhmnioaaDoor
/- THE CELL 'sum', in the pinned program and in every row, IS THE sha256 OF THE DUMP (.gsa) THAT YtendfnimhmnioaaDoorProg.lean LOADS. Nothing in Lean hashes anything: it is a label: what it is worth is what the hold of that sum in a sandbox is worth. -/
noncomputable def Tryd.pinned : Pinned := { name := "ytendfnimhmnioaadoor", sum := "87fa2c26d85aaaa5d1d6a0e58237fad4a7dc63b48c3b3c6bf1055b011bf6dfe5", checked := Tryd.checked }
namespace Rows
def none {H : Type} : Left H := { results := [], args := [] }

/- WHAT THE LISTED PACKAGE-LEVEL VARIABLES READ AS WHEN THE CALL BEGINS. Each datum BY PROGRAM (the guide's laid-datum.mjs) off the statement by which the dump's own 'gosem.cut.vars' lays the variable. In a bare row this is a premise. The card (YtendfnimhmnioaaDoorCards.lean) ties it to the program's text. -/
def laid_loop_example_g01033_impl_errNoNote {H : Type} : DataW H := .iface "*errors.errorString" (.ptr (.agg [.lit (.string [116, 104, 101, 32, 112, 105, 116, 99, 104, 32, 111, 102, 32, 97, 32, 110, 111, 116, 101, 32, 105, 115, 32, 110, 111, 32, 112, 105, 116, 99, 104, 44, 32, 111, 114, 32, 105, 116, 115, 32, 108, 101, 110, 103, 116, 104, 32, 110, 111, 32, 108, 101, 110, 103, 116, 104])]))
def laid_loop_example_g01033_impl_errManyNotes {H : Type} : DataW H := .iface "*errors.errorString" (.ptr (.agg [.lit (.string [116, 104, 101, 114, 101, 32, 97, 114, 101, 32, 109, 111, 114, 101, 32, 110, 111, 116, 101, 115, 32, 116, 104, 97, 110, 32, 97, 32, 109, 101, 108, 111, 100, 121, 32, 104, 97, 115])]))
def laid_math_bits_deBruijn32tab {H : Type} : DataW H := .agg [.lit (.int .u8 0), .lit (.int .u8 1), .lit (.int .u8 28), .lit (.int .u8 2), .lit (.int .u8 29), .lit (.int .u8 14), .lit (.int .u8 24), .lit (.int .u8 3), .lit (.int .u8 30), .lit (.int .u8 22), .lit (.int .u8 20), .lit (.int .u8 15), .lit (.int .u8 25), .lit (.int .u8 17), .lit (.int .u8 4), .lit (.int .u8 8), .lit (.int .u8 31), .lit (.int .u8 27), .lit (.int .u8 13), .lit (.int .u8 23), .lit (.int .u8 21), .lit (.int .u8 19), .lit (.int .u8 16), .lit (.int .u8 7), .lit (.int .u8 26), .lit (.int .u8 12), .lit (.int .u8 18), .lit (.int .u8 6), .lit (.int .u8 11), .lit (.int .u8 5), .lit (.int .u8 10), .lit (.int .u8 9)]
def laid_math_bits_deBruijn64tab {H : Type} : DataW H := .agg [.lit (.int .u8 0), .lit (.int .u8 1), .lit (.int .u8 56), .lit (.int .u8 2), .lit (.int .u8 57), .lit (.int .u8 49), .lit (.int .u8 28), .lit (.int .u8 3), .lit (.int .u8 61), .lit (.int .u8 58), .lit (.int .u8 42), .lit (.int .u8 50), .lit (.int .u8 38), .lit (.int .u8 29), .lit (.int .u8 17), .lit (.int .u8 4), .lit (.int .u8 62), .lit (.int .u8 47), .lit (.int .u8 59), .lit (.int .u8 36), .lit (.int .u8 45), .lit (.int .u8 43), .lit (.int .u8 51), .lit (.int .u8 22), .lit (.int .u8 53), .lit (.int .u8 39), .lit (.int .u8 33), .lit (.int .u8 30), .lit (.int .u8 24), .lit (.int .u8 18), .lit (.int .u8 12), .lit (.int .u8 5), .lit (.int .u8 63), .lit (.int .u8 55), .lit (.int .u8 48), .lit (.int .u8 27), .lit (.int .u8 60), .lit (.int .u8 41), .lit (.int .u8 37), .lit (.int .u8 16), .lit (.int .u8 46), .lit (.int .u8 35), .lit (.int .u8 44), .lit (.int .u8 21), .lit (.int .u8 52), .lit (.int .u8 32), .lit (.int .u8 23), .lit (.int .u8 11), .lit (.int .u8 54), .lit (.int .u8 26), .lit (.int .u8 40), .lit (.int .u8 15), .lit (.int .u8 34), .lit (.int .u8 20), .lit (.int .u8 31), .lit (.int .u8 10), .lit (.int .u8 25), .lit (.int .u8 14), .lit (.int .u8 19), .lit (.int .u8 9), .lit (.int .u8 13), .lit (.int .u8 8), .lit (.int .u8 7), .lit (.int .u8 6)]
def laid_internal_strconv_uint64pow10 {H : Type} : DataW H := .agg [.lit (.int .u64 1), .lit (.int .u64 10), .lit (.int .u64 100), .lit (.int .u64 1000), .lit (.int .u64 10000), .lit (.int .u64 100000), .lit (.int .u64 1000000), .lit (.int .u64 10000000), .lit (.int .u64 100000000), .lit (.int .u64 1000000000), .lit (.int .u64 10000000000), .lit (.int .u64 100000000000), .lit (.int .u64 1000000000000), .lit (.int .u64 10000000000000), .lit (.int .u64 100000000000000), .lit (.int .u64 1000000000000000), .lit (.int .u64 10000000000000000), .lit (.int .u64 100000000000000000), .lit (.int .u64 1000000000000000000), .lit (.int .u64 10000000000000000000)]
def laid_unicode_utf8_acceptRanges {H : Type} : DataW H := .agg [.agg [.lit (.int .u8 128), .lit (.int .u8 191)], .agg [.lit (.int .u8 160), .lit (.int .u8 191)], .agg [.lit (.int .u8 128), .lit (.int .u8 159)], .agg [.lit (.int .u8 144), .lit (.int .u8 191)], .agg [.lit (.int .u8 128), .lit (.int .u8 143)], .agg [.lit (.int .u8 0), .lit (.int .u8 0)], .agg [.lit (.int .u8 0), .lit (.int .u8 0)], .agg [.lit (.int .u8 0), .lit (.int .u8 0)], .agg [.lit (.int .u8 0), .lit (.int .u8 0)], .agg [.lit (.int .u8 0), .lit (.int .u8 0)], .agg [.lit (.int .u8 0), .lit (.int .u8 0)], .agg [.lit (.int .u8 0), .lit (.int .u8 0)], .agg [.lit (.int .u8 0), .lit (.int .u8 0)], .agg [.lit (.int .u8 0), .lit (.int .u8 0)], .agg [.lit (.int .u8 0), .lit (.int .u8 0)], .agg [.lit (.int .u8 0), .lit (.int .u8 0)]]
def laid_strconv_ErrRange {H : Type} : DataW H := .iface "*errors.errorString" (.ptr (.agg [.lit (.string [118, 97, 108, 117, 101, 32, 111, 117, 116, 32, 111, 102, 32, 114, 97, 110, 103, 101])]))
def laid_strconv_ErrSyntax {H : Type} : DataW H := .iface "*errors.errorString" (.ptr (.agg [.lit (.string [105, 110, 118, 97, 108, 105, 100, 32, 115, 121, 110, 116, 97, 120])]))
/-- One of Go's own tables, pinned by name: the form's constant. -/
def laid_unicode_utf8_first : DataW Unit := Go.Pinned.utf8First

/-- 'laws.FnExactTransposeMelody': WHATEVER THE INPUT: true; the input reads as it did. -/
def fnExactTransposeMelodySpec : ChangeSpec := { name := "fnExactTransposeMelody", vars := ["loop.example/g01033/impl.errNoNote", "loop.example/g01033/impl.errManyNotes"], fn := fun _ => fun
  | [d1, d2, g1, g2] => { results := [.lit (.bool true)], args := [d1, d2], vars := [g1, g2] }
  | _ => none }
def fnExactTransposeMelodyRow : OpenClaim := { program := "ytendfnimhmnioaadoor", sum := "87fa2c26d85aaaa5d1d6a0e58237fad4a7dc63b48c3b3c6bf1055b011bf6dfe5", func := "loop.example/g01033/laws.FnExactTransposeMelody", spec := "fnExactTransposeMelody", inPlace := ["internal/reflectlite.TypeOf"], unfollowed := true, recurses := true, named := ["loop.example/g01033/impl.errNoNote", "loop.example/g01033/impl.errManyNotes"], ifaces := true, apart := false, laid := [("loop.example/g01033/impl.errNoNote", laid_loop_example_g01033_impl_errNoNote), ("loop.example/g01033/impl.errManyNotes", laid_loop_example_g01033_impl_errManyNotes)] }
def FnExactTransposeMelodySaid : Prop := fnExactTransposeMelodyRow.holds Tryd.pinned (OpenSpec.ofChange fnExactTransposeMelodySpec)

/-- ITS FALSE NEIGHBOUR: 'it returns false'. Refute it at one input. -/
def fnExactTransposeMelodyWrong : ChangeSpec := { name := "fnExactTransposeMelody", vars := ["loop.example/g01033/impl.errNoNote", "loop.example/g01033/impl.errManyNotes"], fn := fun _ => fun
  | [d1, d2, g1, g2] => { results := [.lit (.bool false)], args := [d1, d2], vars := [g1, g2] }
  | _ => none }
def FnExactTransposeMelodyWrongFalsely : Prop := fnExactTransposeMelodyRow.holds Tryd.pinned (OpenSpec.ofChange fnExactTransposeMelodyWrong)

/-- 'laws.FnExactMirrorMelody': WHATEVER THE INPUT: true; the input reads as it did. -/
def fnExactMirrorMelodySpec : ChangeSpec := { name := "fnExactMirrorMelody", vars := ["loop.example/g01033/impl.errNoNote", "loop.example/g01033/impl.errManyNotes"], fn := fun _ => fun
  | [d1, d2, g1, g2] => { results := [.lit (.bool true)], args := [d1, d2], vars := [g1, g2] }
  | _ => none }
def fnExactMirrorMelodyRow : OpenClaim := { program := "ytendfnimhmnioaadoor", sum := "87fa2c26d85aaaa5d1d6a0e58237fad4a7dc63b48c3b3c6bf1055b011bf6dfe5", func := "loop.example/g01033/laws.FnExactMirrorMelody", spec := "fnExactMirrorMelody", inPlace := ["internal/reflectlite.TypeOf"], unfollowed := true, recurses := true, named := ["loop.example/g01033/impl.errNoNote", "loop.example/g01033/impl.errManyNotes"], ifaces := true, apart := false, laid := [("loop.example/g01033/impl.errNoNote", laid_loop_example_g01033_impl_errNoNote), ("loop.example/g01033/impl.errManyNotes", laid_loop_example_g01033_impl_errManyNotes)] }
def FnExactMirrorMelodySaid : Prop := fnExactMirrorMelodyRow.holds Tryd.pinned (OpenSpec.ofChange fnExactMirrorMelodySpec)

/-- ITS FALSE NEIGHBOUR: 'it returns false'. Refute it at one input. -/
def fnExactMirrorMelodyWrong : ChangeSpec := { name := "fnExactMirrorMelody", vars := ["loop.example/g01033/impl.errNoNote", "loop.example/g01033/impl.errManyNotes"], fn := fun _ => fun
  | [d1, d2, g1, g2] => { results := [.lit (.bool false)], args := [d1, d2], vars := [g1, g2] }
  | _ => none }
def FnExactMirrorMelodyWrongFalsely : Prop := fnExactMirrorMelodyRow.holds Tryd.pinned (OpenSpec.ofChange fnExactMirrorMelodyWrong)

/-- 'laws.FnExactStretchMelody': WHATEVER THE INPUT: true; the input reads as it did. -/
def fnExactStretchMelodySpec : ChangeSpec := { name := "fnExactStretchMelody", vars := ["loop.example/g01033/impl.errNoNote", "loop.example/g01033/impl.errManyNotes"], fn := fun _ => fun
  | [d1, d2, d3, g1, g2] => { results := [.lit (.bool true)], args := [d1, d2, d3], vars := [g1, g2] }
  | _ => none }
def fnExactStretchMelodyRow : OpenClaim := { program := "ytendfnimhmnioaadoor", sum := "87fa2c26d85aaaa5d1d6a0e58237fad4a7dc63b48c3b3c6bf1055b011bf6dfe5", func := "loop.example/g01033/laws.FnExactStretchMelody", spec := "fnExactStretchMelody", inPlace := ["internal/reflectlite.TypeOf"], unfollowed := true, recurses := true, named := ["loop.example/g01033/impl.errNoNote", "loop.example/g01033/impl.errManyNotes"], ifaces := true, apart := false, laid := [("loop.example/g01033/impl.errNoNote", laid_loop_example_g01033_impl_errNoNote), ("loop.example/g01033/impl.errManyNotes", laid_loop_example_g01033_impl_errManyNotes)] }
def FnExactStretchMelodySaid : Prop := fnExactStretchMelodyRow.holds Tryd.pinned (OpenSpec.ofChange fnExactStretchMelodySpec)

/-- ITS FALSE NEIGHBOUR: 'it returns false'. Refute it at one input. -/
def fnExactStretchMelodyWrong : ChangeSpec := { name := "fnExactStretchMelody", vars := ["loop.example/g01033/impl.errNoNote", "loop.example/g01033/impl.errManyNotes"], fn := fun _ => fun
  | [d1, d2, d3, g1, g2] => { results := [.lit (.bool false)], args := [d1, d2, d3], vars := [g1, g2] }
  | _ => none }
def FnExactStretchMelodyWrongFalsely : Prop := fnExactStretchMelodyRow.holds Tryd.pinned (OpenSpec.ofChange fnExactStretchMelodyWrong)

/-- 'laws.FnExactJoinMelodies': WHATEVER THE INPUT: true; the input reads as it did. -/
def fnExactJoinMelodiesSpec : ChangeSpec := { name := "fnExactJoinMelodies", vars := ["loop.example/g01033/impl.errNoNote", "loop.example/g01033/impl.errManyNotes"], fn := fun _ => fun
  | [d1, d2, g1, g2] => { results := [.lit (.bool true)], args := [d1, d2], vars := [g1, g2] }
  | _ => none }
def fnExactJoinMelodiesRow : OpenClaim := { program := "ytendfnimhmnioaadoor", sum := "87fa2c26d85aaaa5d1d6a0e58237fad4a7dc63b48c3b3c6bf1055b011bf6dfe5", func := "loop.example/g01033/laws.FnExactJoinMelodies", spec := "fnExactJoinMelodies", inPlace := ["internal/reflectlite.TypeOf"], unfollowed := true, recurses := true, named := ["loop.example/g01033/impl.errNoNote", "loop.example/g01033/impl.errManyNotes"], ifaces := true, apart := false, laid := [("loop.example/g01033/impl.errNoNote", laid_loop_example_g01033_impl_errNoNote), ("loop.example/g01033/impl.errManyNotes", laid_loop_example_g01033_impl_errManyNotes)] }
def FnExactJoinMelodiesSaid : Prop := fnExactJoinMelodiesRow.holds Tryd.pinned (OpenSpec.ofChange fnExactJoinMelodiesSpec)

/-- ITS FALSE NEIGHBOUR: 'it returns false'. Refute it at one input. -/
def fnExactJoinMelodiesWrong : ChangeSpec := { name := "fnExactJoinMelodies", vars := ["loop.example/g01033/impl.errNoNote", "loop.example/g01033/impl.errManyNotes"], fn := fun _ => fun
  | [d1, d2, g1, g2] => { results := [.lit (.bool false)], args := [d1, d2], vars := [g1, g2] }
  | _ => none }
def FnExactJoinMelodiesWrongFalsely : Prop := fnExactJoinMelodiesRow.holds Tryd.pinned (OpenSpec.ofChange fnExactJoinMelodiesWrong)

/-- 'laws.FnExactCutMelody': WHATEVER THE INPUT: true; the input reads as it did. -/
def fnExactCutMelodySpec : ChangeSpec := { name := "fnExactCutMelody", vars := ["loop.example/g01033/impl.errNoNote", "loop.example/g01033/impl.errManyNotes"], fn := fun _ => fun
  | [d1, d2, d3, g1, g2] => { results := [.lit (.bool true)], args := [d1, d2, d3], vars := [g1, g2] }
  | _ => none }
def fnExactCutMelodyRow : OpenClaim := { program := "ytendfnimhmnioaadoor", sum := "87fa2c26d85aaaa5d1d6a0e58237fad4a7dc63b48c3b3c6bf1055b011bf6dfe5", func := "loop.example/g01033/laws.FnExactCutMelody", spec := "fnExactCutMelody", inPlace := ["internal/reflectlite.TypeOf"], unfollowed := true, recurses := true, named := ["loop.example/g01033/impl.errNoNote", "loop.example/g01033/impl.errManyNotes"], ifaces := true, apart := false, laid := [("loop.example/g01033/impl.errNoNote", laid_loop_example_g01033_impl_errNoNote), ("loop.example/g01033/impl.errManyNotes", laid_loop_example_g01033_impl_errManyNotes)] }
def FnExactCutMelodySaid : Prop := fnExactCutMelodyRow.holds Tryd.pinned (OpenSpec.ofChange fnExactCutMelodySpec)

/-- ITS FALSE NEIGHBOUR: 'it returns false'. Refute it at one input. -/
def fnExactCutMelodyWrong : ChangeSpec := { name := "fnExactCutMelody", vars := ["loop.example/g01033/impl.errNoNote", "loop.example/g01033/impl.errManyNotes"], fn := fun _ => fun
  | [d1, d2, d3, g1, g2] => { results := [.lit (.bool false)], args := [d1, d2, d3], vars := [g1, g2] }
  | _ => none }
def FnExactCutMelodyWrongFalsely : Prop := fnExactCutMelodyRow.holds Tryd.pinned (OpenSpec.ofChange fnExactCutMelodyWrong)

/-- 'laws.FnExactTieMelody': WHATEVER THE INPUT: true; the input reads as it did. -/
def fnExactTieMelodySpec : ChangeSpec := { name := "fnExactTieMelody", vars := ["loop.example/g01033/impl.errNoNote", "loop.example/g01033/impl.errManyNotes"], fn := fun _ => fun
  | [d, g1, g2] => { results := [.lit (.bool true)], args := [d], vars := [g1, g2] }
  | _ => none }
def fnExactTieMelodyRow : OpenClaim := { program := "ytendfnimhmnioaadoor", sum := "87fa2c26d85aaaa5d1d6a0e58237fad4a7dc63b48c3b3c6bf1055b011bf6dfe5", func := "loop.example/g01033/laws.FnExactTieMelody", spec := "fnExactTieMelody", inPlace := ["internal/reflectlite.TypeOf"], unfollowed := true, recurses := true, named := ["loop.example/g01033/impl.errNoNote", "loop.example/g01033/impl.errManyNotes"], ifaces := true, apart := false, laid := [("loop.example/g01033/impl.errNoNote", laid_loop_example_g01033_impl_errNoNote), ("loop.example/g01033/impl.errManyNotes", laid_loop_example_g01033_impl_errManyNotes)] }
def FnExactTieMelodySaid : Prop := fnExactTieMelodyRow.holds Tryd.pinned (OpenSpec.ofChange fnExactTieMelodySpec)

/-- ITS FALSE NEIGHBOUR: 'it returns false'. Refute it at one input. -/
def fnExactTieMelodyWrong : ChangeSpec := { name := "fnExactTieMelody", vars := ["loop.example/g01033/impl.errNoNote", "loop.example/g01033/impl.errManyNotes"], fn := fun _ => fun
  | [d, g1, g2] => { results := [.lit (.bool false)], args := [d], vars := [g1, g2] }
  | _ => none }
def FnExactTieMelodyWrongFalsely : Prop := fnExactTieMelodyRow.holds Tryd.pinned (OpenSpec.ofChange fnExactTieMelodyWrong)

/-- 'laws.FnExactMelodyText': WHATEVER THE INPUT: true; the input reads as it did. -/
def fnExactMelodyTextSpec : ChangeSpec := { name := "fnExactMelodyText", fn := fun _ => fun
  | [d] => { results := [.lit (.bool true)], args := [d] }
  | _ => none }
def fnExactMelodyTextRow : OpenClaim := { program := "ytendfnimhmnioaadoor", sum := "87fa2c26d85aaaa5d1d6a0e58237fad4a7dc63b48c3b3c6bf1055b011bf6dfe5", func := "loop.example/g01033/laws.FnExactMelodyText", spec := "fnExactMelodyText", inPlace := ["internal/abi.NoEscape", "internal/bytealg.MakeNoZero"], named := ["internal/strconv.uint64pow10", "math/bits.deBruijn32tab", "math/bits.deBruijn64tab"], apart := false, laid := [("math/bits.deBruijn32tab", laid_math_bits_deBruijn32tab), ("math/bits.deBruijn64tab", laid_math_bits_deBruijn64tab), ("internal/strconv.uint64pow10", laid_internal_strconv_uint64pow10)] }
def FnExactMelodyTextSaid : Prop := fnExactMelodyTextRow.holds Tryd.pinned (OpenSpec.ofChange fnExactMelodyTextSpec)

/-- ITS FALSE NEIGHBOUR: 'it returns false'. Refute it at one input. -/
def fnExactMelodyTextWrong : ChangeSpec := { name := "fnExactMelodyText", fn := fun _ => fun
  | [d] => { results := [.lit (.bool false)], args := [d] }
  | _ => none }
def FnExactMelodyTextWrongFalsely : Prop := fnExactMelodyTextRow.holds Tryd.pinned (OpenSpec.ofChange fnExactMelodyTextWrong)

/-- 'laws.FnExactReadMelody': WHATEVER THE INPUT: true; the input reads as it did. -/
def fnExactReadMelodySpec : ChangeSpec := { name := "fnExactReadMelody", fn := fun _ => fun
  | [d] => { results := [.lit (.bool true)], args := [d] }
  | _ => none }
def fnExactReadMelodyRow : OpenClaim := { program := "ytendfnimhmnioaadoor", sum := "87fa2c26d85aaaa5d1d6a0e58237fad4a7dc63b48c3b3c6bf1055b011bf6dfe5", func := "loop.example/g01033/laws.FnExactReadMelody", spec := "fnExactReadMelody", inPlace := ["internal/bytealg.CountString", "internal/bytealg.IndexByteString", "internal/bytealg.IndexString"], named := ["unicode/utf8.first", "unicode/utf8.acceptRanges", "internal/bytealg.MaxLen", "strconv.ErrSyntax", "strconv.ErrRange", "internal/strconv.uint64pow10", "math/bits.deBruijn32tab", "math/bits.deBruijn64tab"], apart := false, laid := [("math/bits.deBruijn32tab", laid_math_bits_deBruijn32tab), ("math/bits.deBruijn64tab", laid_math_bits_deBruijn64tab), ("internal/strconv.uint64pow10", laid_internal_strconv_uint64pow10), ("unicode/utf8.acceptRanges", laid_unicode_utf8_acceptRanges), ("strconv.ErrRange", laid_strconv_ErrRange), ("strconv.ErrSyntax", laid_strconv_ErrSyntax), ("unicode/utf8.first", laid_unicode_utf8_first)] }
def FnExactReadMelodySaid : Prop := fnExactReadMelodyRow.holds Tryd.pinned (OpenSpec.ofChange fnExactReadMelodySpec)

/-- ITS FALSE NEIGHBOUR: 'it returns false'. Refute it at one input. -/
def fnExactReadMelodyWrong : ChangeSpec := { name := "fnExactReadMelody", fn := fun _ => fun
  | [d] => { results := [.lit (.bool false)], args := [d] }
  | _ => none }
def FnExactReadMelodyWrongFalsely : Prop := fnExactReadMelodyRow.holds Tryd.pinned (OpenSpec.ofChange fnExactReadMelodyWrong)

/- THE SECOND FORM. 'bulk': how many values and letters a reading holds, each counted each time it is reached (what is shared counts as often as it is met; a slice's spare places count too). A statement '..UptoSaid' is the law's where the arguments, and the package variables that the reading takes, are together of bulk at most 1048576: NARROWER than '..Said'. Prove '..Said' where nothing that the law and all that it calls make is longer than what came in: it says more and counts as full. Else prove '..UptoSaid'. A law counts once. -/
mutual
def uptoBulk {H : Type} : DataW H → Nat
  | .lit (.string bytes) => bytes.length + 1
  | .lit _ => 1
  | .nil => 1
  | .ptr d => uptoBulk d + 1
  | .slice elems spare => uptoBulkAll elems + uptoBulkAll spare + 1
  | .agg parts => uptoBulkAll parts + 1
  | .iface _ d => uptoBulk d + 1
  | .map entries => uptoBulkEntries entries + 1
  | .held _ => 1
def uptoBulkAll {H : Type} : List (DataW H) → Nat
  | [] => 0
  | d :: r => uptoBulk d + uptoBulkAll r
def uptoBulkEntries {H : Type} : List (Lit × DataW H) → Nat
  | [] => 0
  | x :: r => uptoBulkEntry x + uptoBulkEntries r
def uptoBulkEntry {H : Type} : Lit × DataW H → Nat
  | (.string bytes, d) => bytes.length + uptoBulk d + 1
  | (_, d) => uptoBulk d + 1
 end
def uptoSmall : (H : Type) → List (DataW H) → Bool := fun _ ds => decide (uptoBulkAll ds ≤ 1048576)
def OpenSpec.upto (s : _root_.Go.ChangeSpec) : _root_.Go.OpenSpec := { _root_.Go.OpenSpec.ofChange s with cond := some uptoSmall }

/-- 'laws.FnExactTransposeMelody', WHERE WHAT IT READS IS OF BULK AT MOST 1048576: true; the input reads as it did. -/
def fnExactTransposeMelodyUptoRow : OpenClaim := { program := "ytendfnimhmnioaadoor", sum := "87fa2c26d85aaaa5d1d6a0e58237fad4a7dc63b48c3b3c6bf1055b011bf6dfe5", func := "loop.example/g01033/laws.FnExactTransposeMelody", spec := "fnExactTransposeMelody", inPlace := ["internal/reflectlite.TypeOf"], unfollowed := true, recurses := true, named := ["loop.example/g01033/impl.errNoNote", "loop.example/g01033/impl.errManyNotes"], ifaces := true, apart := false, laid := [("loop.example/g01033/impl.errNoNote", laid_loop_example_g01033_impl_errNoNote), ("loop.example/g01033/impl.errManyNotes", laid_loop_example_g01033_impl_errManyNotes)], narrowed := true }
def FnExactTransposeMelodyUptoSaid : Prop := fnExactTransposeMelodyUptoRow.holds Tryd.pinned (OpenSpec.upto fnExactTransposeMelodySpec)

/-- 'laws.FnExactMirrorMelody', WHERE WHAT IT READS IS OF BULK AT MOST 1048576: true; the input reads as it did. -/
def fnExactMirrorMelodyUptoRow : OpenClaim := { program := "ytendfnimhmnioaadoor", sum := "87fa2c26d85aaaa5d1d6a0e58237fad4a7dc63b48c3b3c6bf1055b011bf6dfe5", func := "loop.example/g01033/laws.FnExactMirrorMelody", spec := "fnExactMirrorMelody", inPlace := ["internal/reflectlite.TypeOf"], unfollowed := true, recurses := true, named := ["loop.example/g01033/impl.errNoNote", "loop.example/g01033/impl.errManyNotes"], ifaces := true, apart := false, laid := [("loop.example/g01033/impl.errNoNote", laid_loop_example_g01033_impl_errNoNote), ("loop.example/g01033/impl.errManyNotes", laid_loop_example_g01033_impl_errManyNotes)], narrowed := true }
def FnExactMirrorMelodyUptoSaid : Prop := fnExactMirrorMelodyUptoRow.holds Tryd.pinned (OpenSpec.upto fnExactMirrorMelodySpec)

/-- 'laws.FnExactStretchMelody', WHERE WHAT IT READS IS OF BULK AT MOST 1048576: true; the input reads as it did. -/
def fnExactStretchMelodyUptoRow : OpenClaim := { program := "ytendfnimhmnioaadoor", sum := "87fa2c26d85aaaa5d1d6a0e58237fad4a7dc63b48c3b3c6bf1055b011bf6dfe5", func := "loop.example/g01033/laws.FnExactStretchMelody", spec := "fnExactStretchMelody", inPlace := ["internal/reflectlite.TypeOf"], unfollowed := true, recurses := true, named := ["loop.example/g01033/impl.errNoNote", "loop.example/g01033/impl.errManyNotes"], ifaces := true, apart := false, laid := [("loop.example/g01033/impl.errNoNote", laid_loop_example_g01033_impl_errNoNote), ("loop.example/g01033/impl.errManyNotes", laid_loop_example_g01033_impl_errManyNotes)], narrowed := true }
def FnExactStretchMelodyUptoSaid : Prop := fnExactStretchMelodyUptoRow.holds Tryd.pinned (OpenSpec.upto fnExactStretchMelodySpec)

/-- 'laws.FnExactJoinMelodies', WHERE WHAT IT READS IS OF BULK AT MOST 1048576: true; the input reads as it did. -/
def fnExactJoinMelodiesUptoRow : OpenClaim := { program := "ytendfnimhmnioaadoor", sum := "87fa2c26d85aaaa5d1d6a0e58237fad4a7dc63b48c3b3c6bf1055b011bf6dfe5", func := "loop.example/g01033/laws.FnExactJoinMelodies", spec := "fnExactJoinMelodies", inPlace := ["internal/reflectlite.TypeOf"], unfollowed := true, recurses := true, named := ["loop.example/g01033/impl.errNoNote", "loop.example/g01033/impl.errManyNotes"], ifaces := true, apart := false, laid := [("loop.example/g01033/impl.errNoNote", laid_loop_example_g01033_impl_errNoNote), ("loop.example/g01033/impl.errManyNotes", laid_loop_example_g01033_impl_errManyNotes)], narrowed := true }
def FnExactJoinMelodiesUptoSaid : Prop := fnExactJoinMelodiesUptoRow.holds Tryd.pinned (OpenSpec.upto fnExactJoinMelodiesSpec)

/-- 'laws.FnExactCutMelody', WHERE WHAT IT READS IS OF BULK AT MOST 1048576: true; the input reads as it did. -/
def fnExactCutMelodyUptoRow : OpenClaim := { program := "ytendfnimhmnioaadoor", sum := "87fa2c26d85aaaa5d1d6a0e58237fad4a7dc63b48c3b3c6bf1055b011bf6dfe5", func := "loop.example/g01033/laws.FnExactCutMelody", spec := "fnExactCutMelody", inPlace := ["internal/reflectlite.TypeOf"], unfollowed := true, recurses := true, named := ["loop.example/g01033/impl.errNoNote", "loop.example/g01033/impl.errManyNotes"], ifaces := true, apart := false, laid := [("loop.example/g01033/impl.errNoNote", laid_loop_example_g01033_impl_errNoNote), ("loop.example/g01033/impl.errManyNotes", laid_loop_example_g01033_impl_errManyNotes)], narrowed := true }
def FnExactCutMelodyUptoSaid : Prop := fnExactCutMelodyUptoRow.holds Tryd.pinned (OpenSpec.upto fnExactCutMelodySpec)

/-- 'laws.FnExactTieMelody', WHERE WHAT IT READS IS OF BULK AT MOST 1048576: true; the input reads as it did. -/
def fnExactTieMelodyUptoRow : OpenClaim := { program := "ytendfnimhmnioaadoor", sum := "87fa2c26d85aaaa5d1d6a0e58237fad4a7dc63b48c3b3c6bf1055b011bf6dfe5", func := "loop.example/g01033/laws.FnExactTieMelody", spec := "fnExactTieMelody", inPlace := ["internal/reflectlite.TypeOf"], unfollowed := true, recurses := true, named := ["loop.example/g01033/impl.errNoNote", "loop.example/g01033/impl.errManyNotes"], ifaces := true, apart := false, laid := [("loop.example/g01033/impl.errNoNote", laid_loop_example_g01033_impl_errNoNote), ("loop.example/g01033/impl.errManyNotes", laid_loop_example_g01033_impl_errManyNotes)], narrowed := true }
def FnExactTieMelodyUptoSaid : Prop := fnExactTieMelodyUptoRow.holds Tryd.pinned (OpenSpec.upto fnExactTieMelodySpec)

/-- 'laws.FnExactMelodyText', WHERE WHAT IT READS IS OF BULK AT MOST 1048576: true; the input reads as it did. -/
def fnExactMelodyTextUptoRow : OpenClaim := { program := "ytendfnimhmnioaadoor", sum := "87fa2c26d85aaaa5d1d6a0e58237fad4a7dc63b48c3b3c6bf1055b011bf6dfe5", func := "loop.example/g01033/laws.FnExactMelodyText", spec := "fnExactMelodyText", inPlace := ["internal/abi.NoEscape", "internal/bytealg.MakeNoZero"], named := ["internal/strconv.uint64pow10", "math/bits.deBruijn32tab", "math/bits.deBruijn64tab"], apart := false, laid := [("math/bits.deBruijn32tab", laid_math_bits_deBruijn32tab), ("math/bits.deBruijn64tab", laid_math_bits_deBruijn64tab), ("internal/strconv.uint64pow10", laid_internal_strconv_uint64pow10)], narrowed := true }
def FnExactMelodyTextUptoSaid : Prop := fnExactMelodyTextUptoRow.holds Tryd.pinned (OpenSpec.upto fnExactMelodyTextSpec)

/-- 'laws.FnExactReadMelody', WHERE WHAT IT READS IS OF BULK AT MOST 1048576: true; the input reads as it did. -/
def fnExactReadMelodyUptoRow : OpenClaim := { program := "ytendfnimhmnioaadoor", sum := "87fa2c26d85aaaa5d1d6a0e58237fad4a7dc63b48c3b3c6bf1055b011bf6dfe5", func := "loop.example/g01033/laws.FnExactReadMelody", spec := "fnExactReadMelody", inPlace := ["internal/bytealg.CountString", "internal/bytealg.IndexByteString", "internal/bytealg.IndexString"], named := ["unicode/utf8.first", "unicode/utf8.acceptRanges", "internal/bytealg.MaxLen", "strconv.ErrSyntax", "strconv.ErrRange", "internal/strconv.uint64pow10", "math/bits.deBruijn32tab", "math/bits.deBruijn64tab"], apart := false, laid := [("math/bits.deBruijn32tab", laid_math_bits_deBruijn32tab), ("math/bits.deBruijn64tab", laid_math_bits_deBruijn64tab), ("internal/strconv.uint64pow10", laid_internal_strconv_uint64pow10), ("unicode/utf8.acceptRanges", laid_unicode_utf8_acceptRanges), ("strconv.ErrRange", laid_strconv_ErrRange), ("strconv.ErrSyntax", laid_strconv_ErrSyntax), ("unicode/utf8.first", laid_unicode_utf8_first)], narrowed := true }
def FnExactReadMelodyUptoSaid : Prop := fnExactReadMelodyUptoRow.holds Tryd.pinned (OpenSpec.upto fnExactReadMelodySpec)

end Rows
end Go.Proofs.YtendfnimhmnioaaDoor
