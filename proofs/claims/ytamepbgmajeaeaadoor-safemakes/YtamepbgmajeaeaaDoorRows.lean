/-
  NARROWER THAN 'FOR EVERY INPUT', by the rows' own cells (each row's printed sentence says how): CodeChecks: laid · CodeShows: laid · CodeReads: laid · CodesBack: laid · CodesBad: laid · CpuRuns: laid · RunsCount: laid · RunsReckon: laid · RunsCall: laid · SafeVerifies: laid · SafeMakes: laid.
  DERIVED. THE GIVEN ROWS OF THIS SEAT. 11 by the template 'for every input the law returns true; each argument reads behind the call as it read before'; 0 by the template 'total and deterministic' (their statements: YtamepbgmajeaeaaDoorTotals.lean).
  GIVEN WITH THE SEED: the statements are not yours to turn. If you find one false, say at which input.
  Laid BY PROGRAM, IN A SANDBOX (cutbox-rows.mjs): the forced cells as the released guide's own fill.sh prints them over the translation 335662a2731c1440… (all of the seat's roots in one cut). By AI agents, Wed Nov 11 2026. No macro, syntax, notation, axiom, sorry.
-/
import Derived.Test.YtamepbgmajeaeaaDoorChecked
import GoSem.PinnedTables
import GoSem.Claim
import GoSem.ClaimJoined
import GoSem.ClaimMapViews
import Derived.JoinedTies
import Derived.KernelRfl
namespace Go.Proofs.YtamepbgmajeaeaaDoor
/- THE CELL 'sum', in the pinned program and in every row, IS THE sha256 OF THE DUMP (.gsa) THAT YtamepbgmajeaeaaDoorProg.lean LOADS. Nothing in Lean hashes anything: it is a label: what it is worth is what the hold of that sum in a sandbox is worth. -/
noncomputable def Tryd.pinned : Pinned := { name := "ytamepbgmajeaeaadoor", sum := "335662a2731c1440b09ecb460b8dd48d71701536382b6372ced2ad0b3239f451", checked := Tryd.checked }
namespace Rows
def none {H : Type} : Left H := { results := [], args := [] }

/- WHAT THE LISTED PACKAGE-LEVEL VARIABLES READ AS WHEN THE CALL BEGINS. Each datum BY PROGRAM (the guide's laid-datum.mjs) off the statement by which the dump's own 'gosem.cut.vars' lays the variable. In a bare row this is a premise. The card (YtamepbgmajeaeaaDoorCards.lean) ties it to the program's text. -/
def laid_curfew_code_largest {H : Type} : DataW H := .agg [.lit (.int .i64 0), .lit (.int .i64 7), .lit (.int .i64 65535), .lit (.int .i64 199)]
def laid_curfew_code_formats {H : Type} : DataW H := .agg [.agg [.lit (.int .i64 0), .lit (.int .i64 0), .lit (.int .i64 0)], .agg [.lit (.int .i64 1), .lit (.int .i64 0), .lit (.int .i64 2)], .agg [.lit (.int .i64 1), .lit (.int .i64 1), .lit (.int .i64 1)], .agg [.lit (.int .i64 1), .lit (.int .i64 1), .lit (.int .i64 1)], .agg [.lit (.int .i64 1), .lit (.int .i64 1), .lit (.int .i64 1)], .agg [.lit (.int .i64 1), .lit (.int .i64 1), .lit (.int .i64 1)], .agg [.lit (.int .i64 1), .lit (.int .i64 1), .lit (.int .i64 1)], .agg [.lit (.int .i64 1), .lit (.int .i64 1), .lit (.int .i64 1)], .agg [.lit (.int .i64 1), .lit (.int .i64 1), .lit (.int .i64 0)], .agg [.lit (.int .i64 1), .lit (.int .i64 1), .lit (.int .i64 0)], .agg [.lit (.int .i64 0), .lit (.int .i64 0), .lit (.int .i64 3)], .agg [.lit (.int .i64 1), .lit (.int .i64 0), .lit (.int .i64 3)], .agg [.lit (.int .i64 0), .lit (.int .i64 0), .lit (.int .i64 3)], .agg [.lit (.int .i64 0), .lit (.int .i64 0), .lit (.int .i64 0)], .agg [.lit (.int .i64 1), .lit (.int .i64 0), .lit (.int .i64 0)], .agg [.lit (.int .i64 0), .lit (.int .i64 0), .lit (.int .i64 0)]]
def laid_math_bits_deBruijn32tab {H : Type} : DataW H := .agg [.lit (.int .u8 0), .lit (.int .u8 1), .lit (.int .u8 28), .lit (.int .u8 2), .lit (.int .u8 29), .lit (.int .u8 14), .lit (.int .u8 24), .lit (.int .u8 3), .lit (.int .u8 30), .lit (.int .u8 22), .lit (.int .u8 20), .lit (.int .u8 15), .lit (.int .u8 25), .lit (.int .u8 17), .lit (.int .u8 4), .lit (.int .u8 8), .lit (.int .u8 31), .lit (.int .u8 27), .lit (.int .u8 13), .lit (.int .u8 23), .lit (.int .u8 21), .lit (.int .u8 19), .lit (.int .u8 16), .lit (.int .u8 7), .lit (.int .u8 26), .lit (.int .u8 12), .lit (.int .u8 18), .lit (.int .u8 6), .lit (.int .u8 11), .lit (.int .u8 5), .lit (.int .u8 10), .lit (.int .u8 9)]
def laid_math_bits_deBruijn64tab {H : Type} : DataW H := .agg [.lit (.int .u8 0), .lit (.int .u8 1), .lit (.int .u8 56), .lit (.int .u8 2), .lit (.int .u8 57), .lit (.int .u8 49), .lit (.int .u8 28), .lit (.int .u8 3), .lit (.int .u8 61), .lit (.int .u8 58), .lit (.int .u8 42), .lit (.int .u8 50), .lit (.int .u8 38), .lit (.int .u8 29), .lit (.int .u8 17), .lit (.int .u8 4), .lit (.int .u8 62), .lit (.int .u8 47), .lit (.int .u8 59), .lit (.int .u8 36), .lit (.int .u8 45), .lit (.int .u8 43), .lit (.int .u8 51), .lit (.int .u8 22), .lit (.int .u8 53), .lit (.int .u8 39), .lit (.int .u8 33), .lit (.int .u8 30), .lit (.int .u8 24), .lit (.int .u8 18), .lit (.int .u8 12), .lit (.int .u8 5), .lit (.int .u8 63), .lit (.int .u8 55), .lit (.int .u8 48), .lit (.int .u8 27), .lit (.int .u8 60), .lit (.int .u8 41), .lit (.int .u8 37), .lit (.int .u8 16), .lit (.int .u8 46), .lit (.int .u8 35), .lit (.int .u8 44), .lit (.int .u8 21), .lit (.int .u8 52), .lit (.int .u8 32), .lit (.int .u8 23), .lit (.int .u8 11), .lit (.int .u8 54), .lit (.int .u8 26), .lit (.int .u8 40), .lit (.int .u8 15), .lit (.int .u8 34), .lit (.int .u8 20), .lit (.int .u8 31), .lit (.int .u8 10), .lit (.int .u8 25), .lit (.int .u8 14), .lit (.int .u8 19), .lit (.int .u8 9), .lit (.int .u8 13), .lit (.int .u8 8), .lit (.int .u8 7), .lit (.int .u8 6)]
def laid_internal_strconv_uint64pow10 {H : Type} : DataW H := .agg [.lit (.int .u64 1), .lit (.int .u64 10), .lit (.int .u64 100), .lit (.int .u64 1000), .lit (.int .u64 10000), .lit (.int .u64 100000), .lit (.int .u64 1000000), .lit (.int .u64 10000000), .lit (.int .u64 100000000), .lit (.int .u64 1000000000), .lit (.int .u64 10000000000), .lit (.int .u64 100000000000), .lit (.int .u64 1000000000000), .lit (.int .u64 10000000000000), .lit (.int .u64 100000000000000), .lit (.int .u64 1000000000000000), .lit (.int .u64 10000000000000000), .lit (.int .u64 100000000000000000), .lit (.int .u64 1000000000000000000), .lit (.int .u64 10000000000000000000)]
def laid_curfew_code_names {H : Type} : DataW H := .agg [.lit (.string []), .lit (.string [108, 105]), .lit (.string [97, 100, 100]), .lit (.string [115, 117, 98]), .lit (.string [97, 110, 100]), .lit (.string [111, 114]), .lit (.string [120, 111, 114]), .lit (.string [108, 116]), .lit (.string [108, 100]), .lit (.string [115, 116]), .lit (.string [106, 109, 112]), .lit (.string [106, 122]), .lit (.string [99, 97, 108, 108]), .lit (.string [114, 101, 116]), .lit (.string [116, 101, 108, 108]), .lit (.string [104, 97, 108, 116])]
def laid_unicode_utf8_acceptRanges {H : Type} : DataW H := .agg [.agg [.lit (.int .u8 128), .lit (.int .u8 191)], .agg [.lit (.int .u8 160), .lit (.int .u8 191)], .agg [.lit (.int .u8 128), .lit (.int .u8 159)], .agg [.lit (.int .u8 144), .lit (.int .u8 191)], .agg [.lit (.int .u8 128), .lit (.int .u8 143)], .agg [.lit (.int .u8 0), .lit (.int .u8 0)], .agg [.lit (.int .u8 0), .lit (.int .u8 0)], .agg [.lit (.int .u8 0), .lit (.int .u8 0)], .agg [.lit (.int .u8 0), .lit (.int .u8 0)], .agg [.lit (.int .u8 0), .lit (.int .u8 0)], .agg [.lit (.int .u8 0), .lit (.int .u8 0)], .agg [.lit (.int .u8 0), .lit (.int .u8 0)], .agg [.lit (.int .u8 0), .lit (.int .u8 0)], .agg [.lit (.int .u8 0), .lit (.int .u8 0)], .agg [.lit (.int .u8 0), .lit (.int .u8 0)], .agg [.lit (.int .u8 0), .lit (.int .u8 0)]]
def laid_strconv_ErrRange {H : Type} : DataW H := .iface "*errors.errorString" (.ptr (.agg [.lit (.string [118, 97, 108, 117, 101, 32, 111, 117, 116, 32, 111, 102, 32, 114, 97, 110, 103, 101])]))
def laid_strconv_ErrSyntax {H : Type} : DataW H := .iface "*errors.errorString" (.ptr (.agg [.lit (.string [105, 110, 118, 97, 108, 105, 100, 32, 115, 121, 110, 116, 97, 120])]))
/-- One of Go's own tables, pinned by name: the form's constant. -/
def laid_unicode_utf8_first : DataW Unit := Go.Pinned.utf8First

/-- 'curfewlaw.CodeChecks': WHATEVER THE INPUT: true; the input reads as it did. -/
def codeChecksSpec : ChangeSpec := { name := "codeChecks", fn := fun _ => fun
  | [d] => { results := [.lit (.bool true)], args := [d] }
  | _ => none }
def codeChecksRow : OpenClaim := { program := "ytamepbgmajeaeaadoor", sum := "335662a2731c1440b09ecb460b8dd48d71701536382b6372ced2ad0b3239f451", func := "curfew/curfewlaw.CodeChecks", spec := "codeChecks", named := ["curfew/code.formats", "curfew/code.largest"], apart := false, laid := [("curfew/code.largest", laid_curfew_code_largest), ("curfew/code.formats", laid_curfew_code_formats)] }
def CodeChecksSaid : Prop := codeChecksRow.holds Tryd.pinned (OpenSpec.ofChange codeChecksSpec)

/-- ITS FALSE NEIGHBOUR: 'it returns false'. Refute it at one input. -/
def codeChecksWrong : ChangeSpec := { name := "codeChecks", fn := fun _ => fun
  | [d] => { results := [.lit (.bool false)], args := [d] }
  | _ => none }
def CodeChecksWrongFalsely : Prop := codeChecksRow.holds Tryd.pinned (OpenSpec.ofChange codeChecksWrong)

/-- 'curfewlaw.CodeShows': WHATEVER THE INPUT: true; the input reads as it did. -/
def codeShowsSpec : ChangeSpec := { name := "codeShows", fn := fun _ => fun
  | [d] => { results := [.lit (.bool true)], args := [d] }
  | _ => none }
def codeShowsRow : OpenClaim := { program := "ytamepbgmajeaeaadoor", sum := "335662a2731c1440b09ecb460b8dd48d71701536382b6372ced2ad0b3239f451", func := "curfew/curfewlaw.CodeShows", spec := "codeShows", inPlace := ["internal/abi.NoEscape"], recurses := true, named := ["curfew/code.formats", "curfew/code.largest", "curfew/code.names", "internal/strconv.uint64pow10", "math/bits.deBruijn32tab", "math/bits.deBruijn64tab"], apart := false, laid := [("math/bits.deBruijn32tab", laid_math_bits_deBruijn32tab), ("math/bits.deBruijn64tab", laid_math_bits_deBruijn64tab), ("internal/strconv.uint64pow10", laid_internal_strconv_uint64pow10), ("curfew/code.largest", laid_curfew_code_largest), ("curfew/code.names", laid_curfew_code_names), ("curfew/code.formats", laid_curfew_code_formats)] }
def CodeShowsSaid : Prop := codeShowsRow.holds Tryd.pinned (OpenSpec.ofChange codeShowsSpec)

/-- ITS FALSE NEIGHBOUR: 'it returns false'. Refute it at one input. -/
def codeShowsWrong : ChangeSpec := { name := "codeShows", fn := fun _ => fun
  | [d] => { results := [.lit (.bool false)], args := [d] }
  | _ => none }
def CodeShowsWrongFalsely : Prop := codeShowsRow.holds Tryd.pinned (OpenSpec.ofChange codeShowsWrong)

/-- 'curfewlaw.CodeReads': WHATEVER THE INPUT: true; the input reads as it did. -/
def codeReadsSpec : ChangeSpec := { name := "codeReads", fn := fun _ => fun
  | [d] => { results := [.lit (.bool true)], args := [d] }
  | _ => none }
def codeReadsRow : OpenClaim := { program := "ytamepbgmajeaeaadoor", sum := "335662a2731c1440b09ecb460b8dd48d71701536382b6372ced2ad0b3239f451", func := "curfew/curfewlaw.CodeReads", spec := "codeReads", inPlace := ["internal/bytealg.IndexByteString", "internal/bytealg.IndexString", "internal/bytealg.CountString"], named := ["internal/bytealg.MaxLen", "curfew/code.formats", "unicode/utf8.first", "unicode/utf8.acceptRanges", "curfew/code.names", "strconv.ErrSyntax", "strconv.ErrRange", "internal/strconv.uint64pow10", "math/bits.deBruijn32tab", "math/bits.deBruijn64tab", "curfew/code.largest"], apart := false, laid := [("math/bits.deBruijn32tab", laid_math_bits_deBruijn32tab), ("math/bits.deBruijn64tab", laid_math_bits_deBruijn64tab), ("internal/strconv.uint64pow10", laid_internal_strconv_uint64pow10), ("unicode/utf8.acceptRanges", laid_unicode_utf8_acceptRanges), ("strconv.ErrRange", laid_strconv_ErrRange), ("strconv.ErrSyntax", laid_strconv_ErrSyntax), ("curfew/code.largest", laid_curfew_code_largest), ("curfew/code.names", laid_curfew_code_names), ("curfew/code.formats", laid_curfew_code_formats), ("unicode/utf8.first", laid_unicode_utf8_first)] }
def CodeReadsSaid : Prop := codeReadsRow.holds Tryd.pinned (OpenSpec.ofChange codeReadsSpec)

/-- ITS FALSE NEIGHBOUR: 'it returns false'. Refute it at one input. -/
def codeReadsWrong : ChangeSpec := { name := "codeReads", fn := fun _ => fun
  | [d] => { results := [.lit (.bool false)], args := [d] }
  | _ => none }
def CodeReadsWrongFalsely : Prop := codeReadsRow.holds Tryd.pinned (OpenSpec.ofChange codeReadsWrong)

/-- 'curfewkeep.CodesBack': WHATEVER THE INPUT: true; the input reads as it did. -/
def codesBackSpec : ChangeSpec := { name := "codesBack", fn := fun _ => fun
  | [d1, d2] => { results := [.lit (.bool true)], args := [d1, d2] }
  | _ => none }
def codesBackRow : OpenClaim := { program := "ytamepbgmajeaeaadoor", sum := "335662a2731c1440b09ecb460b8dd48d71701536382b6372ced2ad0b3239f451", func := "curfew/curfewkeep.CodesBack", spec := "codesBack", inPlace := ["internal/abi.NoEscape", "internal/bytealg.IndexByteString", "internal/bytealg.IndexString", "internal/bytealg.CountString"], named := ["curfew/code.formats", "curfew/code.largest", "curfew/code.names", "internal/strconv.uint64pow10", "math/bits.deBruijn32tab", "math/bits.deBruijn64tab", "internal/bytealg.MaxLen", "unicode/utf8.first", "unicode/utf8.acceptRanges", "strconv.ErrSyntax", "strconv.ErrRange"], apart := false, laid := [("math/bits.deBruijn32tab", laid_math_bits_deBruijn32tab), ("math/bits.deBruijn64tab", laid_math_bits_deBruijn64tab), ("internal/strconv.uint64pow10", laid_internal_strconv_uint64pow10), ("unicode/utf8.acceptRanges", laid_unicode_utf8_acceptRanges), ("strconv.ErrRange", laid_strconv_ErrRange), ("strconv.ErrSyntax", laid_strconv_ErrSyntax), ("curfew/code.largest", laid_curfew_code_largest), ("curfew/code.names", laid_curfew_code_names), ("curfew/code.formats", laid_curfew_code_formats), ("unicode/utf8.first", laid_unicode_utf8_first)] }
def CodesBackSaid : Prop := codesBackRow.holds Tryd.pinned (OpenSpec.ofChange codesBackSpec)

/-- ITS FALSE NEIGHBOUR: 'it returns false'. Refute it at one input. -/
def codesBackWrong : ChangeSpec := { name := "codesBack", fn := fun _ => fun
  | [d1, d2] => { results := [.lit (.bool false)], args := [d1, d2] }
  | _ => none }
def CodesBackWrongFalsely : Prop := codesBackRow.holds Tryd.pinned (OpenSpec.ofChange codesBackWrong)

/-- 'curfewkeep.CodesBad': WHATEVER THE INPUT: true; the input reads as it did. -/
def codesBadSpec : ChangeSpec := { name := "codesBad", fn := fun _ => fun
  | [d1, d2] => { results := [.lit (.bool true)], args := [d1, d2] }
  | _ => none }
def codesBadRow : OpenClaim := { program := "ytamepbgmajeaeaadoor", sum := "335662a2731c1440b09ecb460b8dd48d71701536382b6372ced2ad0b3239f451", func := "curfew/curfewkeep.CodesBad", spec := "codesBad", inPlace := ["internal/abi.NoEscape", "internal/bytealg.IndexByteString", "internal/bytealg.IndexString", "internal/bytealg.CountString", "internal/bytealg.MakeNoZero"], named := ["curfew/code.formats", "curfew/code.largest", "curfew/code.names", "internal/strconv.uint64pow10", "math/bits.deBruijn32tab", "math/bits.deBruijn64tab", "internal/bytealg.MaxLen", "unicode/utf8.first", "unicode/utf8.acceptRanges", "strconv.ErrSyntax", "strconv.ErrRange"], apart := false, laid := [("math/bits.deBruijn32tab", laid_math_bits_deBruijn32tab), ("math/bits.deBruijn64tab", laid_math_bits_deBruijn64tab), ("internal/strconv.uint64pow10", laid_internal_strconv_uint64pow10), ("unicode/utf8.acceptRanges", laid_unicode_utf8_acceptRanges), ("strconv.ErrRange", laid_strconv_ErrRange), ("strconv.ErrSyntax", laid_strconv_ErrSyntax), ("curfew/code.largest", laid_curfew_code_largest), ("curfew/code.names", laid_curfew_code_names), ("curfew/code.formats", laid_curfew_code_formats), ("unicode/utf8.first", laid_unicode_utf8_first)] }
def CodesBadSaid : Prop := codesBadRow.holds Tryd.pinned (OpenSpec.ofChange codesBadSpec)

/-- ITS FALSE NEIGHBOUR: 'it returns false'. Refute it at one input. -/
def codesBadWrong : ChangeSpec := { name := "codesBad", fn := fun _ => fun
  | [d1, d2] => { results := [.lit (.bool false)], args := [d1, d2] }
  | _ => none }
def CodesBadWrongFalsely : Prop := codesBadRow.holds Tryd.pinned (OpenSpec.ofChange codesBadWrong)

/-- 'curfewlaw.CpuRuns': WHATEVER THE INPUT: true; the input reads as it did. -/
def cpuRunsSpec : ChangeSpec := { name := "cpuRuns", fn := fun _ => fun
  | [d1, d2, d3, d4] => { results := [.lit (.bool true)], args := [d1, d2, d3, d4] }
  | _ => none }
def cpuRunsRow : OpenClaim := { program := "ytamepbgmajeaeaadoor", sum := "335662a2731c1440b09ecb460b8dd48d71701536382b6372ced2ad0b3239f451", func := "curfew/curfewlaw.CpuRuns", spec := "cpuRuns", unfollowed := true, recurses := true, named := ["curfew/code.formats", "curfew/code.largest"], apart := false, laid := [("curfew/code.largest", laid_curfew_code_largest), ("curfew/code.formats", laid_curfew_code_formats)] }
def CpuRunsSaid : Prop := cpuRunsRow.holds Tryd.pinned (OpenSpec.ofChange cpuRunsSpec)

/-- ITS FALSE NEIGHBOUR: 'it returns false'. Refute it at one input. -/
def cpuRunsWrong : ChangeSpec := { name := "cpuRuns", fn := fun _ => fun
  | [d1, d2, d3, d4] => { results := [.lit (.bool false)], args := [d1, d2, d3, d4] }
  | _ => none }
def CpuRunsWrongFalsely : Prop := cpuRunsRow.holds Tryd.pinned (OpenSpec.ofChange cpuRunsWrong)

/-- 'curfewkeep.RunsCount': WHATEVER THE INPUT: true; the input reads as it did. -/
def runsCountSpec : ChangeSpec := { name := "runsCount", fn := fun _ => fun
  | [d1, d2] => { results := [.lit (.bool true)], args := [d1, d2] }
  | _ => none }
def runsCountRow : OpenClaim := { program := "ytamepbgmajeaeaadoor", sum := "335662a2731c1440b09ecb460b8dd48d71701536382b6372ced2ad0b3239f451", func := "curfew/curfewkeep.RunsCount", spec := "runsCount", unfollowed := true, recurses := true, named := ["curfew/code.formats", "curfew/code.largest"], apart := false, laid := [("curfew/code.largest", laid_curfew_code_largest), ("curfew/code.formats", laid_curfew_code_formats)] }
def RunsCountSaid : Prop := runsCountRow.holds Tryd.pinned (OpenSpec.ofChange runsCountSpec)

/-- ITS FALSE NEIGHBOUR: 'it returns false'. Refute it at one input. -/
def runsCountWrong : ChangeSpec := { name := "runsCount", fn := fun _ => fun
  | [d1, d2] => { results := [.lit (.bool false)], args := [d1, d2] }
  | _ => none }
def RunsCountWrongFalsely : Prop := runsCountRow.holds Tryd.pinned (OpenSpec.ofChange runsCountWrong)

/-- 'curfewkeep.RunsReckon': WHATEVER THE INPUT: true; the input reads as it did. -/
def runsReckonSpec : ChangeSpec := { name := "runsReckon", fn := fun _ => fun
  | [d1, d2] => { results := [.lit (.bool true)], args := [d1, d2] }
  | _ => none }
def runsReckonRow : OpenClaim := { program := "ytamepbgmajeaeaadoor", sum := "335662a2731c1440b09ecb460b8dd48d71701536382b6372ced2ad0b3239f451", func := "curfew/curfewkeep.RunsReckon", spec := "runsReckon", unfollowed := true, recurses := true, named := ["curfew/code.formats", "curfew/code.largest"], apart := false, laid := [("curfew/code.largest", laid_curfew_code_largest), ("curfew/code.formats", laid_curfew_code_formats)] }
def RunsReckonSaid : Prop := runsReckonRow.holds Tryd.pinned (OpenSpec.ofChange runsReckonSpec)

/-- ITS FALSE NEIGHBOUR: 'it returns false'. Refute it at one input. -/
def runsReckonWrong : ChangeSpec := { name := "runsReckon", fn := fun _ => fun
  | [d1, d2] => { results := [.lit (.bool false)], args := [d1, d2] }
  | _ => none }
def RunsReckonWrongFalsely : Prop := runsReckonRow.holds Tryd.pinned (OpenSpec.ofChange runsReckonWrong)

/-- 'curfewkeep.RunsCall': WHATEVER THE INPUT: true; the input reads as it did. -/
def runsCallSpec : ChangeSpec := { name := "runsCall", fn := fun _ => fun
  | [d] => { results := [.lit (.bool true)], args := [d] }
  | _ => none }
def runsCallRow : OpenClaim := { program := "ytamepbgmajeaeaadoor", sum := "335662a2731c1440b09ecb460b8dd48d71701536382b6372ced2ad0b3239f451", func := "curfew/curfewkeep.RunsCall", spec := "runsCall", unfollowed := true, recurses := true, named := ["curfew/code.formats", "curfew/code.largest"], apart := false, laid := [("curfew/code.largest", laid_curfew_code_largest), ("curfew/code.formats", laid_curfew_code_formats)] }
def RunsCallSaid : Prop := runsCallRow.holds Tryd.pinned (OpenSpec.ofChange runsCallSpec)

/-- ITS FALSE NEIGHBOUR: 'it returns false'. Refute it at one input. -/
def runsCallWrong : ChangeSpec := { name := "runsCall", fn := fun _ => fun
  | [d] => { results := [.lit (.bool false)], args := [d] }
  | _ => none }
def RunsCallWrongFalsely : Prop := runsCallRow.holds Tryd.pinned (OpenSpec.ofChange runsCallWrong)

/-- 'curfewlaw.SafeVerifies': WHATEVER THE INPUT: true; the input reads as it did. -/
def safeVerifiesSpec : ChangeSpec := { name := "safeVerifies", fn := fun _ => fun
  | [d] => { results := [.lit (.bool true)], args := [d] }
  | _ => none }
def safeVerifiesRow : OpenClaim := { program := "ytamepbgmajeaeaadoor", sum := "335662a2731c1440b09ecb460b8dd48d71701536382b6372ced2ad0b3239f451", func := "curfew/curfewlaw.SafeVerifies", spec := "safeVerifies", unfollowed := true, recurses := true, named := ["curfew/code.formats", "curfew/code.largest"], apart := false, laid := [("curfew/code.largest", laid_curfew_code_largest), ("curfew/code.formats", laid_curfew_code_formats)] }
def SafeVerifiesSaid : Prop := safeVerifiesRow.holds Tryd.pinned (OpenSpec.ofChange safeVerifiesSpec)

/-- ITS FALSE NEIGHBOUR: 'it returns false'. Refute it at one input. -/
def safeVerifiesWrong : ChangeSpec := { name := "safeVerifies", fn := fun _ => fun
  | [d] => { results := [.lit (.bool false)], args := [d] }
  | _ => none }
def SafeVerifiesWrongFalsely : Prop := safeVerifiesRow.holds Tryd.pinned (OpenSpec.ofChange safeVerifiesWrong)

/-- 'curfewlaw.SafeMakes': WHATEVER THE INPUT: true; the input reads as it did. -/
def safeMakesSpec : ChangeSpec := { name := "safeMakes", fn := fun _ => fun
  | [d] => { results := [.lit (.bool true)], args := [d] }
  | _ => none }
def safeMakesRow : OpenClaim := { program := "ytamepbgmajeaeaadoor", sum := "335662a2731c1440b09ecb460b8dd48d71701536382b6372ced2ad0b3239f451", func := "curfew/curfewlaw.SafeMakes", spec := "safeMakes", unfollowed := true, recurses := true, named := ["curfew/code.formats", "curfew/code.largest"], apart := false, laid := [("curfew/code.largest", laid_curfew_code_largest), ("curfew/code.formats", laid_curfew_code_formats)] }
def SafeMakesSaid : Prop := safeMakesRow.holds Tryd.pinned (OpenSpec.ofChange safeMakesSpec)

/-- ITS FALSE NEIGHBOUR: 'it returns false'. Refute it at one input. -/
def safeMakesWrong : ChangeSpec := { name := "safeMakes", fn := fun _ => fun
  | [d] => { results := [.lit (.bool false)], args := [d] }
  | _ => none }
def SafeMakesWrongFalsely : Prop := safeMakesRow.holds Tryd.pinned (OpenSpec.ofChange safeMakesWrong)

/- THE SECOND FORM. 'bulk': how many values and letters a reading holds, each counted each time it is reached (what is shared counts as often as it is met; a slice's spare places count too). A statement '..UptoSaid' is the law's where the arguments, and the package variables that the reading takes, are together of bulk at most 1048576: NARROWER than '..Said'. Prove '..Said' where nothing that the law and all that it calls make is longer than what came in: it says more and counts as full. Else prove '..UptoSaid'. A law counts once. -/
mutual
def uptoBulk {H : Type} : DataW H → Nat
  | .lit (.string bytes) => bytes.length + 1
  | .lit _ => 1
  | .nil => 1
  | .ptr d => uptoBulk d + 1
  | .slice elems spare => uptoBulkAll elems + uptoBulkAll spare + 1
  | .agg parts => uptoBulkAll parts + 1
  | .iface _ d => uptoBulk d + 1
  | .map entries => uptoBulkEntries entries + 1
  | .held _ => 1
def uptoBulkAll {H : Type} : List (DataW H) → Nat
  | [] => 0
  | d :: r => uptoBulk d + uptoBulkAll r
def uptoBulkEntries {H : Type} : List (Lit × DataW H) → Nat
  | [] => 0
  | x :: r => uptoBulkEntry x + uptoBulkEntries r
def uptoBulkEntry {H : Type} : Lit × DataW H → Nat
  | (.string bytes, d) => bytes.length + uptoBulk d + 1
  | (_, d) => uptoBulk d + 1
 end
def uptoSmall : (H : Type) → List (DataW H) → Bool := fun _ ds => decide (uptoBulkAll ds ≤ 1048576)
def OpenSpec.upto (s : _root_.Go.ChangeSpec) : _root_.Go.OpenSpec := { _root_.Go.OpenSpec.ofChange s with cond := some uptoSmall }

/-- 'curfewlaw.CodeChecks', WHERE WHAT IT READS IS OF BULK AT MOST 1048576: true; the input reads as it did. -/
def codeChecksUptoRow : OpenClaim := { program := "ytamepbgmajeaeaadoor", sum := "335662a2731c1440b09ecb460b8dd48d71701536382b6372ced2ad0b3239f451", func := "curfew/curfewlaw.CodeChecks", spec := "codeChecks", named := ["curfew/code.formats", "curfew/code.largest"], apart := false, laid := [("curfew/code.largest", laid_curfew_code_largest), ("curfew/code.formats", laid_curfew_code_formats)], narrowed := true }
def CodeChecksUptoSaid : Prop := codeChecksUptoRow.holds Tryd.pinned (OpenSpec.upto codeChecksSpec)

/-- 'curfewlaw.CodeShows', WHERE WHAT IT READS IS OF BULK AT MOST 1048576: true; the input reads as it did. -/
def codeShowsUptoRow : OpenClaim := { program := "ytamepbgmajeaeaadoor", sum := "335662a2731c1440b09ecb460b8dd48d71701536382b6372ced2ad0b3239f451", func := "curfew/curfewlaw.CodeShows", spec := "codeShows", inPlace := ["internal/abi.NoEscape"], recurses := true, named := ["curfew/code.formats", "curfew/code.largest", "curfew/code.names", "internal/strconv.uint64pow10", "math/bits.deBruijn32tab", "math/bits.deBruijn64tab"], apart := false, laid := [("math/bits.deBruijn32tab", laid_math_bits_deBruijn32tab), ("math/bits.deBruijn64tab", laid_math_bits_deBruijn64tab), ("internal/strconv.uint64pow10", laid_internal_strconv_uint64pow10), ("curfew/code.largest", laid_curfew_code_largest), ("curfew/code.names", laid_curfew_code_names), ("curfew/code.formats", laid_curfew_code_formats)], narrowed := true }
def CodeShowsUptoSaid : Prop := codeShowsUptoRow.holds Tryd.pinned (OpenSpec.upto codeShowsSpec)

/-- 'curfewlaw.CodeReads', WHERE WHAT IT READS IS OF BULK AT MOST 1048576: true; the input reads as it did. -/
def codeReadsUptoRow : OpenClaim := { program := "ytamepbgmajeaeaadoor", sum := "335662a2731c1440b09ecb460b8dd48d71701536382b6372ced2ad0b3239f451", func := "curfew/curfewlaw.CodeReads", spec := "codeReads", inPlace := ["internal/bytealg.IndexByteString", "internal/bytealg.IndexString", "internal/bytealg.CountString"], named := ["internal/bytealg.MaxLen", "curfew/code.formats", "unicode/utf8.first", "unicode/utf8.acceptRanges", "curfew/code.names", "strconv.ErrSyntax", "strconv.ErrRange", "internal/strconv.uint64pow10", "math/bits.deBruijn32tab", "math/bits.deBruijn64tab", "curfew/code.largest"], apart := false, laid := [("math/bits.deBruijn32tab", laid_math_bits_deBruijn32tab), ("math/bits.deBruijn64tab", laid_math_bits_deBruijn64tab), ("internal/strconv.uint64pow10", laid_internal_strconv_uint64pow10), ("unicode/utf8.acceptRanges", laid_unicode_utf8_acceptRanges), ("strconv.ErrRange", laid_strconv_ErrRange), ("strconv.ErrSyntax", laid_strconv_ErrSyntax), ("curfew/code.largest", laid_curfew_code_largest), ("curfew/code.names", laid_curfew_code_names), ("curfew/code.formats", laid_curfew_code_formats), ("unicode/utf8.first", laid_unicode_utf8_first)], narrowed := true }
def CodeReadsUptoSaid : Prop := codeReadsUptoRow.holds Tryd.pinned (OpenSpec.upto codeReadsSpec)

/-- 'curfewkeep.CodesBack', WHERE WHAT IT READS IS OF BULK AT MOST 1048576: true; the input reads as it did. -/
def codesBackUptoRow : OpenClaim := { program := "ytamepbgmajeaeaadoor", sum := "335662a2731c1440b09ecb460b8dd48d71701536382b6372ced2ad0b3239f451", func := "curfew/curfewkeep.CodesBack", spec := "codesBack", inPlace := ["internal/abi.NoEscape", "internal/bytealg.IndexByteString", "internal/bytealg.IndexString", "internal/bytealg.CountString"], named := ["curfew/code.formats", "curfew/code.largest", "curfew/code.names", "internal/strconv.uint64pow10", "math/bits.deBruijn32tab", "math/bits.deBruijn64tab", "internal/bytealg.MaxLen", "unicode/utf8.first", "unicode/utf8.acceptRanges", "strconv.ErrSyntax", "strconv.ErrRange"], apart := false, laid := [("math/bits.deBruijn32tab", laid_math_bits_deBruijn32tab), ("math/bits.deBruijn64tab", laid_math_bits_deBruijn64tab), ("internal/strconv.uint64pow10", laid_internal_strconv_uint64pow10), ("unicode/utf8.acceptRanges", laid_unicode_utf8_acceptRanges), ("strconv.ErrRange", laid_strconv_ErrRange), ("strconv.ErrSyntax", laid_strconv_ErrSyntax), ("curfew/code.largest", laid_curfew_code_largest), ("curfew/code.names", laid_curfew_code_names), ("curfew/code.formats", laid_curfew_code_formats), ("unicode/utf8.first", laid_unicode_utf8_first)], narrowed := true }
def CodesBackUptoSaid : Prop := codesBackUptoRow.holds Tryd.pinned (OpenSpec.upto codesBackSpec)

/-- 'curfewkeep.CodesBad', WHERE WHAT IT READS IS OF BULK AT MOST 1048576: true; the input reads as it did. -/
def codesBadUptoRow : OpenClaim := { program := "ytamepbgmajeaeaadoor", sum := "335662a2731c1440b09ecb460b8dd48d71701536382b6372ced2ad0b3239f451", func := "curfew/curfewkeep.CodesBad", spec := "codesBad", inPlace := ["internal/abi.NoEscape", "internal/bytealg.IndexByteString", "internal/bytealg.IndexString", "internal/bytealg.CountString", "internal/bytealg.MakeNoZero"], named := ["curfew/code.formats", "curfew/code.largest", "curfew/code.names", "internal/strconv.uint64pow10", "math/bits.deBruijn32tab", "math/bits.deBruijn64tab", "internal/bytealg.MaxLen", "unicode/utf8.first", "unicode/utf8.acceptRanges", "strconv.ErrSyntax", "strconv.ErrRange"], apart := false, laid := [("math/bits.deBruijn32tab", laid_math_bits_deBruijn32tab), ("math/bits.deBruijn64tab", laid_math_bits_deBruijn64tab), ("internal/strconv.uint64pow10", laid_internal_strconv_uint64pow10), ("unicode/utf8.acceptRanges", laid_unicode_utf8_acceptRanges), ("strconv.ErrRange", laid_strconv_ErrRange), ("strconv.ErrSyntax", laid_strconv_ErrSyntax), ("curfew/code.largest", laid_curfew_code_largest), ("curfew/code.names", laid_curfew_code_names), ("curfew/code.formats", laid_curfew_code_formats), ("unicode/utf8.first", laid_unicode_utf8_first)], narrowed := true }
def CodesBadUptoSaid : Prop := codesBadUptoRow.holds Tryd.pinned (OpenSpec.upto codesBadSpec)

/-- 'curfewlaw.CpuRuns', WHERE WHAT IT READS IS OF BULK AT MOST 1048576: true; the input reads as it did. -/
def cpuRunsUptoRow : OpenClaim := { program := "ytamepbgmajeaeaadoor", sum := "335662a2731c1440b09ecb460b8dd48d71701536382b6372ced2ad0b3239f451", func := "curfew/curfewlaw.CpuRuns", spec := "cpuRuns", unfollowed := true, recurses := true, named := ["curfew/code.formats", "curfew/code.largest"], apart := false, laid := [("curfew/code.largest", laid_curfew_code_largest), ("curfew/code.formats", laid_curfew_code_formats)], narrowed := true }
def CpuRunsUptoSaid : Prop := cpuRunsUptoRow.holds Tryd.pinned (OpenSpec.upto cpuRunsSpec)

/-- 'curfewkeep.RunsCount', WHERE WHAT IT READS IS OF BULK AT MOST 1048576: true; the input reads as it did. -/
def runsCountUptoRow : OpenClaim := { program := "ytamepbgmajeaeaadoor", sum := "335662a2731c1440b09ecb460b8dd48d71701536382b6372ced2ad0b3239f451", func := "curfew/curfewkeep.RunsCount", spec := "runsCount", unfollowed := true, recurses := true, named := ["curfew/code.formats", "curfew/code.largest"], apart := false, laid := [("curfew/code.largest", laid_curfew_code_largest), ("curfew/code.formats", laid_curfew_code_formats)], narrowed := true }
def RunsCountUptoSaid : Prop := runsCountUptoRow.holds Tryd.pinned (OpenSpec.upto runsCountSpec)

/-- 'curfewkeep.RunsReckon', WHERE WHAT IT READS IS OF BULK AT MOST 1048576: true; the input reads as it did. -/
def runsReckonUptoRow : OpenClaim := { program := "ytamepbgmajeaeaadoor", sum := "335662a2731c1440b09ecb460b8dd48d71701536382b6372ced2ad0b3239f451", func := "curfew/curfewkeep.RunsReckon", spec := "runsReckon", unfollowed := true, recurses := true, named := ["curfew/code.formats", "curfew/code.largest"], apart := false, laid := [("curfew/code.largest", laid_curfew_code_largest), ("curfew/code.formats", laid_curfew_code_formats)], narrowed := true }
def RunsReckonUptoSaid : Prop := runsReckonUptoRow.holds Tryd.pinned (OpenSpec.upto runsReckonSpec)

/-- 'curfewkeep.RunsCall', WHERE WHAT IT READS IS OF BULK AT MOST 1048576: true; the input reads as it did. -/
def runsCallUptoRow : OpenClaim := { program := "ytamepbgmajeaeaadoor", sum := "335662a2731c1440b09ecb460b8dd48d71701536382b6372ced2ad0b3239f451", func := "curfew/curfewkeep.RunsCall", spec := "runsCall", unfollowed := true, recurses := true, named := ["curfew/code.formats", "curfew/code.largest"], apart := false, laid := [("curfew/code.largest", laid_curfew_code_largest), ("curfew/code.formats", laid_curfew_code_formats)], narrowed := true }
def RunsCallUptoSaid : Prop := runsCallUptoRow.holds Tryd.pinned (OpenSpec.upto runsCallSpec)

/-- 'curfewlaw.SafeVerifies', WHERE WHAT IT READS IS OF BULK AT MOST 1048576: true; the input reads as it did. -/
def safeVerifiesUptoRow : OpenClaim := { program := "ytamepbgmajeaeaadoor", sum := "335662a2731c1440b09ecb460b8dd48d71701536382b6372ced2ad0b3239f451", func := "curfew/curfewlaw.SafeVerifies", spec := "safeVerifies", unfollowed := true, recurses := true, named := ["curfew/code.formats", "curfew/code.largest"], apart := false, laid := [("curfew/code.largest", laid_curfew_code_largest), ("curfew/code.formats", laid_curfew_code_formats)], narrowed := true }
def SafeVerifiesUptoSaid : Prop := safeVerifiesUptoRow.holds Tryd.pinned (OpenSpec.upto safeVerifiesSpec)

/-- 'curfewlaw.SafeMakes', WHERE WHAT IT READS IS OF BULK AT MOST 1048576: true; the input reads as it did. -/
def safeMakesUptoRow : OpenClaim := { program := "ytamepbgmajeaeaadoor", sum := "335662a2731c1440b09ecb460b8dd48d71701536382b6372ced2ad0b3239f451", func := "curfew/curfewlaw.SafeMakes", spec := "safeMakes", unfollowed := true, recurses := true, named := ["curfew/code.formats", "curfew/code.largest"], apart := false, laid := [("curfew/code.largest", laid_curfew_code_largest), ("curfew/code.formats", laid_curfew_code_formats)], narrowed := true }
def SafeMakesUptoSaid : Prop := safeMakesUptoRow.holds Tryd.pinned (OpenSpec.upto safeMakesSpec)

end Rows
end Go.Proofs.YtamepbgmajeaeaaDoor
