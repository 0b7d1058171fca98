/-
  NARROWER THAN 'FOR EVERY INPUT', by the rows' own cells (each row's printed sentence says how): KernNames: laid · KernApart: laid · KernRegion: laid · KernStops: laid · KernAnew: laid · VlinkOnce: laid · BusPlays: laid.
  DERIVED. THE GIVEN ROWS OF THIS SEAT. 7 by the template 'for every input the law returns true; each argument reads behind the call as it read before'; 0 by the template 'total and deterministic' (their statements: YtmckidepbibpgaaDoorTotals.lean).
  GIVEN WITH THE SEED: the statements are not yours to turn. If you find one false, say at which input.
  Laid BY PROGRAM, IN A SANDBOX (cutbox-rows.mjs): the forced cells as the released guide's own fill.sh prints them over the translation 7df2d30271f1ad56… (all of the seat's roots in one cut). By AI agents, Wed Nov 11 2026. No macro, syntax, notation, axiom, sorry.
-/
import Derived.Test.YtmckidepbibpgaaDoorChecked
import GoSem.Claim
import GoSem.ClaimJoined
import GoSem.ClaimMapViews
import Derived.JoinedTies
import Derived.KernelRfl
namespace Go.Proofs.YtmckidepbibpgaaDoor
/- THE CELL 'sum', in the pinned program and in every row, IS THE sha256 OF THE DUMP (.gsa) THAT YtmckidepbibpgaaDoorProg.lean LOADS. Nothing in Lean hashes anything: it is a label: what it is worth is what the hold of that sum in a sandbox is worth. -/
noncomputable def Tryd.pinned : Pinned := { name := "ytmckidepbibpgaadoor", sum := "7df2d30271f1ad56e26d900af2973e76314a2948a3455241a6b9edf856f083f5", checked := Tryd.checked }
namespace Rows
def none {H : Type} : Left H := { results := [], args := [] }

/- WHAT THE LISTED PACKAGE-LEVEL VARIABLES READ AS WHEN THE CALL BEGINS. Each datum BY PROGRAM (the guide's laid-datum.mjs) off the statement by which the dump's own 'gosem.cut.vars' lays the variable. In a bare row this is a premise. The card (YtmckidepbibpgaaDoorCards.lean) ties it to the program's text. -/
def laid_rota_config_depthOf {H : Type} : DataW H := .agg [.agg [.lit (.int .i64 0), .lit (.int .i64 0)], .agg [.lit (.int .i64 0), .lit (.int .i64 0)], .agg [.lit (.int .i64 1), .lit (.int .i64 8)]]
def laid_rota_config_freshOf {H : Type} : DataW H := .agg [.agg [.agg [.lit (.int .i64 0), .lit (.int .i64 0)], .agg [.lit (.int .i64 0), .lit (.int .i64 0)], .agg [.lit (.int .i64 0), .lit (.int .i64 0)]], .agg [.agg [.lit (.int .i64 0), .lit (.int .i64 0)], .agg [.lit (.int .i64 0), .lit (.int .i64 0)], .agg [.lit (.int .i64 1), .lit (.int .i64 65535)]], .agg [.agg [.lit (.int .i64 0), .lit (.int .i64 0)], .agg [.lit (.int .i64 0), .lit (.int .i64 0)], .agg [.lit (.int .i64 0), .lit (.int .i64 0)]]]
def laid_math_bits_deBruijn32tab {H : Type} : DataW H := .agg [.lit (.int .u8 0), .lit (.int .u8 1), .lit (.int .u8 28), .lit (.int .u8 2), .lit (.int .u8 29), .lit (.int .u8 14), .lit (.int .u8 24), .lit (.int .u8 3), .lit (.int .u8 30), .lit (.int .u8 22), .lit (.int .u8 20), .lit (.int .u8 15), .lit (.int .u8 25), .lit (.int .u8 17), .lit (.int .u8 4), .lit (.int .u8 8), .lit (.int .u8 31), .lit (.int .u8 27), .lit (.int .u8 13), .lit (.int .u8 23), .lit (.int .u8 21), .lit (.int .u8 19), .lit (.int .u8 16), .lit (.int .u8 7), .lit (.int .u8 26), .lit (.int .u8 12), .lit (.int .u8 18), .lit (.int .u8 6), .lit (.int .u8 11), .lit (.int .u8 5), .lit (.int .u8 10), .lit (.int .u8 9)]
def laid_math_bits_deBruijn64tab {H : Type} : DataW H := .agg [.lit (.int .u8 0), .lit (.int .u8 1), .lit (.int .u8 56), .lit (.int .u8 2), .lit (.int .u8 57), .lit (.int .u8 49), .lit (.int .u8 28), .lit (.int .u8 3), .lit (.int .u8 61), .lit (.int .u8 58), .lit (.int .u8 42), .lit (.int .u8 50), .lit (.int .u8 38), .lit (.int .u8 29), .lit (.int .u8 17), .lit (.int .u8 4), .lit (.int .u8 62), .lit (.int .u8 47), .lit (.int .u8 59), .lit (.int .u8 36), .lit (.int .u8 45), .lit (.int .u8 43), .lit (.int .u8 51), .lit (.int .u8 22), .lit (.int .u8 53), .lit (.int .u8 39), .lit (.int .u8 33), .lit (.int .u8 30), .lit (.int .u8 24), .lit (.int .u8 18), .lit (.int .u8 12), .lit (.int .u8 5), .lit (.int .u8 63), .lit (.int .u8 55), .lit (.int .u8 48), .lit (.int .u8 27), .lit (.int .u8 60), .lit (.int .u8 41), .lit (.int .u8 37), .lit (.int .u8 16), .lit (.int .u8 46), .lit (.int .u8 35), .lit (.int .u8 44), .lit (.int .u8 21), .lit (.int .u8 52), .lit (.int .u8 32), .lit (.int .u8 23), .lit (.int .u8 11), .lit (.int .u8 54), .lit (.int .u8 26), .lit (.int .u8 40), .lit (.int .u8 15), .lit (.int .u8 34), .lit (.int .u8 20), .lit (.int .u8 31), .lit (.int .u8 10), .lit (.int .u8 25), .lit (.int .u8 14), .lit (.int .u8 19), .lit (.int .u8 9), .lit (.int .u8 13), .lit (.int .u8 8), .lit (.int .u8 7), .lit (.int .u8 6)]
def laid_internal_strconv_uint64pow10 {H : Type} : DataW H := .agg [.lit (.int .u64 1), .lit (.int .u64 10), .lit (.int .u64 100), .lit (.int .u64 1000), .lit (.int .u64 10000), .lit (.int .u64 100000), .lit (.int .u64 1000000), .lit (.int .u64 10000000), .lit (.int .u64 100000000), .lit (.int .u64 1000000000), .lit (.int .u64 10000000000), .lit (.int .u64 100000000000), .lit (.int .u64 1000000000000), .lit (.int .u64 10000000000000), .lit (.int .u64 100000000000000), .lit (.int .u64 1000000000000000), .lit (.int .u64 10000000000000000), .lit (.int .u64 100000000000000000), .lit (.int .u64 1000000000000000000), .lit (.int .u64 10000000000000000000)]

/-- 'rotalaw05.KernNames': WHATEVER THE INPUT: true; the input reads as it did. -/
def kernNamesSpec : ChangeSpec := { name := "kernNames", fn := fun _ => fun
  | [] => { results := [.lit (.bool true)], args := [] }
  | _ => none }
def kernNamesRow : OpenClaim := { program := "ytmckidepbibpgaadoor", sum := "7df2d30271f1ad56e26d900af2973e76314a2948a3455241a6b9edf856f083f5", func := "rota/rotalaw05.KernNames", spec := "kernNames", unfollowed := true, recurses := true, named := ["rota/config.depthOf", "rota/config.freshOf"], apart := false, laid := [("rota/config.depthOf", laid_rota_config_depthOf), ("rota/config.freshOf", laid_rota_config_freshOf)] }
def KernNamesSaid : Prop := kernNamesRow.holds Tryd.pinned (OpenSpec.ofChange kernNamesSpec)

/-- ITS FALSE NEIGHBOUR: 'it returns false'. Refute it at one input. -/
def kernNamesWrong : ChangeSpec := { name := "kernNames", fn := fun _ => fun
  | [] => { results := [.lit (.bool false)], args := [] }
  | _ => none }
def KernNamesWrongFalsely : Prop := kernNamesRow.holds Tryd.pinned (OpenSpec.ofChange kernNamesWrong)

/-- 'rotalaw05.KernApart': WHATEVER THE INPUT: true; the input reads as it did. -/
def kernApartSpec : ChangeSpec := { name := "kernApart", fn := fun _ => fun
  | [d1, d2, d3] => { results := [.lit (.bool true)], args := [d1, d2, d3] }
  | _ => none }
def kernApartRow : OpenClaim := { program := "ytmckidepbibpgaadoor", sum := "7df2d30271f1ad56e26d900af2973e76314a2948a3455241a6b9edf856f083f5", func := "rota/rotalaw05.KernApart", spec := "kernApart", unfollowed := true, recurses := true, named := ["rota/config.depthOf", "rota/config.freshOf", "internal/strconv.uint64pow10", "math/bits.deBruijn32tab", "math/bits.deBruijn64tab"], apart := false, laid := [("math/bits.deBruijn32tab", laid_math_bits_deBruijn32tab), ("math/bits.deBruijn64tab", laid_math_bits_deBruijn64tab), ("internal/strconv.uint64pow10", laid_internal_strconv_uint64pow10), ("rota/config.depthOf", laid_rota_config_depthOf), ("rota/config.freshOf", laid_rota_config_freshOf)] }
def KernApartSaid : Prop := kernApartRow.holds Tryd.pinned (OpenSpec.ofChange kernApartSpec)

/-- ITS FALSE NEIGHBOUR: 'it returns false'. Refute it at one input. -/
def kernApartWrong : ChangeSpec := { name := "kernApart", fn := fun _ => fun
  | [d1, d2, d3] => { results := [.lit (.bool false)], args := [d1, d2, d3] }
  | _ => none }
def KernApartWrongFalsely : Prop := kernApartRow.holds Tryd.pinned (OpenSpec.ofChange kernApartWrong)

/-- 'rotalaw05.KernRegion': WHATEVER THE INPUT: true; the input reads as it did. -/
def kernRegionSpec : ChangeSpec := { name := "kernRegion", fn := fun _ => fun
  | [d1, d2, d3] => { results := [.lit (.bool true)], args := [d1, d2, d3] }
  | _ => none }
def kernRegionRow : OpenClaim := { program := "ytmckidepbibpgaadoor", sum := "7df2d30271f1ad56e26d900af2973e76314a2948a3455241a6b9edf856f083f5", func := "rota/rotalaw05.KernRegion", spec := "kernRegion", unfollowed := true, recurses := true, named := ["rota/config.depthOf", "rota/config.freshOf"], apart := false, laid := [("rota/config.depthOf", laid_rota_config_depthOf), ("rota/config.freshOf", laid_rota_config_freshOf)] }
def KernRegionSaid : Prop := kernRegionRow.holds Tryd.pinned (OpenSpec.ofChange kernRegionSpec)

/-- ITS FALSE NEIGHBOUR: 'it returns false'. Refute it at one input. -/
def kernRegionWrong : ChangeSpec := { name := "kernRegion", fn := fun _ => fun
  | [d1, d2, d3] => { results := [.lit (.bool false)], args := [d1, d2, d3] }
  | _ => none }
def KernRegionWrongFalsely : Prop := kernRegionRow.holds Tryd.pinned (OpenSpec.ofChange kernRegionWrong)

/-- 'rotalaw05.KernStops': WHATEVER THE INPUT: true; the input reads as it did. -/
def kernStopsSpec : ChangeSpec := { name := "kernStops", fn := fun _ => fun
  | [d1, d2, d3] => { results := [.lit (.bool true)], args := [d1, d2, d3] }
  | _ => none }
def kernStopsRow : OpenClaim := { program := "ytmckidepbibpgaadoor", sum := "7df2d30271f1ad56e26d900af2973e76314a2948a3455241a6b9edf856f083f5", func := "rota/rotalaw05.KernStops", spec := "kernStops", unfollowed := true, recurses := true, named := ["rota/config.depthOf", "rota/config.freshOf"], apart := false, laid := [("rota/config.depthOf", laid_rota_config_depthOf), ("rota/config.freshOf", laid_rota_config_freshOf)] }
def KernStopsSaid : Prop := kernStopsRow.holds Tryd.pinned (OpenSpec.ofChange kernStopsSpec)

/-- ITS FALSE NEIGHBOUR: 'it returns false'. Refute it at one input. -/
def kernStopsWrong : ChangeSpec := { name := "kernStops", fn := fun _ => fun
  | [d1, d2, d3] => { results := [.lit (.bool false)], args := [d1, d2, d3] }
  | _ => none }
def KernStopsWrongFalsely : Prop := kernStopsRow.holds Tryd.pinned (OpenSpec.ofChange kernStopsWrong)

/-- 'rotalaw05.KernAnew': WHATEVER THE INPUT: true; the input reads as it did. -/
def kernAnewSpec : ChangeSpec := { name := "kernAnew", fn := fun _ => fun
  | [d1, d2, d3] => { results := [.lit (.bool true)], args := [d1, d2, d3] }
  | _ => none }
def kernAnewRow : OpenClaim := { program := "ytmckidepbibpgaadoor", sum := "7df2d30271f1ad56e26d900af2973e76314a2948a3455241a6b9edf856f083f5", func := "rota/rotalaw05.KernAnew", spec := "kernAnew", unfollowed := true, recurses := true, named := ["rota/config.depthOf", "rota/config.freshOf", "internal/strconv.uint64pow10", "math/bits.deBruijn32tab", "math/bits.deBruijn64tab"], apart := false, laid := [("math/bits.deBruijn32tab", laid_math_bits_deBruijn32tab), ("math/bits.deBruijn64tab", laid_math_bits_deBruijn64tab), ("internal/strconv.uint64pow10", laid_internal_strconv_uint64pow10), ("rota/config.depthOf", laid_rota_config_depthOf), ("rota/config.freshOf", laid_rota_config_freshOf)] }
def KernAnewSaid : Prop := kernAnewRow.holds Tryd.pinned (OpenSpec.ofChange kernAnewSpec)

/-- ITS FALSE NEIGHBOUR: 'it returns false'. Refute it at one input. -/
def kernAnewWrong : ChangeSpec := { name := "kernAnew", fn := fun _ => fun
  | [d1, d2, d3] => { results := [.lit (.bool false)], args := [d1, d2, d3] }
  | _ => none }
def KernAnewWrongFalsely : Prop := kernAnewRow.holds Tryd.pinned (OpenSpec.ofChange kernAnewWrong)

/-- 'rotalaw06.VlinkOnce': WHATEVER THE INPUT: true; the input reads as it did. -/
def vlinkOnceSpec : ChangeSpec := { name := "vlinkOnce", fn := fun _ => fun
  | [d1, d2, d3] => { results := [.lit (.bool true)], args := [d1, d2, d3] }
  | _ => none }
def vlinkOnceRow : OpenClaim := { program := "ytmckidepbibpgaadoor", sum := "7df2d30271f1ad56e26d900af2973e76314a2948a3455241a6b9edf856f083f5", func := "rota/rotalaw06.VlinkOnce", spec := "vlinkOnce", unfollowed := true, recurses := true, named := ["rota/config.depthOf", "rota/config.freshOf"], apart := false, laid := [("rota/config.depthOf", laid_rota_config_depthOf), ("rota/config.freshOf", laid_rota_config_freshOf)] }
def VlinkOnceSaid : Prop := vlinkOnceRow.holds Tryd.pinned (OpenSpec.ofChange vlinkOnceSpec)

/-- ITS FALSE NEIGHBOUR: 'it returns false'. Refute it at one input. -/
def vlinkOnceWrong : ChangeSpec := { name := "vlinkOnce", fn := fun _ => fun
  | [d1, d2, d3] => { results := [.lit (.bool false)], args := [d1, d2, d3] }
  | _ => none }
def VlinkOnceWrongFalsely : Prop := vlinkOnceRow.holds Tryd.pinned (OpenSpec.ofChange vlinkOnceWrong)

/-- 'rotalaw07.BusPlays': WHATEVER THE INPUT: true; the input reads as it did. -/
def busPlaysSpec : ChangeSpec := { name := "busPlays", fn := fun _ => fun
  | [d1, d2] => { results := [.lit (.bool true)], args := [d1, d2] }
  | _ => none }
def busPlaysRow : OpenClaim := { program := "ytmckidepbibpgaadoor", sum := "7df2d30271f1ad56e26d900af2973e76314a2948a3455241a6b9edf856f083f5", func := "rota/rotalaw07.BusPlays", spec := "busPlays", inPlace := ["sync/atomic.AddUint64", "sync/atomic.LoadUint64"], unfollowed := true, recurses := true, named := ["rota/config.depthOf", "rota/config.freshOf"], apart := false, laid := [("rota/config.depthOf", laid_rota_config_depthOf), ("rota/config.freshOf", laid_rota_config_freshOf)] }
def BusPlaysSaid : Prop := busPlaysRow.holds Tryd.pinned (OpenSpec.ofChange busPlaysSpec)

/-- ITS FALSE NEIGHBOUR: 'it returns false'. Refute it at one input. -/
def busPlaysWrong : ChangeSpec := { name := "busPlays", fn := fun _ => fun
  | [d1, d2] => { results := [.lit (.bool false)], args := [d1, d2] }
  | _ => none }
def BusPlaysWrongFalsely : Prop := busPlaysRow.holds Tryd.pinned (OpenSpec.ofChange busPlaysWrong)

/- THE SECOND FORM. 'bulk': how many values and letters a reading holds, each counted each time it is reached (what is shared counts as often as it is met; a slice's spare places count too). A statement '..UptoSaid' is the law's where the arguments, and the package variables that the reading takes, are together of bulk at most 1048576: NARROWER than '..Said'. Prove '..Said' where nothing that the law and all that it calls make is longer than what came in: it says more and counts as full. Else prove '..UptoSaid'. A law counts once. -/
mutual
def uptoBulk {H : Type} : DataW H → Nat
  | .lit (.string bytes) => bytes.length + 1
  | .lit _ => 1
  | .nil => 1
  | .ptr d => uptoBulk d + 1
  | .slice elems spare => uptoBulkAll elems + uptoBulkAll spare + 1
  | .agg parts => uptoBulkAll parts + 1
  | .iface _ d => uptoBulk d + 1
  | .map entries => uptoBulkEntries entries + 1
  | .held _ => 1
def uptoBulkAll {H : Type} : List (DataW H) → Nat
  | [] => 0
  | d :: r => uptoBulk d + uptoBulkAll r
def uptoBulkEntries {H : Type} : List (Lit × DataW H) → Nat
  | [] => 0
  | x :: r => uptoBulkEntry x + uptoBulkEntries r
def uptoBulkEntry {H : Type} : Lit × DataW H → Nat
  | (.string bytes, d) => bytes.length + uptoBulk d + 1
  | (_, d) => uptoBulk d + 1
 end
def uptoSmall : (H : Type) → List (DataW H) → Bool := fun _ ds => decide (uptoBulkAll ds ≤ 1048576)
def OpenSpec.upto (s : _root_.Go.ChangeSpec) : _root_.Go.OpenSpec := { _root_.Go.OpenSpec.ofChange s with cond := some uptoSmall }

/-- 'rotalaw05.KernNames', WHERE WHAT IT READS IS OF BULK AT MOST 1048576: true; the input reads as it did. -/
def kernNamesUptoRow : OpenClaim := { program := "ytmckidepbibpgaadoor", sum := "7df2d30271f1ad56e26d900af2973e76314a2948a3455241a6b9edf856f083f5", func := "rota/rotalaw05.KernNames", spec := "kernNames", unfollowed := true, recurses := true, named := ["rota/config.depthOf", "rota/config.freshOf"], apart := false, laid := [("rota/config.depthOf", laid_rota_config_depthOf), ("rota/config.freshOf", laid_rota_config_freshOf)], narrowed := true }
def KernNamesUptoSaid : Prop := kernNamesUptoRow.holds Tryd.pinned (OpenSpec.upto kernNamesSpec)

/-- 'rotalaw05.KernApart', WHERE WHAT IT READS IS OF BULK AT MOST 1048576: true; the input reads as it did. -/
def kernApartUptoRow : OpenClaim := { program := "ytmckidepbibpgaadoor", sum := "7df2d30271f1ad56e26d900af2973e76314a2948a3455241a6b9edf856f083f5", func := "rota/rotalaw05.KernApart", spec := "kernApart", unfollowed := true, recurses := true, named := ["rota/config.depthOf", "rota/config.freshOf", "internal/strconv.uint64pow10", "math/bits.deBruijn32tab", "math/bits.deBruijn64tab"], apart := false, laid := [("math/bits.deBruijn32tab", laid_math_bits_deBruijn32tab), ("math/bits.deBruijn64tab", laid_math_bits_deBruijn64tab), ("internal/strconv.uint64pow10", laid_internal_strconv_uint64pow10), ("rota/config.depthOf", laid_rota_config_depthOf), ("rota/config.freshOf", laid_rota_config_freshOf)], narrowed := true }
def KernApartUptoSaid : Prop := kernApartUptoRow.holds Tryd.pinned (OpenSpec.upto kernApartSpec)

/-- 'rotalaw05.KernRegion', WHERE WHAT IT READS IS OF BULK AT MOST 1048576: true; the input reads as it did. -/
def kernRegionUptoRow : OpenClaim := { program := "ytmckidepbibpgaadoor", sum := "7df2d30271f1ad56e26d900af2973e76314a2948a3455241a6b9edf856f083f5", func := "rota/rotalaw05.KernRegion", spec := "kernRegion", unfollowed := true, recurses := true, named := ["rota/config.depthOf", "rota/config.freshOf"], apart := false, laid := [("rota/config.depthOf", laid_rota_config_depthOf), ("rota/config.freshOf", laid_rota_config_freshOf)], narrowed := true }
def KernRegionUptoSaid : Prop := kernRegionUptoRow.holds Tryd.pinned (OpenSpec.upto kernRegionSpec)

/-- 'rotalaw05.KernStops', WHERE WHAT IT READS IS OF BULK AT MOST 1048576: true; the input reads as it did. -/
def kernStopsUptoRow : OpenClaim := { program := "ytmckidepbibpgaadoor", sum := "7df2d30271f1ad56e26d900af2973e76314a2948a3455241a6b9edf856f083f5", func := "rota/rotalaw05.KernStops", spec := "kernStops", unfollowed := true, recurses := true, named := ["rota/config.depthOf", "rota/config.freshOf"], apart := false, laid := [("rota/config.depthOf", laid_rota_config_depthOf), ("rota/config.freshOf", laid_rota_config_freshOf)], narrowed := true }
def KernStopsUptoSaid : Prop := kernStopsUptoRow.holds Tryd.pinned (OpenSpec.upto kernStopsSpec)

/-- 'rotalaw05.KernAnew', WHERE WHAT IT READS IS OF BULK AT MOST 1048576: true; the input reads as it did. -/
def kernAnewUptoRow : OpenClaim := { program := "ytmckidepbibpgaadoor", sum := "7df2d30271f1ad56e26d900af2973e76314a2948a3455241a6b9edf856f083f5", func := "rota/rotalaw05.KernAnew", spec := "kernAnew", unfollowed := true, recurses := true, named := ["rota/config.depthOf", "rota/config.freshOf", "internal/strconv.uint64pow10", "math/bits.deBruijn32tab", "math/bits.deBruijn64tab"], apart := false, laid := [("math/bits.deBruijn32tab", laid_math_bits_deBruijn32tab), ("math/bits.deBruijn64tab", laid_math_bits_deBruijn64tab), ("internal/strconv.uint64pow10", laid_internal_strconv_uint64pow10), ("rota/config.depthOf", laid_rota_config_depthOf), ("rota/config.freshOf", laid_rota_config_freshOf)], narrowed := true }
def KernAnewUptoSaid : Prop := kernAnewUptoRow.holds Tryd.pinned (OpenSpec.upto kernAnewSpec)

/-- 'rotalaw06.VlinkOnce', WHERE WHAT IT READS IS OF BULK AT MOST 1048576: true; the input reads as it did. -/
def vlinkOnceUptoRow : OpenClaim := { program := "ytmckidepbibpgaadoor", sum := "7df2d30271f1ad56e26d900af2973e76314a2948a3455241a6b9edf856f083f5", func := "rota/rotalaw06.VlinkOnce", spec := "vlinkOnce", unfollowed := true, recurses := true, named := ["rota/config.depthOf", "rota/config.freshOf"], apart := false, laid := [("rota/config.depthOf", laid_rota_config_depthOf), ("rota/config.freshOf", laid_rota_config_freshOf)], narrowed := true }
def VlinkOnceUptoSaid : Prop := vlinkOnceUptoRow.holds Tryd.pinned (OpenSpec.upto vlinkOnceSpec)

/-- 'rotalaw07.BusPlays', WHERE WHAT IT READS IS OF BULK AT MOST 1048576: true; the input reads as it did. -/
def busPlaysUptoRow : OpenClaim := { program := "ytmckidepbibpgaadoor", sum := "7df2d30271f1ad56e26d900af2973e76314a2948a3455241a6b9edf856f083f5", func := "rota/rotalaw07.BusPlays", spec := "busPlays", inPlace := ["sync/atomic.AddUint64", "sync/atomic.LoadUint64"], unfollowed := true, recurses := true, named := ["rota/config.depthOf", "rota/config.freshOf"], apart := false, laid := [("rota/config.depthOf", laid_rota_config_depthOf), ("rota/config.freshOf", laid_rota_config_freshOf)], narrowed := true }
def BusPlaysUptoSaid : Prop := busPlaysUptoRow.holds Tryd.pinned (OpenSpec.upto busPlaysSpec)

end Rows
end Go.Proofs.YtmckidepbibpgaaDoor
