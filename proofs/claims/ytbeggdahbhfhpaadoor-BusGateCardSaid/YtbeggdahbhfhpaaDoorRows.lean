/-
  NARROWER THAN 'FOR EVERY INPUT', by the rows' own cells (each row's printed sentence says how): VlinkOnce: laid · BusGate: laid · ClockPlays: laid · MemberNames: laid · MemberAgree: laid · MemberHeals: laid · MemberStarts: laid.
  DERIVED. THE GIVEN ROWS OF THIS SEAT. 7 by the template 'for every input the law returns true; each argument reads behind the call as it read before'; 0 by the template 'total and deterministic' (their statements: YtbeggdahbhfhpaaDoorTotals.lean).
  GIVEN WITH THE SEED: the statements are not yours to turn. If you find one false, say at which input.
  Laid BY PROGRAM, IN A SANDBOX (cutbox-rows.mjs): the forced cells as the released guide's own fill.sh prints them over the translation 5f50ba3301dded2c… (all of the seat's roots in one cut). By AI agents, Wed Nov 11 2026. No macro, syntax, notation, axiom, sorry.
-/
import Derived.Test.YtbeggdahbhfhpaaDoorChecked
import GoSem.Claim
import GoSem.ClaimJoined
import GoSem.ClaimMapViews
import Derived.JoinedTies
import Derived.KernelRfl
namespace Go.Proofs.YtbeggdahbhfhpaaDoor
/- THE CELL 'sum', in the pinned program and in every row, IS THE sha256 OF THE DUMP (.gsa) THAT YtbeggdahbhfhpaaDoorProg.lean LOADS. Nothing in Lean hashes anything: it is a label: what it is worth is what the hold of that sum in a sandbox is worth. -/
noncomputable def Tryd.pinned : Pinned := { name := "ytbeggdahbhfhpaadoor", sum := "5f50ba3301dded2c1a34a67cd60b2efcae4f660803ceaf5adf76d629251d6251", checked := Tryd.checked }
namespace Rows
def none {H : Type} : Left H := { results := [], args := [] }

/- WHAT THE LISTED PACKAGE-LEVEL VARIABLES READ AS WHEN THE CALL BEGINS. Each datum BY PROGRAM (the guide's laid-datum.mjs) off the statement by which the dump's own 'gosem.cut.vars' lays the variable. In a bare row this is a premise. The card (YtbeggdahbhfhpaaDoorCards.lean) ties it to the program's text. -/
def laid_rota_config_depthOf {H : Type} : DataW H := .agg [.agg [.lit (.int .i64 0), .lit (.int .i64 0)], .agg [.lit (.int .i64 0), .lit (.int .i64 0)], .agg [.lit (.int .i64 1), .lit (.int .i64 8)]]
def laid_rota_config_freshOf {H : Type} : DataW H := .agg [.agg [.agg [.lit (.int .i64 0), .lit (.int .i64 0)], .agg [.lit (.int .i64 0), .lit (.int .i64 0)], .agg [.lit (.int .i64 0), .lit (.int .i64 0)]], .agg [.agg [.lit (.int .i64 0), .lit (.int .i64 0)], .agg [.lit (.int .i64 0), .lit (.int .i64 0)], .agg [.lit (.int .i64 1), .lit (.int .i64 65535)]], .agg [.agg [.lit (.int .i64 0), .lit (.int .i64 0)], .agg [.lit (.int .i64 0), .lit (.int .i64 0)], .agg [.lit (.int .i64 0), .lit (.int .i64 0)]]]
def laid_math_bits_deBruijn32tab {H : Type} : DataW H := .agg [.lit (.int .u8 0), .lit (.int .u8 1), .lit (.int .u8 28), .lit (.int .u8 2), .lit (.int .u8 29), .lit (.int .u8 14), .lit (.int .u8 24), .lit (.int .u8 3), .lit (.int .u8 30), .lit (.int .u8 22), .lit (.int .u8 20), .lit (.int .u8 15), .lit (.int .u8 25), .lit (.int .u8 17), .lit (.int .u8 4), .lit (.int .u8 8), .lit (.int .u8 31), .lit (.int .u8 27), .lit (.int .u8 13), .lit (.int .u8 23), .lit (.int .u8 21), .lit (.int .u8 19), .lit (.int .u8 16), .lit (.int .u8 7), .lit (.int .u8 26), .lit (.int .u8 12), .lit (.int .u8 18), .lit (.int .u8 6), .lit (.int .u8 11), .lit (.int .u8 5), .lit (.int .u8 10), .lit (.int .u8 9)]

/-- 'rotalaw06.VlinkOnce': WHATEVER THE INPUT: true; the input reads as it did. -/
def vlinkOnceSpec : ChangeSpec := { name := "vlinkOnce", fn := fun _ => fun
  | [d1, d2, d3] => { results := [.lit (.bool true)], args := [d1, d2, d3] }
  | _ => none }
def vlinkOnceRow : OpenClaim := { program := "ytbeggdahbhfhpaadoor", sum := "5f50ba3301dded2c1a34a67cd60b2efcae4f660803ceaf5adf76d629251d6251", func := "rota/rotalaw06.VlinkOnce", spec := "vlinkOnce", unfollowed := true, recurses := true, named := ["rota/config.depthOf", "rota/config.freshOf"], plainKeys := false, apart := false, laid := [("rota/config.depthOf", laid_rota_config_depthOf), ("rota/config.freshOf", laid_rota_config_freshOf)] }
def VlinkOnceSaid : Prop := vlinkOnceRow.holds Tryd.pinned (OpenSpec.ofChange vlinkOnceSpec)

/-- ITS FALSE NEIGHBOUR: 'it returns false'. Refute it at one input. -/
def vlinkOnceWrong : ChangeSpec := { name := "vlinkOnce", fn := fun _ => fun
  | [d1, d2, d3] => { results := [.lit (.bool false)], args := [d1, d2, d3] }
  | _ => none }
def VlinkOnceWrongFalsely : Prop := vlinkOnceRow.holds Tryd.pinned (OpenSpec.ofChange vlinkOnceWrong)

/-- 'rotalaw07.BusGate': WHATEVER THE INPUT: true; the input reads as it did. -/
def busGateSpec : ChangeSpec := { name := "busGate", fn := fun _ => fun
  | [d1, d2, d3] => { results := [.lit (.bool true)], args := [d1, d2, d3] }
  | _ => none }
def busGateRow : OpenClaim := { program := "ytbeggdahbhfhpaadoor", sum := "5f50ba3301dded2c1a34a67cd60b2efcae4f660803ceaf5adf76d629251d6251", func := "rota/rotalaw07.BusGate", spec := "busGate", inPlace := ["sync/atomic.AddUint64", "sync/atomic.LoadUint64"], unfollowed := true, recurses := true, named := ["rota/config.depthOf", "rota/config.freshOf"], plainKeys := false, apart := false, laid := [("rota/config.depthOf", laid_rota_config_depthOf), ("rota/config.freshOf", laid_rota_config_freshOf)] }
def BusGateSaid : Prop := busGateRow.holds Tryd.pinned (OpenSpec.ofChange busGateSpec)

/-- ITS FALSE NEIGHBOUR: 'it returns false'. Refute it at one input. -/
def busGateWrong : ChangeSpec := { name := "busGate", fn := fun _ => fun
  | [d1, d2, d3] => { results := [.lit (.bool false)], args := [d1, d2, d3] }
  | _ => none }
def BusGateWrongFalsely : Prop := busGateRow.holds Tryd.pinned (OpenSpec.ofChange busGateWrong)

/-- 'rotalaw08.ClockPlays': WHATEVER THE INPUT: true; the input reads as it did. -/
def clockPlaysSpec : ChangeSpec := { name := "clockPlays", fn := fun _ => fun
  | [d1, d2] => { results := [.lit (.bool true)], args := [d1, d2] }
  | _ => none }
def clockPlaysRow : OpenClaim := { program := "ytbeggdahbhfhpaadoor", sum := "5f50ba3301dded2c1a34a67cd60b2efcae4f660803ceaf5adf76d629251d6251", func := "rota/rotalaw08.ClockPlays", spec := "clockPlays", unfollowed := true, recurses := true, named := ["rota/config.depthOf", "rota/config.freshOf"], plainKeys := false, apart := false, laid := [("rota/config.depthOf", laid_rota_config_depthOf), ("rota/config.freshOf", laid_rota_config_freshOf)] }
def ClockPlaysSaid : Prop := clockPlaysRow.holds Tryd.pinned (OpenSpec.ofChange clockPlaysSpec)

/-- ITS FALSE NEIGHBOUR: 'it returns false'. Refute it at one input. -/
def clockPlaysWrong : ChangeSpec := { name := "clockPlays", fn := fun _ => fun
  | [d1, d2] => { results := [.lit (.bool false)], args := [d1, d2] }
  | _ => none }
def ClockPlaysWrongFalsely : Prop := clockPlaysRow.holds Tryd.pinned (OpenSpec.ofChange clockPlaysWrong)

/-- 'rotalaw09.MemberNames': WHATEVER THE INPUT: true; the input reads as it did. -/
def memberNamesSpec : ChangeSpec := { name := "memberNames", fn := fun _ => fun
  | [] => { results := [.lit (.bool true)], args := [] }
  | _ => none }
def memberNamesRow : OpenClaim := { program := "ytbeggdahbhfhpaadoor", sum := "5f50ba3301dded2c1a34a67cd60b2efcae4f660803ceaf5adf76d629251d6251", func := "rota/rotalaw09.MemberNames", spec := "memberNames", unfollowed := true, recurses := true, named := ["rota/config.depthOf", "rota/config.freshOf", "math/bits.deBruijn32tab"], plainKeys := false, apart := false, laid := [("math/bits.deBruijn32tab", laid_math_bits_deBruijn32tab), ("rota/config.depthOf", laid_rota_config_depthOf), ("rota/config.freshOf", laid_rota_config_freshOf)] }
def MemberNamesSaid : Prop := memberNamesRow.holds Tryd.pinned (OpenSpec.ofChange memberNamesSpec)

/-- ITS FALSE NEIGHBOUR: 'it returns false'. Refute it at one input. -/
def memberNamesWrong : ChangeSpec := { name := "memberNames", fn := fun _ => fun
  | [] => { results := [.lit (.bool false)], args := [] }
  | _ => none }
def MemberNamesWrongFalsely : Prop := memberNamesRow.holds Tryd.pinned (OpenSpec.ofChange memberNamesWrong)

/-- 'rotalaw09.MemberAgree': WHATEVER THE INPUT: true; the input reads as it did. -/
def memberAgreeSpec : ChangeSpec := { name := "memberAgree", fn := fun _ => fun
  | [d1, d2] => { results := [.lit (.bool true)], args := [d1, d2] }
  | _ => none }
def memberAgreeRow : OpenClaim := { program := "ytbeggdahbhfhpaadoor", sum := "5f50ba3301dded2c1a34a67cd60b2efcae4f660803ceaf5adf76d629251d6251", func := "rota/rotalaw09.MemberAgree", spec := "memberAgree", unfollowed := true, recurses := true, named := ["rota/config.depthOf", "rota/config.freshOf", "math/bits.deBruijn32tab"], plainKeys := false, apart := false, laid := [("math/bits.deBruijn32tab", laid_math_bits_deBruijn32tab), ("rota/config.depthOf", laid_rota_config_depthOf), ("rota/config.freshOf", laid_rota_config_freshOf)] }
def MemberAgreeSaid : Prop := memberAgreeRow.holds Tryd.pinned (OpenSpec.ofChange memberAgreeSpec)

/-- ITS FALSE NEIGHBOUR: 'it returns false'. Refute it at one input. -/
def memberAgreeWrong : ChangeSpec := { name := "memberAgree", fn := fun _ => fun
  | [d1, d2] => { results := [.lit (.bool false)], args := [d1, d2] }
  | _ => none }
def MemberAgreeWrongFalsely : Prop := memberAgreeRow.holds Tryd.pinned (OpenSpec.ofChange memberAgreeWrong)

/-- 'rotalaw09.MemberHeals': WHATEVER THE INPUT: true; the input reads as it did. -/
def memberHealsSpec : ChangeSpec := { name := "memberHeals", fn := fun _ => fun
  | [d1, d2] => { results := [.lit (.bool true)], args := [d1, d2] }
  | _ => none }
def memberHealsRow : OpenClaim := { program := "ytbeggdahbhfhpaadoor", sum := "5f50ba3301dded2c1a34a67cd60b2efcae4f660803ceaf5adf76d629251d6251", func := "rota/rotalaw09.MemberHeals", spec := "memberHeals", unfollowed := true, recurses := true, named := ["rota/config.depthOf", "rota/config.freshOf", "math/bits.deBruijn32tab"], plainKeys := false, apart := false, laid := [("math/bits.deBruijn32tab", laid_math_bits_deBruijn32tab), ("rota/config.depthOf", laid_rota_config_depthOf), ("rota/config.freshOf", laid_rota_config_freshOf)] }
def MemberHealsSaid : Prop := memberHealsRow.holds Tryd.pinned (OpenSpec.ofChange memberHealsSpec)

/-- ITS FALSE NEIGHBOUR: 'it returns false'. Refute it at one input. -/
def memberHealsWrong : ChangeSpec := { name := "memberHeals", fn := fun _ => fun
  | [d1, d2] => { results := [.lit (.bool false)], args := [d1, d2] }
  | _ => none }
def MemberHealsWrongFalsely : Prop := memberHealsRow.holds Tryd.pinned (OpenSpec.ofChange memberHealsWrong)

/-- 'rotalaw09.MemberStarts': WHATEVER THE INPUT: true; the input reads as it did. -/
def memberStartsSpec : ChangeSpec := { name := "memberStarts", fn := fun _ => fun
  | [d1, d2] => { results := [.lit (.bool true)], args := [d1, d2] }
  | _ => none }
def memberStartsRow : OpenClaim := { program := "ytbeggdahbhfhpaadoor", sum := "5f50ba3301dded2c1a34a67cd60b2efcae4f660803ceaf5adf76d629251d6251", func := "rota/rotalaw09.MemberStarts", spec := "memberStarts", unfollowed := true, recurses := true, named := ["rota/config.depthOf", "rota/config.freshOf", "math/bits.deBruijn32tab"], plainKeys := false, apart := false, laid := [("math/bits.deBruijn32tab", laid_math_bits_deBruijn32tab), ("rota/config.depthOf", laid_rota_config_depthOf), ("rota/config.freshOf", laid_rota_config_freshOf)] }
def MemberStartsSaid : Prop := memberStartsRow.holds Tryd.pinned (OpenSpec.ofChange memberStartsSpec)

/-- ITS FALSE NEIGHBOUR: 'it returns false'. Refute it at one input. -/
def memberStartsWrong : ChangeSpec := { name := "memberStarts", fn := fun _ => fun
  | [d1, d2] => { results := [.lit (.bool false)], args := [d1, d2] }
  | _ => none }
def MemberStartsWrongFalsely : Prop := memberStartsRow.holds Tryd.pinned (OpenSpec.ofChange memberStartsWrong)

/- THE SECOND FORM. 'bulk': how many values and letters a reading holds, each counted each time it is reached (what is shared counts as often as it is met; a slice's spare places count too). A statement '..UptoSaid' is the law's where the arguments, and the package variables that the reading takes, are together of bulk at most 1048576: NARROWER than '..Said'. Prove '..Said' where nothing that the law and all that it calls make is longer than what came in: it says more and counts as full. Else prove '..UptoSaid'. A law counts once. -/
mutual
def uptoBulk {H : Type} : DataW H → Nat
  | .lit (.string bytes) => bytes.length + 1
  | .lit _ => 1
  | .nil => 1
  | .ptr d => uptoBulk d + 1
  | .slice elems spare => uptoBulkAll elems + uptoBulkAll spare + 1
  | .agg parts => uptoBulkAll parts + 1
  | .iface _ d => uptoBulk d + 1
  | .map entries => uptoBulkEntries entries + 1
  | .held _ => 1
def uptoBulkAll {H : Type} : List (DataW H) → Nat
  | [] => 0
  | d :: r => uptoBulk d + uptoBulkAll r
def uptoBulkEntries {H : Type} : List (Lit × DataW H) → Nat
  | [] => 0
  | x :: r => uptoBulkEntry x + uptoBulkEntries r
def uptoBulkEntry {H : Type} : Lit × DataW H → Nat
  | (.string bytes, d) => bytes.length + uptoBulk d + 1
  | (_, d) => uptoBulk d + 1
 end
def uptoSmall : (H : Type) → List (DataW H) → Bool := fun _ ds => decide (uptoBulkAll ds ≤ 1048576)
def OpenSpec.upto (s : _root_.Go.ChangeSpec) : _root_.Go.OpenSpec := { _root_.Go.OpenSpec.ofChange s with cond := some uptoSmall }

/-- 'rotalaw06.VlinkOnce', WHERE WHAT IT READS IS OF BULK AT MOST 1048576: true; the input reads as it did. -/
def vlinkOnceUptoRow : OpenClaim := { program := "ytbeggdahbhfhpaadoor", sum := "5f50ba3301dded2c1a34a67cd60b2efcae4f660803ceaf5adf76d629251d6251", func := "rota/rotalaw06.VlinkOnce", spec := "vlinkOnce", unfollowed := true, recurses := true, named := ["rota/config.depthOf", "rota/config.freshOf"], plainKeys := false, apart := false, laid := [("rota/config.depthOf", laid_rota_config_depthOf), ("rota/config.freshOf", laid_rota_config_freshOf)], narrowed := true }
def VlinkOnceUptoSaid : Prop := vlinkOnceUptoRow.holds Tryd.pinned (OpenSpec.upto vlinkOnceSpec)

/-- 'rotalaw07.BusGate', WHERE WHAT IT READS IS OF BULK AT MOST 1048576: true; the input reads as it did. -/
def busGateUptoRow : OpenClaim := { program := "ytbeggdahbhfhpaadoor", sum := "5f50ba3301dded2c1a34a67cd60b2efcae4f660803ceaf5adf76d629251d6251", func := "rota/rotalaw07.BusGate", spec := "busGate", inPlace := ["sync/atomic.AddUint64", "sync/atomic.LoadUint64"], unfollowed := true, recurses := true, named := ["rota/config.depthOf", "rota/config.freshOf"], plainKeys := false, apart := false, laid := [("rota/config.depthOf", laid_rota_config_depthOf), ("rota/config.freshOf", laid_rota_config_freshOf)], narrowed := true }
def BusGateUptoSaid : Prop := busGateUptoRow.holds Tryd.pinned (OpenSpec.upto busGateSpec)

/-- 'rotalaw08.ClockPlays', WHERE WHAT IT READS IS OF BULK AT MOST 1048576: true; the input reads as it did. -/
def clockPlaysUptoRow : OpenClaim := { program := "ytbeggdahbhfhpaadoor", sum := "5f50ba3301dded2c1a34a67cd60b2efcae4f660803ceaf5adf76d629251d6251", func := "rota/rotalaw08.ClockPlays", spec := "clockPlays", unfollowed := true, recurses := true, named := ["rota/config.depthOf", "rota/config.freshOf"], plainKeys := false, apart := false, laid := [("rota/config.depthOf", laid_rota_config_depthOf), ("rota/config.freshOf", laid_rota_config_freshOf)], narrowed := true }
def ClockPlaysUptoSaid : Prop := clockPlaysUptoRow.holds Tryd.pinned (OpenSpec.upto clockPlaysSpec)

/-- 'rotalaw09.MemberNames', WHERE WHAT IT READS IS OF BULK AT MOST 1048576: true; the input reads as it did. -/
def memberNamesUptoRow : OpenClaim := { program := "ytbeggdahbhfhpaadoor", sum := "5f50ba3301dded2c1a34a67cd60b2efcae4f660803ceaf5adf76d629251d6251", func := "rota/rotalaw09.MemberNames", spec := "memberNames", unfollowed := true, recurses := true, named := ["rota/config.depthOf", "rota/config.freshOf", "math/bits.deBruijn32tab"], plainKeys := false, apart := false, laid := [("math/bits.deBruijn32tab", laid_math_bits_deBruijn32tab), ("rota/config.depthOf", laid_rota_config_depthOf), ("rota/config.freshOf", laid_rota_config_freshOf)], narrowed := true }
def MemberNamesUptoSaid : Prop := memberNamesUptoRow.holds Tryd.pinned (OpenSpec.upto memberNamesSpec)

/-- 'rotalaw09.MemberAgree', WHERE WHAT IT READS IS OF BULK AT MOST 1048576: true; the input reads as it did. -/
def memberAgreeUptoRow : OpenClaim := { program := "ytbeggdahbhfhpaadoor", sum := "5f50ba3301dded2c1a34a67cd60b2efcae4f660803ceaf5adf76d629251d6251", func := "rota/rotalaw09.MemberAgree", spec := "memberAgree", unfollowed := true, recurses := true, named := ["rota/config.depthOf", "rota/config.freshOf", "math/bits.deBruijn32tab"], plainKeys := false, apart := false, laid := [("math/bits.deBruijn32tab", laid_math_bits_deBruijn32tab), ("rota/config.depthOf", laid_rota_config_depthOf), ("rota/config.freshOf", laid_rota_config_freshOf)], narrowed := true }
def MemberAgreeUptoSaid : Prop := memberAgreeUptoRow.holds Tryd.pinned (OpenSpec.upto memberAgreeSpec)

/-- 'rotalaw09.MemberHeals', WHERE WHAT IT READS IS OF BULK AT MOST 1048576: true; the input reads as it did. -/
def memberHealsUptoRow : OpenClaim := { program := "ytbeggdahbhfhpaadoor", sum := "5f50ba3301dded2c1a34a67cd60b2efcae4f660803ceaf5adf76d629251d6251", func := "rota/rotalaw09.MemberHeals", spec := "memberHeals", unfollowed := true, recurses := true, named := ["rota/config.depthOf", "rota/config.freshOf", "math/bits.deBruijn32tab"], plainKeys := false, apart := false, laid := [("math/bits.deBruijn32tab", laid_math_bits_deBruijn32tab), ("rota/config.depthOf", laid_rota_config_depthOf), ("rota/config.freshOf", laid_rota_config_freshOf)], narrowed := true }
def MemberHealsUptoSaid : Prop := memberHealsUptoRow.holds Tryd.pinned (OpenSpec.upto memberHealsSpec)

/-- 'rotalaw09.MemberStarts', WHERE WHAT IT READS IS OF BULK AT MOST 1048576: true; the input reads as it did. -/
def memberStartsUptoRow : OpenClaim := { program := "ytbeggdahbhfhpaadoor", sum := "5f50ba3301dded2c1a34a67cd60b2efcae4f660803ceaf5adf76d629251d6251", func := "rota/rotalaw09.MemberStarts", spec := "memberStarts", unfollowed := true, recurses := true, named := ["rota/config.depthOf", "rota/config.freshOf", "math/bits.deBruijn32tab"], plainKeys := false, apart := false, laid := [("math/bits.deBruijn32tab", laid_math_bits_deBruijn32tab), ("rota/config.depthOf", laid_rota_config_depthOf), ("rota/config.freshOf", laid_rota_config_freshOf)], narrowed := true }
def MemberStartsUptoSaid : Prop := memberStartsUptoRow.holds Tryd.pinned (OpenSpec.upto memberStartsSpec)

end Rows
end Go.Proofs.YtbeggdahbhfhpaaDoor
