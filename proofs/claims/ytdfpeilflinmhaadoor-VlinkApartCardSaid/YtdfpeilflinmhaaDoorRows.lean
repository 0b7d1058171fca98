/-
  NARROWER THAN 'FOR EVERY INPUT', by the rows' own cells (each row's printed sentence says how): VlinkBack: laid · VlinkApart: laid · VlinkOnce: laid · VlinkQuiet: laid · BusGate: laid · ClockPlays: laid · ClockNames: laid · ClockNear: laid · ClockTogether: laid.
  DERIVED. THE GIVEN ROWS OF THIS SEAT. 9 by the template 'for every input the law returns true; each argument reads behind the call as it read before'; 0 by the template 'total and deterministic' (their statements: YtdfpeilflinmhaaDoorTotals.lean).
  GIVEN WITH THE SEED: the statements are not yours to turn. If you find one false, say at which input.
  Laid BY PROGRAM, IN A SANDBOX (cutbox-rows.mjs): the forced cells as the released guide's own fill.sh prints them over the translation 45b69c0061f764e7… (all of the seat's roots in one cut). By AI agents, Wed Nov 11 2026. No macro, syntax, notation, axiom, sorry.
-/
import Derived.Test.YtdfpeilflinmhaaDoorChecked
import GoSem.Claim
import GoSem.ClaimJoined
import GoSem.ClaimMapViews
import Derived.JoinedTies
import Derived.KernelRfl
namespace Go.Proofs.YtdfpeilflinmhaaDoor
/- THE CELL 'sum', in the pinned program and in every row, IS THE sha256 OF THE DUMP (.gsa) THAT YtdfpeilflinmhaaDoorProg.lean LOADS. Nothing in Lean hashes anything: it is a label: what it is worth is what the hold of that sum in a sandbox is worth. -/
noncomputable def Tryd.pinned : Pinned := { name := "ytdfpeilflinmhaadoor", sum := "45b69c0061f764e7026499606dab639cd896781c099dad9a5964a2714560eee0", checked := Tryd.checked }
namespace Rows
def none {H : Type} : Left H := { results := [], args := [] }

/- WHAT THE LISTED PACKAGE-LEVEL VARIABLES READ AS WHEN THE CALL BEGINS. Each datum BY PROGRAM (the guide's laid-datum.mjs) off the statement by which the dump's own 'gosem.cut.vars' lays the variable. In a bare row this is a premise. The card (YtdfpeilflinmhaaDoorCards.lean) ties it to the program's text. -/
def laid_rota_config_depthOf {H : Type} : DataW H := .agg [.agg [.lit (.int .i64 0), .lit (.int .i64 0)], .agg [.lit (.int .i64 0), .lit (.int .i64 0)], .agg [.lit (.int .i64 1), .lit (.int .i64 8)]]
def laid_rota_config_freshOf {H : Type} : DataW H := .agg [.agg [.agg [.lit (.int .i64 0), .lit (.int .i64 0)], .agg [.lit (.int .i64 0), .lit (.int .i64 0)], .agg [.lit (.int .i64 0), .lit (.int .i64 0)]], .agg [.agg [.lit (.int .i64 0), .lit (.int .i64 0)], .agg [.lit (.int .i64 0), .lit (.int .i64 0)], .agg [.lit (.int .i64 1), .lit (.int .i64 65535)]], .agg [.agg [.lit (.int .i64 0), .lit (.int .i64 0)], .agg [.lit (.int .i64 0), .lit (.int .i64 0)], .agg [.lit (.int .i64 0), .lit (.int .i64 0)]]]

/-- 'rotalaw06.VlinkBack': WHATEVER THE INPUT: true; the input reads as it did. -/
def vlinkBackSpec : ChangeSpec := { name := "vlinkBack", fn := fun _ => fun
  | [d1, d2, d3] => { results := [.lit (.bool true)], args := [d1, d2, d3] }
  | _ => none }
def vlinkBackRow : OpenClaim := { program := "ytdfpeilflinmhaadoor", sum := "45b69c0061f764e7026499606dab639cd896781c099dad9a5964a2714560eee0", func := "rota/rotalaw06.VlinkBack", spec := "vlinkBack", unfollowed := true, recurses := true, named := ["rota/config.depthOf", "rota/config.freshOf"], apart := false, laid := [("rota/config.depthOf", laid_rota_config_depthOf), ("rota/config.freshOf", laid_rota_config_freshOf)] }
def VlinkBackSaid : Prop := vlinkBackRow.holds Tryd.pinned (OpenSpec.ofChange vlinkBackSpec)

/-- ITS FALSE NEIGHBOUR: 'it returns false'. Refute it at one input. -/
def vlinkBackWrong : ChangeSpec := { name := "vlinkBack", fn := fun _ => fun
  | [d1, d2, d3] => { results := [.lit (.bool false)], args := [d1, d2, d3] }
  | _ => none }
def VlinkBackWrongFalsely : Prop := vlinkBackRow.holds Tryd.pinned (OpenSpec.ofChange vlinkBackWrong)

/-- 'rotalaw06.VlinkApart': WHATEVER THE INPUT: true; the input reads as it did. -/
def vlinkApartSpec : ChangeSpec := { name := "vlinkApart", fn := fun _ => fun
  | [d1, d2, d3] => { results := [.lit (.bool true)], args := [d1, d2, d3] }
  | _ => none }
def vlinkApartRow : OpenClaim := { program := "ytdfpeilflinmhaadoor", sum := "45b69c0061f764e7026499606dab639cd896781c099dad9a5964a2714560eee0", func := "rota/rotalaw06.VlinkApart", spec := "vlinkApart", unfollowed := true, recurses := true, named := ["rota/config.depthOf", "rota/config.freshOf"], apart := false, laid := [("rota/config.depthOf", laid_rota_config_depthOf), ("rota/config.freshOf", laid_rota_config_freshOf)] }
def VlinkApartSaid : Prop := vlinkApartRow.holds Tryd.pinned (OpenSpec.ofChange vlinkApartSpec)

/-- ITS FALSE NEIGHBOUR: 'it returns false'. Refute it at one input. -/
def vlinkApartWrong : ChangeSpec := { name := "vlinkApart", fn := fun _ => fun
  | [d1, d2, d3] => { results := [.lit (.bool false)], args := [d1, d2, d3] }
  | _ => none }
def VlinkApartWrongFalsely : Prop := vlinkApartRow.holds Tryd.pinned (OpenSpec.ofChange vlinkApartWrong)

/-- 'rotalaw06.VlinkOnce': WHATEVER THE INPUT: true; the input reads as it did. -/
def vlinkOnceSpec : ChangeSpec := { name := "vlinkOnce", fn := fun _ => fun
  | [d1, d2, d3] => { results := [.lit (.bool true)], args := [d1, d2, d3] }
  | _ => none }
def vlinkOnceRow : OpenClaim := { program := "ytdfpeilflinmhaadoor", sum := "45b69c0061f764e7026499606dab639cd896781c099dad9a5964a2714560eee0", func := "rota/rotalaw06.VlinkOnce", spec := "vlinkOnce", unfollowed := true, recurses := true, named := ["rota/config.depthOf", "rota/config.freshOf"], apart := false, laid := [("rota/config.depthOf", laid_rota_config_depthOf), ("rota/config.freshOf", laid_rota_config_freshOf)] }
def VlinkOnceSaid : Prop := vlinkOnceRow.holds Tryd.pinned (OpenSpec.ofChange vlinkOnceSpec)

/-- ITS FALSE NEIGHBOUR: 'it returns false'. Refute it at one input. -/
def vlinkOnceWrong : ChangeSpec := { name := "vlinkOnce", fn := fun _ => fun
  | [d1, d2, d3] => { results := [.lit (.bool false)], args := [d1, d2, d3] }
  | _ => none }
def VlinkOnceWrongFalsely : Prop := vlinkOnceRow.holds Tryd.pinned (OpenSpec.ofChange vlinkOnceWrong)

/-- 'rotalaw06.VlinkQuiet': WHATEVER THE INPUT: true; the input reads as it did. -/
def vlinkQuietSpec : ChangeSpec := { name := "vlinkQuiet", fn := fun _ => fun
  | [d1, d2, d3] => { results := [.lit (.bool true)], args := [d1, d2, d3] }
  | _ => none }
def vlinkQuietRow : OpenClaim := { program := "ytdfpeilflinmhaadoor", sum := "45b69c0061f764e7026499606dab639cd896781c099dad9a5964a2714560eee0", func := "rota/rotalaw06.VlinkQuiet", spec := "vlinkQuiet", unfollowed := true, recurses := true, named := ["rota/config.depthOf", "rota/config.freshOf"], apart := false, laid := [("rota/config.depthOf", laid_rota_config_depthOf), ("rota/config.freshOf", laid_rota_config_freshOf)] }
def VlinkQuietSaid : Prop := vlinkQuietRow.holds Tryd.pinned (OpenSpec.ofChange vlinkQuietSpec)

/-- ITS FALSE NEIGHBOUR: 'it returns false'. Refute it at one input. -/
def vlinkQuietWrong : ChangeSpec := { name := "vlinkQuiet", fn := fun _ => fun
  | [d1, d2, d3] => { results := [.lit (.bool false)], args := [d1, d2, d3] }
  | _ => none }
def VlinkQuietWrongFalsely : Prop := vlinkQuietRow.holds Tryd.pinned (OpenSpec.ofChange vlinkQuietWrong)

/-- 'rotalaw07.BusGate': WHATEVER THE INPUT: true; the input reads as it did. -/
def busGateSpec : ChangeSpec := { name := "busGate", fn := fun _ => fun
  | [d1, d2, d3] => { results := [.lit (.bool true)], args := [d1, d2, d3] }
  | _ => none }
def busGateRow : OpenClaim := { program := "ytdfpeilflinmhaadoor", sum := "45b69c0061f764e7026499606dab639cd896781c099dad9a5964a2714560eee0", func := "rota/rotalaw07.BusGate", spec := "busGate", inPlace := ["sync/atomic.AddUint64", "sync/atomic.LoadUint64"], unfollowed := true, recurses := true, named := ["rota/config.depthOf", "rota/config.freshOf"], apart := false, laid := [("rota/config.depthOf", laid_rota_config_depthOf), ("rota/config.freshOf", laid_rota_config_freshOf)] }
def BusGateSaid : Prop := busGateRow.holds Tryd.pinned (OpenSpec.ofChange busGateSpec)

/-- ITS FALSE NEIGHBOUR: 'it returns false'. Refute it at one input. -/
def busGateWrong : ChangeSpec := { name := "busGate", fn := fun _ => fun
  | [d1, d2, d3] => { results := [.lit (.bool false)], args := [d1, d2, d3] }
  | _ => none }
def BusGateWrongFalsely : Prop := busGateRow.holds Tryd.pinned (OpenSpec.ofChange busGateWrong)

/-- 'rotalaw08.ClockPlays': WHATEVER THE INPUT: true; the input reads as it did. -/
def clockPlaysSpec : ChangeSpec := { name := "clockPlays", fn := fun _ => fun
  | [d1, d2] => { results := [.lit (.bool true)], args := [d1, d2] }
  | _ => none }
def clockPlaysRow : OpenClaim := { program := "ytdfpeilflinmhaadoor", sum := "45b69c0061f764e7026499606dab639cd896781c099dad9a5964a2714560eee0", func := "rota/rotalaw08.ClockPlays", spec := "clockPlays", unfollowed := true, recurses := true, named := ["rota/config.depthOf", "rota/config.freshOf"], apart := false, laid := [("rota/config.depthOf", laid_rota_config_depthOf), ("rota/config.freshOf", laid_rota_config_freshOf)] }
def ClockPlaysSaid : Prop := clockPlaysRow.holds Tryd.pinned (OpenSpec.ofChange clockPlaysSpec)

/-- ITS FALSE NEIGHBOUR: 'it returns false'. Refute it at one input. -/
def clockPlaysWrong : ChangeSpec := { name := "clockPlays", fn := fun _ => fun
  | [d1, d2] => { results := [.lit (.bool false)], args := [d1, d2] }
  | _ => none }
def ClockPlaysWrongFalsely : Prop := clockPlaysRow.holds Tryd.pinned (OpenSpec.ofChange clockPlaysWrong)

/-- 'rotalaw08.ClockNames': WHATEVER THE INPUT: true; the input reads as it did. -/
def clockNamesSpec : ChangeSpec := { name := "clockNames", fn := fun _ => fun
  | [] => { results := [.lit (.bool true)], args := [] }
  | _ => none }
def clockNamesRow : OpenClaim := { program := "ytdfpeilflinmhaadoor", sum := "45b69c0061f764e7026499606dab639cd896781c099dad9a5964a2714560eee0", func := "rota/rotalaw08.ClockNames", spec := "clockNames", unfollowed := true, recurses := true, named := ["rota/config.depthOf", "rota/config.freshOf"], apart := false, laid := [("rota/config.depthOf", laid_rota_config_depthOf), ("rota/config.freshOf", laid_rota_config_freshOf)] }
def ClockNamesSaid : Prop := clockNamesRow.holds Tryd.pinned (OpenSpec.ofChange clockNamesSpec)

/-- ITS FALSE NEIGHBOUR: 'it returns false'. Refute it at one input. -/
def clockNamesWrong : ChangeSpec := { name := "clockNames", fn := fun _ => fun
  | [] => { results := [.lit (.bool false)], args := [] }
  | _ => none }
def ClockNamesWrongFalsely : Prop := clockNamesRow.holds Tryd.pinned (OpenSpec.ofChange clockNamesWrong)

/-- 'rotalaw08.ClockNear': WHATEVER THE INPUT: true; the input reads as it did. -/
def clockNearSpec : ChangeSpec := { name := "clockNear", fn := fun _ => fun
  | [d1, d2, d3, d4] => { results := [.lit (.bool true)], args := [d1, d2, d3, d4] }
  | _ => none }
def clockNearRow : OpenClaim := { program := "ytdfpeilflinmhaadoor", sum := "45b69c0061f764e7026499606dab639cd896781c099dad9a5964a2714560eee0", func := "rota/rotalaw08.ClockNear", spec := "clockNear", unfollowed := true, recurses := true, named := ["rota/config.depthOf", "rota/config.freshOf"], apart := false, laid := [("rota/config.depthOf", laid_rota_config_depthOf), ("rota/config.freshOf", laid_rota_config_freshOf)] }
def ClockNearSaid : Prop := clockNearRow.holds Tryd.pinned (OpenSpec.ofChange clockNearSpec)

/-- ITS FALSE NEIGHBOUR: 'it returns false'. Refute it at one input. -/
def clockNearWrong : ChangeSpec := { name := "clockNear", fn := fun _ => fun
  | [d1, d2, d3, d4] => { results := [.lit (.bool false)], args := [d1, d2, d3, d4] }
  | _ => none }
def ClockNearWrongFalsely : Prop := clockNearRow.holds Tryd.pinned (OpenSpec.ofChange clockNearWrong)

/-- 'rotalaw08.ClockTogether': WHATEVER THE INPUT: true; the input reads as it did. -/
def clockTogetherSpec : ChangeSpec := { name := "clockTogether", fn := fun _ => fun
  | [d1, d2, d3, d4] => { results := [.lit (.bool true)], args := [d1, d2, d3, d4] }
  | _ => none }
def clockTogetherRow : OpenClaim := { program := "ytdfpeilflinmhaadoor", sum := "45b69c0061f764e7026499606dab639cd896781c099dad9a5964a2714560eee0", func := "rota/rotalaw08.ClockTogether", spec := "clockTogether", unfollowed := true, recurses := true, named := ["rota/config.depthOf", "rota/config.freshOf"], apart := false, laid := [("rota/config.depthOf", laid_rota_config_depthOf), ("rota/config.freshOf", laid_rota_config_freshOf)] }
def ClockTogetherSaid : Prop := clockTogetherRow.holds Tryd.pinned (OpenSpec.ofChange clockTogetherSpec)

/-- ITS FALSE NEIGHBOUR: 'it returns false'. Refute it at one input. -/
def clockTogetherWrong : ChangeSpec := { name := "clockTogether", fn := fun _ => fun
  | [d1, d2, d3, d4] => { results := [.lit (.bool false)], args := [d1, d2, d3, d4] }
  | _ => none }
def ClockTogetherWrongFalsely : Prop := clockTogetherRow.holds Tryd.pinned (OpenSpec.ofChange clockTogetherWrong)

/- THE SECOND FORM. 'bulk': how many values and letters a reading holds, each counted each time it is reached (what is shared counts as often as it is met; a slice's spare places count too). A statement '..UptoSaid' is the law's where the arguments, and the package variables that the reading takes, are together of bulk at most 1048576: NARROWER than '..Said'. Prove '..Said' where nothing that the law and all that it calls make is longer than what came in: it says more and counts as full. Else prove '..UptoSaid'. A law counts once. -/
mutual
def uptoBulk {H : Type} : DataW H → Nat
  | .lit (.string bytes) => bytes.length + 1
  | .lit _ => 1
  | .nil => 1
  | .ptr d => uptoBulk d + 1
  | .slice elems spare => uptoBulkAll elems + uptoBulkAll spare + 1
  | .agg parts => uptoBulkAll parts + 1
  | .iface _ d => uptoBulk d + 1
  | .map entries => uptoBulkEntries entries + 1
  | .held _ => 1
def uptoBulkAll {H : Type} : List (DataW H) → Nat
  | [] => 0
  | d :: r => uptoBulk d + uptoBulkAll r
def uptoBulkEntries {H : Type} : List (Lit × DataW H) → Nat
  | [] => 0
  | x :: r => uptoBulkEntry x + uptoBulkEntries r
def uptoBulkEntry {H : Type} : Lit × DataW H → Nat
  | (.string bytes, d) => bytes.length + uptoBulk d + 1
  | (_, d) => uptoBulk d + 1
 end
def uptoSmall : (H : Type) → List (DataW H) → Bool := fun _ ds => decide (uptoBulkAll ds ≤ 1048576)
def OpenSpec.upto (s : _root_.Go.ChangeSpec) : _root_.Go.OpenSpec := { _root_.Go.OpenSpec.ofChange s with cond := some uptoSmall }

/-- 'rotalaw06.VlinkBack', WHERE WHAT IT READS IS OF BULK AT MOST 1048576: true; the input reads as it did. -/
def vlinkBackUptoRow : OpenClaim := { program := "ytdfpeilflinmhaadoor", sum := "45b69c0061f764e7026499606dab639cd896781c099dad9a5964a2714560eee0", func := "rota/rotalaw06.VlinkBack", spec := "vlinkBack", unfollowed := true, recurses := true, named := ["rota/config.depthOf", "rota/config.freshOf"], apart := false, laid := [("rota/config.depthOf", laid_rota_config_depthOf), ("rota/config.freshOf", laid_rota_config_freshOf)], narrowed := true }
def VlinkBackUptoSaid : Prop := vlinkBackUptoRow.holds Tryd.pinned (OpenSpec.upto vlinkBackSpec)

/-- 'rotalaw06.VlinkApart', WHERE WHAT IT READS IS OF BULK AT MOST 1048576: true; the input reads as it did. -/
def vlinkApartUptoRow : OpenClaim := { program := "ytdfpeilflinmhaadoor", sum := "45b69c0061f764e7026499606dab639cd896781c099dad9a5964a2714560eee0", func := "rota/rotalaw06.VlinkApart", spec := "vlinkApart", unfollowed := true, recurses := true, named := ["rota/config.depthOf", "rota/config.freshOf"], apart := false, laid := [("rota/config.depthOf", laid_rota_config_depthOf), ("rota/config.freshOf", laid_rota_config_freshOf)], narrowed := true }
def VlinkApartUptoSaid : Prop := vlinkApartUptoRow.holds Tryd.pinned (OpenSpec.upto vlinkApartSpec)

/-- 'rotalaw06.VlinkOnce', WHERE WHAT IT READS IS OF BULK AT MOST 1048576: true; the input reads as it did. -/
def vlinkOnceUptoRow : OpenClaim := { program := "ytdfpeilflinmhaadoor", sum := "45b69c0061f764e7026499606dab639cd896781c099dad9a5964a2714560eee0", func := "rota/rotalaw06.VlinkOnce", spec := "vlinkOnce", unfollowed := true, recurses := true, named := ["rota/config.depthOf", "rota/config.freshOf"], apart := false, laid := [("rota/config.depthOf", laid_rota_config_depthOf), ("rota/config.freshOf", laid_rota_config_freshOf)], narrowed := true }
def VlinkOnceUptoSaid : Prop := vlinkOnceUptoRow.holds Tryd.pinned (OpenSpec.upto vlinkOnceSpec)

/-- 'rotalaw06.VlinkQuiet', WHERE WHAT IT READS IS OF BULK AT MOST 1048576: true; the input reads as it did. -/
def vlinkQuietUptoRow : OpenClaim := { program := "ytdfpeilflinmhaadoor", sum := "45b69c0061f764e7026499606dab639cd896781c099dad9a5964a2714560eee0", func := "rota/rotalaw06.VlinkQuiet", spec := "vlinkQuiet", unfollowed := true, recurses := true, named := ["rota/config.depthOf", "rota/config.freshOf"], apart := false, laid := [("rota/config.depthOf", laid_rota_config_depthOf), ("rota/config.freshOf", laid_rota_config_freshOf)], narrowed := true }
def VlinkQuietUptoSaid : Prop := vlinkQuietUptoRow.holds Tryd.pinned (OpenSpec.upto vlinkQuietSpec)

/-- 'rotalaw07.BusGate', WHERE WHAT IT READS IS OF BULK AT MOST 1048576: true; the input reads as it did. -/
def busGateUptoRow : OpenClaim := { program := "ytdfpeilflinmhaadoor", sum := "45b69c0061f764e7026499606dab639cd896781c099dad9a5964a2714560eee0", func := "rota/rotalaw07.BusGate", spec := "busGate", inPlace := ["sync/atomic.AddUint64", "sync/atomic.LoadUint64"], unfollowed := true, recurses := true, named := ["rota/config.depthOf", "rota/config.freshOf"], apart := false, laid := [("rota/config.depthOf", laid_rota_config_depthOf), ("rota/config.freshOf", laid_rota_config_freshOf)], narrowed := true }
def BusGateUptoSaid : Prop := busGateUptoRow.holds Tryd.pinned (OpenSpec.upto busGateSpec)

/-- 'rotalaw08.ClockPlays', WHERE WHAT IT READS IS OF BULK AT MOST 1048576: true; the input reads as it did. -/
def clockPlaysUptoRow : OpenClaim := { program := "ytdfpeilflinmhaadoor", sum := "45b69c0061f764e7026499606dab639cd896781c099dad9a5964a2714560eee0", func := "rota/rotalaw08.ClockPlays", spec := "clockPlays", unfollowed := true, recurses := true, named := ["rota/config.depthOf", "rota/config.freshOf"], apart := false, laid := [("rota/config.depthOf", laid_rota_config_depthOf), ("rota/config.freshOf", laid_rota_config_freshOf)], narrowed := true }
def ClockPlaysUptoSaid : Prop := clockPlaysUptoRow.holds Tryd.pinned (OpenSpec.upto clockPlaysSpec)

/-- 'rotalaw08.ClockNames', WHERE WHAT IT READS IS OF BULK AT MOST 1048576: true; the input reads as it did. -/
def clockNamesUptoRow : OpenClaim := { program := "ytdfpeilflinmhaadoor", sum := "45b69c0061f764e7026499606dab639cd896781c099dad9a5964a2714560eee0", func := "rota/rotalaw08.ClockNames", spec := "clockNames", unfollowed := true, recurses := true, named := ["rota/config.depthOf", "rota/config.freshOf"], apart := false, laid := [("rota/config.depthOf", laid_rota_config_depthOf), ("rota/config.freshOf", laid_rota_config_freshOf)], narrowed := true }
def ClockNamesUptoSaid : Prop := clockNamesUptoRow.holds Tryd.pinned (OpenSpec.upto clockNamesSpec)

/-- 'rotalaw08.ClockNear', WHERE WHAT IT READS IS OF BULK AT MOST 1048576: true; the input reads as it did. -/
def clockNearUptoRow : OpenClaim := { program := "ytdfpeilflinmhaadoor", sum := "45b69c0061f764e7026499606dab639cd896781c099dad9a5964a2714560eee0", func := "rota/rotalaw08.ClockNear", spec := "clockNear", unfollowed := true, recurses := true, named := ["rota/config.depthOf", "rota/config.freshOf"], apart := false, laid := [("rota/config.depthOf", laid_rota_config_depthOf), ("rota/config.freshOf", laid_rota_config_freshOf)], narrowed := true }
def ClockNearUptoSaid : Prop := clockNearUptoRow.holds Tryd.pinned (OpenSpec.upto clockNearSpec)

/-- 'rotalaw08.ClockTogether', WHERE WHAT IT READS IS OF BULK AT MOST 1048576: true; the input reads as it did. -/
def clockTogetherUptoRow : OpenClaim := { program := "ytdfpeilflinmhaadoor", sum := "45b69c0061f764e7026499606dab639cd896781c099dad9a5964a2714560eee0", func := "rota/rotalaw08.ClockTogether", spec := "clockTogether", unfollowed := true, recurses := true, named := ["rota/config.depthOf", "rota/config.freshOf"], apart := false, laid := [("rota/config.depthOf", laid_rota_config_depthOf), ("rota/config.freshOf", laid_rota_config_freshOf)], narrowed := true }
def ClockTogetherUptoSaid : Prop := clockTogetherUptoRow.holds Tryd.pinned (OpenSpec.upto clockTogetherSpec)

end Rows
end Go.Proofs.YtdfpeilflinmhaaDoor
