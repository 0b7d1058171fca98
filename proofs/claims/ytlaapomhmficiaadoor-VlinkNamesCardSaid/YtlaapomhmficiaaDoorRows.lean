/-
  NARROWER THAN 'FOR EVERY INPUT', by the rows' own cells (each row's printed sentence says how): ConfigTurns: laid · VlinkPacks: laid · VlinkTells: laid · VlinkHands: laid · VlinkNames: laid · VlinkBack: laid · VlinkApart: laid · VlinkOnce: laid · VlinkQuiet: laid · BusPlays: laid · BusNames: laid · BusGate: laid.
  DERIVED. THE GIVEN ROWS OF THIS SEAT. 12 by the template 'for every input the law returns true; each argument reads behind the call as it read before'; 0 by the template 'total and deterministic' (their statements: YtlaapomhmficiaaDoorTotals.lean).
  GIVEN WITH THE SEED: the statements are not yours to turn. If you find one false, say at which input.
  Laid BY PROGRAM, IN A SANDBOX (cutbox-rows.mjs): the forced cells as the released guide's own fill.sh prints them over the translation eadad499ab394077… (all of the seat's roots in one cut). By AI agents, Wed Nov 11 2026. No macro, syntax, notation, axiom, sorry.
-/
import Derived.Test.YtlaapomhmficiaaDoorChecked
import GoSem.Claim
import GoSem.ClaimJoined
import GoSem.ClaimMapViews
import Derived.JoinedTies
import Derived.KernelRfl
namespace Go.Proofs.YtlaapomhmficiaaDoor
/- THE CELL 'sum', in the pinned program and in every row, IS THE sha256 OF THE DUMP (.gsa) THAT YtlaapomhmficiaaDoorProg.lean LOADS. Nothing in Lean hashes anything: it is a label: what it is worth is what the hold of that sum in a sandbox is worth. -/
noncomputable def Tryd.pinned : Pinned := { name := "ytlaapomhmficiaadoor", sum := "eadad499ab3940778bcbea39a67f8400482ebea44ab9830c5f2a5c527464e3a6", checked := Tryd.checked }
namespace Rows
def none {H : Type} : Left H := { results := [], args := [] }

/- WHAT THE LISTED PACKAGE-LEVEL VARIABLES READ AS WHEN THE CALL BEGINS. Each datum BY PROGRAM (the guide's laid-datum.mjs) off the statement by which the dump's own 'gosem.cut.vars' lays the variable. In a bare row this is a premise. The card (YtlaapomhmficiaaDoorCards.lean) ties it to the program's text. -/
def laid_rota_config_depthOf {H : Type} : DataW H := .agg [.agg [.lit (.int .i64 0), .lit (.int .i64 0)], .agg [.lit (.int .i64 0), .lit (.int .i64 0)], .agg [.lit (.int .i64 1), .lit (.int .i64 8)]]
def laid_rota_config_freshOf {H : Type} : DataW H := .agg [.agg [.agg [.lit (.int .i64 0), .lit (.int .i64 0)], .agg [.lit (.int .i64 0), .lit (.int .i64 0)], .agg [.lit (.int .i64 0), .lit (.int .i64 0)]], .agg [.agg [.lit (.int .i64 0), .lit (.int .i64 0)], .agg [.lit (.int .i64 0), .lit (.int .i64 0)], .agg [.lit (.int .i64 1), .lit (.int .i64 65535)]], .agg [.agg [.lit (.int .i64 0), .lit (.int .i64 0)], .agg [.lit (.int .i64 0), .lit (.int .i64 0)], .agg [.lit (.int .i64 0), .lit (.int .i64 0)]]]

/-- 'rotalaw02.ConfigTurns': WHATEVER THE INPUT: true; the input reads as it did. -/
def configTurnsSpec : ChangeSpec := { name := "configTurns", fn := fun _ => fun
  | [d1, d2, d3] => { results := [.lit (.bool true)], args := [d1, d2, d3] }
  | _ => none }
def configTurnsRow : OpenClaim := { program := "ytlaapomhmficiaadoor", sum := "eadad499ab3940778bcbea39a67f8400482ebea44ab9830c5f2a5c527464e3a6", func := "rota/rotalaw02.ConfigTurns", spec := "configTurns", unfollowed := true, recurses := true, named := ["rota/config.depthOf", "rota/config.freshOf"], apart := false, laid := [("rota/config.depthOf", laid_rota_config_depthOf), ("rota/config.freshOf", laid_rota_config_freshOf)] }
def ConfigTurnsSaid : Prop := configTurnsRow.holds Tryd.pinned (OpenSpec.ofChange configTurnsSpec)

/-- ITS FALSE NEIGHBOUR: 'it returns false'. Refute it at one input. -/
def configTurnsWrong : ChangeSpec := { name := "configTurns", fn := fun _ => fun
  | [d1, d2, d3] => { results := [.lit (.bool false)], args := [d1, d2, d3] }
  | _ => none }
def ConfigTurnsWrongFalsely : Prop := configTurnsRow.holds Tryd.pinned (OpenSpec.ofChange configTurnsWrong)

/-- 'rotalaw06.VlinkPacks': WHATEVER THE INPUT: true; the input reads as it did. -/
def vlinkPacksSpec : ChangeSpec := { name := "vlinkPacks", fn := fun _ => fun
  | [d1, d2, d3] => { results := [.lit (.bool true)], args := [d1, d2, d3] }
  | _ => none }
def vlinkPacksRow : OpenClaim := { program := "ytlaapomhmficiaadoor", sum := "eadad499ab3940778bcbea39a67f8400482ebea44ab9830c5f2a5c527464e3a6", func := "rota/rotalaw06.VlinkPacks", spec := "vlinkPacks", unfollowed := true, recurses := true, named := ["rota/config.depthOf", "rota/config.freshOf"], apart := false, laid := [("rota/config.depthOf", laid_rota_config_depthOf), ("rota/config.freshOf", laid_rota_config_freshOf)] }
def VlinkPacksSaid : Prop := vlinkPacksRow.holds Tryd.pinned (OpenSpec.ofChange vlinkPacksSpec)

/-- ITS FALSE NEIGHBOUR: 'it returns false'. Refute it at one input. -/
def vlinkPacksWrong : ChangeSpec := { name := "vlinkPacks", fn := fun _ => fun
  | [d1, d2, d3] => { results := [.lit (.bool false)], args := [d1, d2, d3] }
  | _ => none }
def VlinkPacksWrongFalsely : Prop := vlinkPacksRow.holds Tryd.pinned (OpenSpec.ofChange vlinkPacksWrong)

/-- 'rotalaw06.VlinkTells': WHATEVER THE INPUT: true; the input reads as it did. -/
def vlinkTellsSpec : ChangeSpec := { name := "vlinkTells", fn := fun _ => fun
  | [d1, d2, d3] => { results := [.lit (.bool true)], args := [d1, d2, d3] }
  | _ => none }
def vlinkTellsRow : OpenClaim := { program := "ytlaapomhmficiaadoor", sum := "eadad499ab3940778bcbea39a67f8400482ebea44ab9830c5f2a5c527464e3a6", func := "rota/rotalaw06.VlinkTells", spec := "vlinkTells", unfollowed := true, recurses := true, named := ["rota/config.depthOf", "rota/config.freshOf"], apart := false, laid := [("rota/config.depthOf", laid_rota_config_depthOf), ("rota/config.freshOf", laid_rota_config_freshOf)] }
def VlinkTellsSaid : Prop := vlinkTellsRow.holds Tryd.pinned (OpenSpec.ofChange vlinkTellsSpec)

/-- ITS FALSE NEIGHBOUR: 'it returns false'. Refute it at one input. -/
def vlinkTellsWrong : ChangeSpec := { name := "vlinkTells", fn := fun _ => fun
  | [d1, d2, d3] => { results := [.lit (.bool false)], args := [d1, d2, d3] }
  | _ => none }
def VlinkTellsWrongFalsely : Prop := vlinkTellsRow.holds Tryd.pinned (OpenSpec.ofChange vlinkTellsWrong)

/-- 'rotalaw06.VlinkHands': WHATEVER THE INPUT: true; the input reads as it did. -/
def vlinkHandsSpec : ChangeSpec := { name := "vlinkHands", fn := fun _ => fun
  | [d1, d2, d3] => { results := [.lit (.bool true)], args := [d1, d2, d3] }
  | _ => none }
def vlinkHandsRow : OpenClaim := { program := "ytlaapomhmficiaadoor", sum := "eadad499ab3940778bcbea39a67f8400482ebea44ab9830c5f2a5c527464e3a6", func := "rota/rotalaw06.VlinkHands", spec := "vlinkHands", unfollowed := true, recurses := true, named := ["rota/config.depthOf", "rota/config.freshOf"], apart := false, laid := [("rota/config.depthOf", laid_rota_config_depthOf), ("rota/config.freshOf", laid_rota_config_freshOf)] }
def VlinkHandsSaid : Prop := vlinkHandsRow.holds Tryd.pinned (OpenSpec.ofChange vlinkHandsSpec)

/-- ITS FALSE NEIGHBOUR: 'it returns false'. Refute it at one input. -/
def vlinkHandsWrong : ChangeSpec := { name := "vlinkHands", fn := fun _ => fun
  | [d1, d2, d3] => { results := [.lit (.bool false)], args := [d1, d2, d3] }
  | _ => none }
def VlinkHandsWrongFalsely : Prop := vlinkHandsRow.holds Tryd.pinned (OpenSpec.ofChange vlinkHandsWrong)

/-- 'rotalaw06.VlinkNames': WHATEVER THE INPUT: true; the input reads as it did. -/
def vlinkNamesSpec : ChangeSpec := { name := "vlinkNames", fn := fun _ => fun
  | [] => { results := [.lit (.bool true)], args := [] }
  | _ => none }
def vlinkNamesRow : OpenClaim := { program := "ytlaapomhmficiaadoor", sum := "eadad499ab3940778bcbea39a67f8400482ebea44ab9830c5f2a5c527464e3a6", func := "rota/rotalaw06.VlinkNames", spec := "vlinkNames", unfollowed := true, recurses := true, named := ["rota/config.depthOf", "rota/config.freshOf"], apart := false, laid := [("rota/config.depthOf", laid_rota_config_depthOf), ("rota/config.freshOf", laid_rota_config_freshOf)] }
def VlinkNamesSaid : Prop := vlinkNamesRow.holds Tryd.pinned (OpenSpec.ofChange vlinkNamesSpec)

/-- ITS FALSE NEIGHBOUR: 'it returns false'. Refute it at one input. -/
def vlinkNamesWrong : ChangeSpec := { name := "vlinkNames", fn := fun _ => fun
  | [] => { results := [.lit (.bool false)], args := [] }
  | _ => none }
def VlinkNamesWrongFalsely : Prop := vlinkNamesRow.holds Tryd.pinned (OpenSpec.ofChange vlinkNamesWrong)

/-- 'rotalaw06.VlinkBack': WHATEVER THE INPUT: true; the input reads as it did. -/
def vlinkBackSpec : ChangeSpec := { name := "vlinkBack", fn := fun _ => fun
  | [d1, d2, d3] => { results := [.lit (.bool true)], args := [d1, d2, d3] }
  | _ => none }
def vlinkBackRow : OpenClaim := { program := "ytlaapomhmficiaadoor", sum := "eadad499ab3940778bcbea39a67f8400482ebea44ab9830c5f2a5c527464e3a6", func := "rota/rotalaw06.VlinkBack", spec := "vlinkBack", unfollowed := true, recurses := true, named := ["rota/config.depthOf", "rota/config.freshOf"], apart := false, laid := [("rota/config.depthOf", laid_rota_config_depthOf), ("rota/config.freshOf", laid_rota_config_freshOf)] }
def VlinkBackSaid : Prop := vlinkBackRow.holds Tryd.pinned (OpenSpec.ofChange vlinkBackSpec)

/-- ITS FALSE NEIGHBOUR: 'it returns false'. Refute it at one input. -/
def vlinkBackWrong : ChangeSpec := { name := "vlinkBack", fn := fun _ => fun
  | [d1, d2, d3] => { results := [.lit (.bool false)], args := [d1, d2, d3] }
  | _ => none }
def VlinkBackWrongFalsely : Prop := vlinkBackRow.holds Tryd.pinned (OpenSpec.ofChange vlinkBackWrong)

/-- 'rotalaw06.VlinkApart': WHATEVER THE INPUT: true; the input reads as it did. -/
def vlinkApartSpec : ChangeSpec := { name := "vlinkApart", fn := fun _ => fun
  | [d1, d2, d3] => { results := [.lit (.bool true)], args := [d1, d2, d3] }
  | _ => none }
def vlinkApartRow : OpenClaim := { program := "ytlaapomhmficiaadoor", sum := "eadad499ab3940778bcbea39a67f8400482ebea44ab9830c5f2a5c527464e3a6", func := "rota/rotalaw06.VlinkApart", spec := "vlinkApart", unfollowed := true, recurses := true, named := ["rota/config.depthOf", "rota/config.freshOf"], apart := false, laid := [("rota/config.depthOf", laid_rota_config_depthOf), ("rota/config.freshOf", laid_rota_config_freshOf)] }
def VlinkApartSaid : Prop := vlinkApartRow.holds Tryd.pinned (OpenSpec.ofChange vlinkApartSpec)

/-- ITS FALSE NEIGHBOUR: 'it returns false'. Refute it at one input. -/
def vlinkApartWrong : ChangeSpec := { name := "vlinkApart", fn := fun _ => fun
  | [d1, d2, d3] => { results := [.lit (.bool false)], args := [d1, d2, d3] }
  | _ => none }
def VlinkApartWrongFalsely : Prop := vlinkApartRow.holds Tryd.pinned (OpenSpec.ofChange vlinkApartWrong)

/-- 'rotalaw06.VlinkOnce': WHATEVER THE INPUT: true; the input reads as it did. -/
def vlinkOnceSpec : ChangeSpec := { name := "vlinkOnce", fn := fun _ => fun
  | [d1, d2, d3] => { results := [.lit (.bool true)], args := [d1, d2, d3] }
  | _ => none }
def vlinkOnceRow : OpenClaim := { program := "ytlaapomhmficiaadoor", sum := "eadad499ab3940778bcbea39a67f8400482ebea44ab9830c5f2a5c527464e3a6", func := "rota/rotalaw06.VlinkOnce", spec := "vlinkOnce", unfollowed := true, recurses := true, named := ["rota/config.depthOf", "rota/config.freshOf"], apart := false, laid := [("rota/config.depthOf", laid_rota_config_depthOf), ("rota/config.freshOf", laid_rota_config_freshOf)] }
def VlinkOnceSaid : Prop := vlinkOnceRow.holds Tryd.pinned (OpenSpec.ofChange vlinkOnceSpec)

/-- ITS FALSE NEIGHBOUR: 'it returns false'. Refute it at one input. -/
def vlinkOnceWrong : ChangeSpec := { name := "vlinkOnce", fn := fun _ => fun
  | [d1, d2, d3] => { results := [.lit (.bool false)], args := [d1, d2, d3] }
  | _ => none }
def VlinkOnceWrongFalsely : Prop := vlinkOnceRow.holds Tryd.pinned (OpenSpec.ofChange vlinkOnceWrong)

/-- 'rotalaw06.VlinkQuiet': WHATEVER THE INPUT: true; the input reads as it did. -/
def vlinkQuietSpec : ChangeSpec := { name := "vlinkQuiet", fn := fun _ => fun
  | [d1, d2, d3] => { results := [.lit (.bool true)], args := [d1, d2, d3] }
  | _ => none }
def vlinkQuietRow : OpenClaim := { program := "ytlaapomhmficiaadoor", sum := "eadad499ab3940778bcbea39a67f8400482ebea44ab9830c5f2a5c527464e3a6", func := "rota/rotalaw06.VlinkQuiet", spec := "vlinkQuiet", unfollowed := true, recurses := true, named := ["rota/config.depthOf", "rota/config.freshOf"], apart := false, laid := [("rota/config.depthOf", laid_rota_config_depthOf), ("rota/config.freshOf", laid_rota_config_freshOf)] }
def VlinkQuietSaid : Prop := vlinkQuietRow.holds Tryd.pinned (OpenSpec.ofChange vlinkQuietSpec)

/-- ITS FALSE NEIGHBOUR: 'it returns false'. Refute it at one input. -/
def vlinkQuietWrong : ChangeSpec := { name := "vlinkQuiet", fn := fun _ => fun
  | [d1, d2, d3] => { results := [.lit (.bool false)], args := [d1, d2, d3] }
  | _ => none }
def VlinkQuietWrongFalsely : Prop := vlinkQuietRow.holds Tryd.pinned (OpenSpec.ofChange vlinkQuietWrong)

/-- 'rotalaw07.BusPlays': WHATEVER THE INPUT: true; the input reads as it did. -/
def busPlaysSpec : ChangeSpec := { name := "busPlays", fn := fun _ => fun
  | [d1, d2] => { results := [.lit (.bool true)], args := [d1, d2] }
  | _ => none }
def busPlaysRow : OpenClaim := { program := "ytlaapomhmficiaadoor", sum := "eadad499ab3940778bcbea39a67f8400482ebea44ab9830c5f2a5c527464e3a6", func := "rota/rotalaw07.BusPlays", spec := "busPlays", inPlace := ["sync/atomic.AddUint64", "sync/atomic.LoadUint64"], unfollowed := true, recurses := true, named := ["rota/config.depthOf", "rota/config.freshOf"], apart := false, laid := [("rota/config.depthOf", laid_rota_config_depthOf), ("rota/config.freshOf", laid_rota_config_freshOf)] }
def BusPlaysSaid : Prop := busPlaysRow.holds Tryd.pinned (OpenSpec.ofChange busPlaysSpec)

/-- ITS FALSE NEIGHBOUR: 'it returns false'. Refute it at one input. -/
def busPlaysWrong : ChangeSpec := { name := "busPlays", fn := fun _ => fun
  | [d1, d2] => { results := [.lit (.bool false)], args := [d1, d2] }
  | _ => none }
def BusPlaysWrongFalsely : Prop := busPlaysRow.holds Tryd.pinned (OpenSpec.ofChange busPlaysWrong)

/-- 'rotalaw07.BusNames': WHATEVER THE INPUT: true; the input reads as it did. -/
def busNamesSpec : ChangeSpec := { name := "busNames", fn := fun _ => fun
  | [] => { results := [.lit (.bool true)], args := [] }
  | _ => none }
def busNamesRow : OpenClaim := { program := "ytlaapomhmficiaadoor", sum := "eadad499ab3940778bcbea39a67f8400482ebea44ab9830c5f2a5c527464e3a6", func := "rota/rotalaw07.BusNames", spec := "busNames", inPlace := ["sync/atomic.AddUint64", "sync/atomic.LoadUint64"], unfollowed := true, recurses := true, named := ["rota/config.depthOf", "rota/config.freshOf"], apart := false, laid := [("rota/config.depthOf", laid_rota_config_depthOf), ("rota/config.freshOf", laid_rota_config_freshOf)] }
def BusNamesSaid : Prop := busNamesRow.holds Tryd.pinned (OpenSpec.ofChange busNamesSpec)

/-- ITS FALSE NEIGHBOUR: 'it returns false'. Refute it at one input. -/
def busNamesWrong : ChangeSpec := { name := "busNames", fn := fun _ => fun
  | [] => { results := [.lit (.bool false)], args := [] }
  | _ => none }
def BusNamesWrongFalsely : Prop := busNamesRow.holds Tryd.pinned (OpenSpec.ofChange busNamesWrong)

/-- 'rotalaw07.BusGate': WHATEVER THE INPUT: true; the input reads as it did. -/
def busGateSpec : ChangeSpec := { name := "busGate", fn := fun _ => fun
  | [d1, d2, d3] => { results := [.lit (.bool true)], args := [d1, d2, d3] }
  | _ => none }
def busGateRow : OpenClaim := { program := "ytlaapomhmficiaadoor", sum := "eadad499ab3940778bcbea39a67f8400482ebea44ab9830c5f2a5c527464e3a6", func := "rota/rotalaw07.BusGate", spec := "busGate", inPlace := ["sync/atomic.AddUint64", "sync/atomic.LoadUint64"], unfollowed := true, recurses := true, named := ["rota/config.depthOf", "rota/config.freshOf"], apart := false, laid := [("rota/config.depthOf", laid_rota_config_depthOf), ("rota/config.freshOf", laid_rota_config_freshOf)] }
def BusGateSaid : Prop := busGateRow.holds Tryd.pinned (OpenSpec.ofChange busGateSpec)

/-- ITS FALSE NEIGHBOUR: 'it returns false'. Refute it at one input. -/
def busGateWrong : ChangeSpec := { name := "busGate", fn := fun _ => fun
  | [d1, d2, d3] => { results := [.lit (.bool false)], args := [d1, d2, d3] }
  | _ => none }
def BusGateWrongFalsely : Prop := busGateRow.holds Tryd.pinned (OpenSpec.ofChange busGateWrong)

/- THE SECOND FORM. 'bulk': how many values and letters a reading holds, each counted each time it is reached (what is shared counts as often as it is met; a slice's spare places count too). A statement '..UptoSaid' is the law's where the arguments, and the package variables that the reading takes, are together of bulk at most 1048576: NARROWER than '..Said'. Prove '..Said' where nothing that the law and all that it calls make is longer than what came in: it says more and counts as full. Else prove '..UptoSaid'. A law counts once. -/
mutual
def uptoBulk {H : Type} : DataW H → Nat
  | .lit (.string bytes) => bytes.length + 1
  | .lit _ => 1
  | .nil => 1
  | .ptr d => uptoBulk d + 1
  | .slice elems spare => uptoBulkAll elems + uptoBulkAll spare + 1
  | .agg parts => uptoBulkAll parts + 1
  | .iface _ d => uptoBulk d + 1
  | .map entries => uptoBulkEntries entries + 1
  | .held _ => 1
def uptoBulkAll {H : Type} : List (DataW H) → Nat
  | [] => 0
  | d :: r => uptoBulk d + uptoBulkAll r
def uptoBulkEntries {H : Type} : List (Lit × DataW H) → Nat
  | [] => 0
  | x :: r => uptoBulkEntry x + uptoBulkEntries r
def uptoBulkEntry {H : Type} : Lit × DataW H → Nat
  | (.string bytes, d) => bytes.length + uptoBulk d + 1
  | (_, d) => uptoBulk d + 1
 end
def uptoSmall : (H : Type) → List (DataW H) → Bool := fun _ ds => decide (uptoBulkAll ds ≤ 1048576)
def OpenSpec.upto (s : _root_.Go.ChangeSpec) : _root_.Go.OpenSpec := { _root_.Go.OpenSpec.ofChange s with cond := some uptoSmall }

/-- 'rotalaw02.ConfigTurns', WHERE WHAT IT READS IS OF BULK AT MOST 1048576: true; the input reads as it did. -/
def configTurnsUptoRow : OpenClaim := { program := "ytlaapomhmficiaadoor", sum := "eadad499ab3940778bcbea39a67f8400482ebea44ab9830c5f2a5c527464e3a6", func := "rota/rotalaw02.ConfigTurns", spec := "configTurns", unfollowed := true, recurses := true, named := ["rota/config.depthOf", "rota/config.freshOf"], apart := false, laid := [("rota/config.depthOf", laid_rota_config_depthOf), ("rota/config.freshOf", laid_rota_config_freshOf)], narrowed := true }
def ConfigTurnsUptoSaid : Prop := configTurnsUptoRow.holds Tryd.pinned (OpenSpec.upto configTurnsSpec)

/-- 'rotalaw06.VlinkPacks', WHERE WHAT IT READS IS OF BULK AT MOST 1048576: true; the input reads as it did. -/
def vlinkPacksUptoRow : OpenClaim := { program := "ytlaapomhmficiaadoor", sum := "eadad499ab3940778bcbea39a67f8400482ebea44ab9830c5f2a5c527464e3a6", func := "rota/rotalaw06.VlinkPacks", spec := "vlinkPacks", unfollowed := true, recurses := true, named := ["rota/config.depthOf", "rota/config.freshOf"], apart := false, laid := [("rota/config.depthOf", laid_rota_config_depthOf), ("rota/config.freshOf", laid_rota_config_freshOf)], narrowed := true }
def VlinkPacksUptoSaid : Prop := vlinkPacksUptoRow.holds Tryd.pinned (OpenSpec.upto vlinkPacksSpec)

/-- 'rotalaw06.VlinkTells', WHERE WHAT IT READS IS OF BULK AT MOST 1048576: true; the input reads as it did. -/
def vlinkTellsUptoRow : OpenClaim := { program := "ytlaapomhmficiaadoor", sum := "eadad499ab3940778bcbea39a67f8400482ebea44ab9830c5f2a5c527464e3a6", func := "rota/rotalaw06.VlinkTells", spec := "vlinkTells", unfollowed := true, recurses := true, named := ["rota/config.depthOf", "rota/config.freshOf"], apart := false, laid := [("rota/config.depthOf", laid_rota_config_depthOf), ("rota/config.freshOf", laid_rota_config_freshOf)], narrowed := true }
def VlinkTellsUptoSaid : Prop := vlinkTellsUptoRow.holds Tryd.pinned (OpenSpec.upto vlinkTellsSpec)

/-- 'rotalaw06.VlinkHands', WHERE WHAT IT READS IS OF BULK AT MOST 1048576: true; the input reads as it did. -/
def vlinkHandsUptoRow : OpenClaim := { program := "ytlaapomhmficiaadoor", sum := "eadad499ab3940778bcbea39a67f8400482ebea44ab9830c5f2a5c527464e3a6", func := "rota/rotalaw06.VlinkHands", spec := "vlinkHands", unfollowed := true, recurses := true, named := ["rota/config.depthOf", "rota/config.freshOf"], apart := false, laid := [("rota/config.depthOf", laid_rota_config_depthOf), ("rota/config.freshOf", laid_rota_config_freshOf)], narrowed := true }
def VlinkHandsUptoSaid : Prop := vlinkHandsUptoRow.holds Tryd.pinned (OpenSpec.upto vlinkHandsSpec)

/-- 'rotalaw06.VlinkNames', WHERE WHAT IT READS IS OF BULK AT MOST 1048576: true; the input reads as it did. -/
def vlinkNamesUptoRow : OpenClaim := { program := "ytlaapomhmficiaadoor", sum := "eadad499ab3940778bcbea39a67f8400482ebea44ab9830c5f2a5c527464e3a6", func := "rota/rotalaw06.VlinkNames", spec := "vlinkNames", unfollowed := true, recurses := true, named := ["rota/config.depthOf", "rota/config.freshOf"], apart := false, laid := [("rota/config.depthOf", laid_rota_config_depthOf), ("rota/config.freshOf", laid_rota_config_freshOf)], narrowed := true }
def VlinkNamesUptoSaid : Prop := vlinkNamesUptoRow.holds Tryd.pinned (OpenSpec.upto vlinkNamesSpec)

/-- 'rotalaw06.VlinkBack', WHERE WHAT IT READS IS OF BULK AT MOST 1048576: true; the input reads as it did. -/
def vlinkBackUptoRow : OpenClaim := { program := "ytlaapomhmficiaadoor", sum := "eadad499ab3940778bcbea39a67f8400482ebea44ab9830c5f2a5c527464e3a6", func := "rota/rotalaw06.VlinkBack", spec := "vlinkBack", unfollowed := true, recurses := true, named := ["rota/config.depthOf", "rota/config.freshOf"], apart := false, laid := [("rota/config.depthOf", laid_rota_config_depthOf), ("rota/config.freshOf", laid_rota_config_freshOf)], narrowed := true }
def VlinkBackUptoSaid : Prop := vlinkBackUptoRow.holds Tryd.pinned (OpenSpec.upto vlinkBackSpec)

/-- 'rotalaw06.VlinkApart', WHERE WHAT IT READS IS OF BULK AT MOST 1048576: true; the input reads as it did. -/
def vlinkApartUptoRow : OpenClaim := { program := "ytlaapomhmficiaadoor", sum := "eadad499ab3940778bcbea39a67f8400482ebea44ab9830c5f2a5c527464e3a6", func := "rota/rotalaw06.VlinkApart", spec := "vlinkApart", unfollowed := true, recurses := true, named := ["rota/config.depthOf", "rota/config.freshOf"], apart := false, laid := [("rota/config.depthOf", laid_rota_config_depthOf), ("rota/config.freshOf", laid_rota_config_freshOf)], narrowed := true }
def VlinkApartUptoSaid : Prop := vlinkApartUptoRow.holds Tryd.pinned (OpenSpec.upto vlinkApartSpec)

/-- 'rotalaw06.VlinkOnce', WHERE WHAT IT READS IS OF BULK AT MOST 1048576: true; the input reads as it did. -/
def vlinkOnceUptoRow : OpenClaim := { program := "ytlaapomhmficiaadoor", sum := "eadad499ab3940778bcbea39a67f8400482ebea44ab9830c5f2a5c527464e3a6", func := "rota/rotalaw06.VlinkOnce", spec := "vlinkOnce", unfollowed := true, recurses := true, named := ["rota/config.depthOf", "rota/config.freshOf"], apart := false, laid := [("rota/config.depthOf", laid_rota_config_depthOf), ("rota/config.freshOf", laid_rota_config_freshOf)], narrowed := true }
def VlinkOnceUptoSaid : Prop := vlinkOnceUptoRow.holds Tryd.pinned (OpenSpec.upto vlinkOnceSpec)

/-- 'rotalaw06.VlinkQuiet', WHERE WHAT IT READS IS OF BULK AT MOST 1048576: true; the input reads as it did. -/
def vlinkQuietUptoRow : OpenClaim := { program := "ytlaapomhmficiaadoor", sum := "eadad499ab3940778bcbea39a67f8400482ebea44ab9830c5f2a5c527464e3a6", func := "rota/rotalaw06.VlinkQuiet", spec := "vlinkQuiet", unfollowed := true, recurses := true, named := ["rota/config.depthOf", "rota/config.freshOf"], apart := false, laid := [("rota/config.depthOf", laid_rota_config_depthOf), ("rota/config.freshOf", laid_rota_config_freshOf)], narrowed := true }
def VlinkQuietUptoSaid : Prop := vlinkQuietUptoRow.holds Tryd.pinned (OpenSpec.upto vlinkQuietSpec)

/-- 'rotalaw07.BusPlays', WHERE WHAT IT READS IS OF BULK AT MOST 1048576: true; the input reads as it did. -/
def busPlaysUptoRow : OpenClaim := { program := "ytlaapomhmficiaadoor", sum := "eadad499ab3940778bcbea39a67f8400482ebea44ab9830c5f2a5c527464e3a6", func := "rota/rotalaw07.BusPlays", spec := "busPlays", inPlace := ["sync/atomic.AddUint64", "sync/atomic.LoadUint64"], unfollowed := true, recurses := true, named := ["rota/config.depthOf", "rota/config.freshOf"], apart := false, laid := [("rota/config.depthOf", laid_rota_config_depthOf), ("rota/config.freshOf", laid_rota_config_freshOf)], narrowed := true }
def BusPlaysUptoSaid : Prop := busPlaysUptoRow.holds Tryd.pinned (OpenSpec.upto busPlaysSpec)

/-- 'rotalaw07.BusNames', WHERE WHAT IT READS IS OF BULK AT MOST 1048576: true; the input reads as it did. -/
def busNamesUptoRow : OpenClaim := { program := "ytlaapomhmficiaadoor", sum := "eadad499ab3940778bcbea39a67f8400482ebea44ab9830c5f2a5c527464e3a6", func := "rota/rotalaw07.BusNames", spec := "busNames", inPlace := ["sync/atomic.AddUint64", "sync/atomic.LoadUint64"], unfollowed := true, recurses := true, named := ["rota/config.depthOf", "rota/config.freshOf"], apart := false, laid := [("rota/config.depthOf", laid_rota_config_depthOf), ("rota/config.freshOf", laid_rota_config_freshOf)], narrowed := true }
def BusNamesUptoSaid : Prop := busNamesUptoRow.holds Tryd.pinned (OpenSpec.upto busNamesSpec)

/-- 'rotalaw07.BusGate', WHERE WHAT IT READS IS OF BULK AT MOST 1048576: true; the input reads as it did. -/
def busGateUptoRow : OpenClaim := { program := "ytlaapomhmficiaadoor", sum := "eadad499ab3940778bcbea39a67f8400482ebea44ab9830c5f2a5c527464e3a6", func := "rota/rotalaw07.BusGate", spec := "busGate", inPlace := ["sync/atomic.AddUint64", "sync/atomic.LoadUint64"], unfollowed := true, recurses := true, named := ["rota/config.depthOf", "rota/config.freshOf"], apart := false, laid := [("rota/config.depthOf", laid_rota_config_depthOf), ("rota/config.freshOf", laid_rota_config_freshOf)], narrowed := true }
def BusGateUptoSaid : Prop := busGateUptoRow.holds Tryd.pinned (OpenSpec.upto busGateSpec)

end Rows
end Go.Proofs.YtlaapomhmficiaaDoor
