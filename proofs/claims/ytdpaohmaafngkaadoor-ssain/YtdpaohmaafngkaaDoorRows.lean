/-
  NARROWER THAN 'FOR EVERY INPUT', by the rows' own cells (each row's printed sentence says how): SsaLine: laid · SsaOnce: laid · SsaSays: laid · SsaIn: laid · SsaPhis: laid · SsaReads: laid.
  DERIVED. THE GIVEN ROWS OF THIS SEAT. 6 by the template 'for every input the law returns true; each argument reads behind the call as it read before'; 0 by the template 'total and deterministic' (their statements: YtdpaohmaafngkaaDoorTotals.lean).
  GIVEN WITH THE SEED: the statements are not yours to turn. If you find one false, say at which input.
  Laid BY PROGRAM, IN A SANDBOX (cutbox-rows.mjs): the forced cells as the released guide's own fill.sh prints them over the translation b7b718738e7e0471… (all of the seat's roots in one cut). By AI agents, Wed Nov 11 2026. No macro, syntax, notation, axiom, sorry.
-/
import Derived.Test.YtdpaohmaafngkaaDoorChecked
import GoSem.Claim
import GoSem.ClaimJoined
import GoSem.ClaimMapViews
import Derived.JoinedTies
import Derived.KernelRfl
namespace Go.Proofs.YtdpaohmaafngkaaDoor
/- THE CELL 'sum', in the pinned program and in every row, IS THE sha256 OF THE DUMP (.gsa) THAT YtdpaohmaafngkaaDoorProg.lean LOADS. Nothing in Lean hashes anything: it is a label: what it is worth is what the hold of that sum in a sandbox is worth. -/
noncomputable def Tryd.pinned : Pinned := { name := "ytdpaohmaafngkaadoor", sum := "b7b718738e7e04710269f34908f215a19de79fec31bebee1fa3fb61ef4beab23", checked := Tryd.checked }
namespace Rows
def none {H : Type} : Left H := { results := [], args := [] }

/- WHAT THE LISTED PACKAGE-LEVEL VARIABLES READ AS WHEN THE CALL BEGINS. Each datum BY PROGRAM (the guide's laid-datum.mjs) off the statement by which the dump's own 'gosem.cut.vars' lays the variable. In a bare row this is a premise. The card (YtdpaohmaafngkaaDoorCards.lean) ties it to the program's text. -/
def laid_tierline_ops_parts {H : Type} : DataW H := .agg [.lit (.int .i64 0), .lit (.int .i64 9), .lit (.int .i64 7), .lit (.int .i64 7), .lit (.int .i64 7), .lit (.int .i64 7), .lit (.int .i64 7), .lit (.int .i64 7), .lit (.int .i64 7), .lit (.int .i64 7), .lit (.int .i64 7), .lit (.int .i64 7), .lit (.int .i64 7), .lit (.int .i64 3), .lit (.int .i64 6), .lit (.int .i64 16), .lit (.int .i64 18), .lit (.int .i64 39), .lit (.int .i64 3), .lit (.int .i64 2)]
def laid_tierline_ops_callReads {H : Type} : DataW H := .agg [.lit (.int .i64 0), .lit (.int .i64 2), .lit (.int .i64 6)]

/-- 'tierlinekeep.SsaLine': WHATEVER THE INPUT: true; the input reads as it did. -/
def ssaLineSpec : ChangeSpec := { name := "ssaLine", fn := fun _ => fun
  | [d] => { results := [.lit (.bool true)], args := [d] }
  | _ => none }
def ssaLineRow : OpenClaim := { program := "ytdpaohmaafngkaadoor", sum := "b7b718738e7e04710269f34908f215a19de79fec31bebee1fa3fb61ef4beab23", func := "tierline/tierlinekeep.SsaLine", spec := "ssaLine", unfollowed := true, recurses := true, named := ["tierline/ops.parts", "tierline/ops.callReads"], apart := false, laid := [("tierline/ops.parts", laid_tierline_ops_parts), ("tierline/ops.callReads", laid_tierline_ops_callReads)] }
def SsaLineSaid : Prop := ssaLineRow.holds Tryd.pinned (OpenSpec.ofChange ssaLineSpec)

/-- ITS FALSE NEIGHBOUR: 'it returns false'. Refute it at one input. -/
def ssaLineWrong : ChangeSpec := { name := "ssaLine", fn := fun _ => fun
  | [d] => { results := [.lit (.bool false)], args := [d] }
  | _ => none }
def SsaLineWrongFalsely : Prop := ssaLineRow.holds Tryd.pinned (OpenSpec.ofChange ssaLineWrong)

/-- 'tierlinekeep.SsaOnce': WHATEVER THE INPUT: true; the input reads as it did. -/
def ssaOnceSpec : ChangeSpec := { name := "ssaOnce", fn := fun _ => fun
  | [d1, d2] => { results := [.lit (.bool true)], args := [d1, d2] }
  | _ => none }
def ssaOnceRow : OpenClaim := { program := "ytdpaohmaafngkaadoor", sum := "b7b718738e7e04710269f34908f215a19de79fec31bebee1fa3fb61ef4beab23", func := "tierline/tierlinekeep.SsaOnce", spec := "ssaOnce", unfollowed := true, recurses := true, named := ["tierline/ops.parts", "tierline/ops.callReads"], apart := false, laid := [("tierline/ops.parts", laid_tierline_ops_parts), ("tierline/ops.callReads", laid_tierline_ops_callReads)] }
def SsaOnceSaid : Prop := ssaOnceRow.holds Tryd.pinned (OpenSpec.ofChange ssaOnceSpec)

/-- ITS FALSE NEIGHBOUR: 'it returns false'. Refute it at one input. -/
def ssaOnceWrong : ChangeSpec := { name := "ssaOnce", fn := fun _ => fun
  | [d1, d2] => { results := [.lit (.bool false)], args := [d1, d2] }
  | _ => none }
def SsaOnceWrongFalsely : Prop := ssaOnceRow.holds Tryd.pinned (OpenSpec.ofChange ssaOnceWrong)

/-- 'tierlinekeep.SsaSays': WHATEVER THE INPUT: true; the input reads as it did. -/
def ssaSaysSpec : ChangeSpec := { name := "ssaSays", fn := fun _ => fun
  | [d1, d2] => { results := [.lit (.bool true)], args := [d1, d2] }
  | _ => none }
def ssaSaysRow : OpenClaim := { program := "ytdpaohmaafngkaadoor", sum := "b7b718738e7e04710269f34908f215a19de79fec31bebee1fa3fb61ef4beab23", func := "tierline/tierlinekeep.SsaSays", spec := "ssaSays", unfollowed := true, recurses := true, named := ["tierline/ops.parts", "tierline/ops.callReads"], apart := false, laid := [("tierline/ops.parts", laid_tierline_ops_parts), ("tierline/ops.callReads", laid_tierline_ops_callReads)] }
def SsaSaysSaid : Prop := ssaSaysRow.holds Tryd.pinned (OpenSpec.ofChange ssaSaysSpec)

/-- ITS FALSE NEIGHBOUR: 'it returns false'. Refute it at one input. -/
def ssaSaysWrong : ChangeSpec := { name := "ssaSays", fn := fun _ => fun
  | [d1, d2] => { results := [.lit (.bool false)], args := [d1, d2] }
  | _ => none }
def SsaSaysWrongFalsely : Prop := ssaSaysRow.holds Tryd.pinned (OpenSpec.ofChange ssaSaysWrong)

/-- 'tierlinekeep.SsaIn': WHATEVER THE INPUT: true; the input reads as it did. -/
def ssaInSpec : ChangeSpec := { name := "ssaIn", fn := fun _ => fun
  | [d1, d2] => { results := [.lit (.bool true)], args := [d1, d2] }
  | _ => none }
def ssaInRow : OpenClaim := { program := "ytdpaohmaafngkaadoor", sum := "b7b718738e7e04710269f34908f215a19de79fec31bebee1fa3fb61ef4beab23", func := "tierline/tierlinekeep.SsaIn", spec := "ssaIn", unfollowed := true, recurses := true, named := ["tierline/ops.parts", "tierline/ops.callReads"], apart := false, laid := [("tierline/ops.parts", laid_tierline_ops_parts), ("tierline/ops.callReads", laid_tierline_ops_callReads)] }
def SsaInSaid : Prop := ssaInRow.holds Tryd.pinned (OpenSpec.ofChange ssaInSpec)

/-- ITS FALSE NEIGHBOUR: 'it returns false'. Refute it at one input. -/
def ssaInWrong : ChangeSpec := { name := "ssaIn", fn := fun _ => fun
  | [d1, d2] => { results := [.lit (.bool false)], args := [d1, d2] }
  | _ => none }
def SsaInWrongFalsely : Prop := ssaInRow.holds Tryd.pinned (OpenSpec.ofChange ssaInWrong)

/-- 'tierlinekeep.SsaPhis': WHATEVER THE INPUT: true; the input reads as it did. -/
def ssaPhisSpec : ChangeSpec := { name := "ssaPhis", fn := fun _ => fun
  | [d1, d2] => { results := [.lit (.bool true)], args := [d1, d2] }
  | _ => none }
def ssaPhisRow : OpenClaim := { program := "ytdpaohmaafngkaadoor", sum := "b7b718738e7e04710269f34908f215a19de79fec31bebee1fa3fb61ef4beab23", func := "tierline/tierlinekeep.SsaPhis", spec := "ssaPhis", unfollowed := true, recurses := true, named := ["tierline/ops.parts", "tierline/ops.callReads"], apart := false, laid := [("tierline/ops.parts", laid_tierline_ops_parts), ("tierline/ops.callReads", laid_tierline_ops_callReads)] }
def SsaPhisSaid : Prop := ssaPhisRow.holds Tryd.pinned (OpenSpec.ofChange ssaPhisSpec)

/-- ITS FALSE NEIGHBOUR: 'it returns false'. Refute it at one input. -/
def ssaPhisWrong : ChangeSpec := { name := "ssaPhis", fn := fun _ => fun
  | [d1, d2] => { results := [.lit (.bool false)], args := [d1, d2] }
  | _ => none }
def SsaPhisWrongFalsely : Prop := ssaPhisRow.holds Tryd.pinned (OpenSpec.ofChange ssaPhisWrong)

/-- 'tierlinekeep.SsaReads': WHATEVER THE INPUT: true; the input reads as it did. -/
def ssaReadsSpec : ChangeSpec := { name := "ssaReads", fn := fun _ => fun
  | [d1, d2] => { results := [.lit (.bool true)], args := [d1, d2] }
  | _ => none }
def ssaReadsRow : OpenClaim := { program := "ytdpaohmaafngkaadoor", sum := "b7b718738e7e04710269f34908f215a19de79fec31bebee1fa3fb61ef4beab23", func := "tierline/tierlinekeep.SsaReads", spec := "ssaReads", unfollowed := true, recurses := true, named := ["tierline/ops.parts", "tierline/ops.callReads"], apart := false, laid := [("tierline/ops.parts", laid_tierline_ops_parts), ("tierline/ops.callReads", laid_tierline_ops_callReads)] }
def SsaReadsSaid : Prop := ssaReadsRow.holds Tryd.pinned (OpenSpec.ofChange ssaReadsSpec)

/-- ITS FALSE NEIGHBOUR: 'it returns false'. Refute it at one input. -/
def ssaReadsWrong : ChangeSpec := { name := "ssaReads", fn := fun _ => fun
  | [d1, d2] => { results := [.lit (.bool false)], args := [d1, d2] }
  | _ => none }
def SsaReadsWrongFalsely : Prop := ssaReadsRow.holds Tryd.pinned (OpenSpec.ofChange ssaReadsWrong)

/- THE SECOND FORM. 'bulk': how many values and letters a reading holds, each counted each time it is reached (what is shared counts as often as it is met; a slice's spare places count too). A statement '..UptoSaid' is the law's where the arguments, and the package variables that the reading takes, are together of bulk at most 1048576: NARROWER than '..Said'. Prove '..Said' where nothing that the law and all that it calls make is longer than what came in: it says more and counts as full. Else prove '..UptoSaid'. A law counts once. -/
mutual
def uptoBulk {H : Type} : DataW H → Nat
  | .lit (.string bytes) => bytes.length + 1
  | .lit _ => 1
  | .nil => 1
  | .ptr d => uptoBulk d + 1
  | .slice elems spare => uptoBulkAll elems + uptoBulkAll spare + 1
  | .agg parts => uptoBulkAll parts + 1
  | .iface _ d => uptoBulk d + 1
  | .map entries => uptoBulkEntries entries + 1
  | .held _ => 1
def uptoBulkAll {H : Type} : List (DataW H) → Nat
  | [] => 0
  | d :: r => uptoBulk d + uptoBulkAll r
def uptoBulkEntries {H : Type} : List (Lit × DataW H) → Nat
  | [] => 0
  | x :: r => uptoBulkEntry x + uptoBulkEntries r
def uptoBulkEntry {H : Type} : Lit × DataW H → Nat
  | (.string bytes, d) => bytes.length + uptoBulk d + 1
  | (_, d) => uptoBulk d + 1
 end
def uptoSmall : (H : Type) → List (DataW H) → Bool := fun _ ds => decide (uptoBulkAll ds ≤ 1048576)
def OpenSpec.upto (s : _root_.Go.ChangeSpec) : _root_.Go.OpenSpec := { _root_.Go.OpenSpec.ofChange s with cond := some uptoSmall }

/-- 'tierlinekeep.SsaLine', WHERE WHAT IT READS IS OF BULK AT MOST 1048576: true; the input reads as it did. -/
def ssaLineUptoRow : OpenClaim := { program := "ytdpaohmaafngkaadoor", sum := "b7b718738e7e04710269f34908f215a19de79fec31bebee1fa3fb61ef4beab23", func := "tierline/tierlinekeep.SsaLine", spec := "ssaLine", unfollowed := true, recurses := true, named := ["tierline/ops.parts", "tierline/ops.callReads"], apart := false, laid := [("tierline/ops.parts", laid_tierline_ops_parts), ("tierline/ops.callReads", laid_tierline_ops_callReads)], narrowed := true }
def SsaLineUptoSaid : Prop := ssaLineUptoRow.holds Tryd.pinned (OpenSpec.upto ssaLineSpec)

/-- 'tierlinekeep.SsaOnce', WHERE WHAT IT READS IS OF BULK AT MOST 1048576: true; the input reads as it did. -/
def ssaOnceUptoRow : OpenClaim := { program := "ytdpaohmaafngkaadoor", sum := "b7b718738e7e04710269f34908f215a19de79fec31bebee1fa3fb61ef4beab23", func := "tierline/tierlinekeep.SsaOnce", spec := "ssaOnce", unfollowed := true, recurses := true, named := ["tierline/ops.parts", "tierline/ops.callReads"], apart := false, laid := [("tierline/ops.parts", laid_tierline_ops_parts), ("tierline/ops.callReads", laid_tierline_ops_callReads)], narrowed := true }
def SsaOnceUptoSaid : Prop := ssaOnceUptoRow.holds Tryd.pinned (OpenSpec.upto ssaOnceSpec)

/-- 'tierlinekeep.SsaSays', WHERE WHAT IT READS IS OF BULK AT MOST 1048576: true; the input reads as it did. -/
def ssaSaysUptoRow : OpenClaim := { program := "ytdpaohmaafngkaadoor", sum := "b7b718738e7e04710269f34908f215a19de79fec31bebee1fa3fb61ef4beab23", func := "tierline/tierlinekeep.SsaSays", spec := "ssaSays", unfollowed := true, recurses := true, named := ["tierline/ops.parts", "tierline/ops.callReads"], apart := false, laid := [("tierline/ops.parts", laid_tierline_ops_parts), ("tierline/ops.callReads", laid_tierline_ops_callReads)], narrowed := true }
def SsaSaysUptoSaid : Prop := ssaSaysUptoRow.holds Tryd.pinned (OpenSpec.upto ssaSaysSpec)

/-- 'tierlinekeep.SsaIn', WHERE WHAT IT READS IS OF BULK AT MOST 1048576: true; the input reads as it did. -/
def ssaInUptoRow : OpenClaim := { program := "ytdpaohmaafngkaadoor", sum := "b7b718738e7e04710269f34908f215a19de79fec31bebee1fa3fb61ef4beab23", func := "tierline/tierlinekeep.SsaIn", spec := "ssaIn", unfollowed := true, recurses := true, named := ["tierline/ops.parts", "tierline/ops.callReads"], apart := false, laid := [("tierline/ops.parts", laid_tierline_ops_parts), ("tierline/ops.callReads", laid_tierline_ops_callReads)], narrowed := true }
def SsaInUptoSaid : Prop := ssaInUptoRow.holds Tryd.pinned (OpenSpec.upto ssaInSpec)

/-- 'tierlinekeep.SsaPhis', WHERE WHAT IT READS IS OF BULK AT MOST 1048576: true; the input reads as it did. -/
def ssaPhisUptoRow : OpenClaim := { program := "ytdpaohmaafngkaadoor", sum := "b7b718738e7e04710269f34908f215a19de79fec31bebee1fa3fb61ef4beab23", func := "tierline/tierlinekeep.SsaPhis", spec := "ssaPhis", unfollowed := true, recurses := true, named := ["tierline/ops.parts", "tierline/ops.callReads"], apart := false, laid := [("tierline/ops.parts", laid_tierline_ops_parts), ("tierline/ops.callReads", laid_tierline_ops_callReads)], narrowed := true }
def SsaPhisUptoSaid : Prop := ssaPhisUptoRow.holds Tryd.pinned (OpenSpec.upto ssaPhisSpec)

/-- 'tierlinekeep.SsaReads', WHERE WHAT IT READS IS OF BULK AT MOST 1048576: true; the input reads as it did. -/
def ssaReadsUptoRow : OpenClaim := { program := "ytdpaohmaafngkaadoor", sum := "b7b718738e7e04710269f34908f215a19de79fec31bebee1fa3fb61ef4beab23", func := "tierline/tierlinekeep.SsaReads", spec := "ssaReads", unfollowed := true, recurses := true, named := ["tierline/ops.parts", "tierline/ops.callReads"], apart := false, laid := [("tierline/ops.parts", laid_tierline_ops_parts), ("tierline/ops.callReads", laid_tierline_ops_callReads)], narrowed := true }
def SsaReadsUptoSaid : Prop := ssaReadsUptoRow.holds Tryd.pinned (OpenSpec.upto ssaReadsSpec)

end Rows
end Go.Proofs.YtdpaohmaafngkaaDoor
