/-
  NARROWER THAN 'FOR EVERY INPUT', by the rows' own cells (each row's printed sentence says how): BlocksCover: laid · BlocksMeet: laid · LiveSure: laid · AboveChain: laid · LoopsHeads: laid · LoopsNone: laid · LiveBack: laid · BlocksEnd: laid · RunWays: laid · LiveDead: laid.
  DERIVED. THE GIVEN ROWS OF THIS SEAT. 10 by the template 'for every input the law returns true; each argument reads behind the call as it read before'; 0 by the template 'total and deterministic' (their statements: YtjmafakhibekdaaDoorTotals.lean).
  GIVEN WITH THE SEED: the statements are not yours to turn. If you find one false, say at which input.
  Laid BY PROGRAM, IN A SANDBOX (cutbox-rows.mjs): the forced cells as the released guide's own fill.sh prints them over the translation 8a84fee37a2f1212… (all of the seat's roots in one cut). By AI agents, Wed Nov 11 2026. No macro, syntax, notation, axiom, sorry.
-/
import Derived.Test.YtjmafakhibekdaaDoorChecked
import GoSem.Claim
import GoSem.ClaimJoined
import GoSem.ClaimMapViews
import Derived.JoinedTies
import Derived.KernelRfl
namespace Go.Proofs.YtjmafakhibekdaaDoor
/- THE CELL 'sum', in the pinned program and in every row, IS THE sha256 OF THE DUMP (.gsa) THAT YtjmafakhibekdaaDoorProg.lean LOADS. Nothing in Lean hashes anything: it is a label: what it is worth is what the hold of that sum in a sandbox is worth. -/
noncomputable def Tryd.pinned : Pinned := { name := "ytjmafakhibekdaadoor", sum := "8a84fee37a2f1212512f768214f11e28625c0ff6f4aed514c50cd37f52eb81d7", checked := Tryd.checked }
namespace Rows
def none {H : Type} : Left H := { results := [], args := [] }

/- WHAT THE LISTED PACKAGE-LEVEL VARIABLES READ AS WHEN THE CALL BEGINS. Each datum BY PROGRAM (the guide's laid-datum.mjs) off the statement by which the dump's own 'gosem.cut.vars' lays the variable. In a bare row this is a premise. The card (YtjmafakhibekdaaDoorCards.lean) ties it to the program's text. -/
def laid_tierline_ops_parts {H : Type} : DataW H := .agg [.lit (.int .i64 0), .lit (.int .i64 9), .lit (.int .i64 7), .lit (.int .i64 7), .lit (.int .i64 7), .lit (.int .i64 7), .lit (.int .i64 7), .lit (.int .i64 7), .lit (.int .i64 7), .lit (.int .i64 7), .lit (.int .i64 7), .lit (.int .i64 7), .lit (.int .i64 7), .lit (.int .i64 3), .lit (.int .i64 6), .lit (.int .i64 16), .lit (.int .i64 18), .lit (.int .i64 39), .lit (.int .i64 3), .lit (.int .i64 2)]
def laid_tierline_proof_callReads {H : Type} : DataW H := .agg [.lit (.int .i64 0), .lit (.int .i64 2), .lit (.int .i64 6)]

/-- 'tierlinekeep.BlocksCover': WHATEVER THE INPUT: true; the input reads as it did. -/
def blocksCoverSpec : ChangeSpec := { name := "blocksCover", fn := fun _ => fun
  | [d1, d2] => { results := [.lit (.bool true)], args := [d1, d2] }
  | _ => none }
def blocksCoverRow : OpenClaim := { program := "ytjmafakhibekdaadoor", sum := "8a84fee37a2f1212512f768214f11e28625c0ff6f4aed514c50cd37f52eb81d7", func := "tierline/tierlinekeep.BlocksCover", spec := "blocksCover", recurses := true, named := ["tierline/ops.parts", "tierline/proof.callReads"], apart := false, laid := [("tierline/ops.parts", laid_tierline_ops_parts), ("tierline/proof.callReads", laid_tierline_proof_callReads)] }
def BlocksCoverSaid : Prop := blocksCoverRow.holds Tryd.pinned (OpenSpec.ofChange blocksCoverSpec)

/-- ITS FALSE NEIGHBOUR: 'it returns false'. Refute it at one input. -/
def blocksCoverWrong : ChangeSpec := { name := "blocksCover", fn := fun _ => fun
  | [d1, d2] => { results := [.lit (.bool false)], args := [d1, d2] }
  | _ => none }
def BlocksCoverWrongFalsely : Prop := blocksCoverRow.holds Tryd.pinned (OpenSpec.ofChange blocksCoverWrong)

/-- 'tierlinekeep.BlocksMeet': WHATEVER THE INPUT: true; the input reads as it did. -/
def blocksMeetSpec : ChangeSpec := { name := "blocksMeet", fn := fun _ => fun
  | [d1, d2] => { results := [.lit (.bool true)], args := [d1, d2] }
  | _ => none }
def blocksMeetRow : OpenClaim := { program := "ytjmafakhibekdaadoor", sum := "8a84fee37a2f1212512f768214f11e28625c0ff6f4aed514c50cd37f52eb81d7", func := "tierline/tierlinekeep.BlocksMeet", spec := "blocksMeet", recurses := true, named := ["tierline/ops.parts", "tierline/proof.callReads"], apart := false, laid := [("tierline/ops.parts", laid_tierline_ops_parts), ("tierline/proof.callReads", laid_tierline_proof_callReads)] }
def BlocksMeetSaid : Prop := blocksMeetRow.holds Tryd.pinned (OpenSpec.ofChange blocksMeetSpec)

/-- ITS FALSE NEIGHBOUR: 'it returns false'. Refute it at one input. -/
def blocksMeetWrong : ChangeSpec := { name := "blocksMeet", fn := fun _ => fun
  | [d1, d2] => { results := [.lit (.bool false)], args := [d1, d2] }
  | _ => none }
def BlocksMeetWrongFalsely : Prop := blocksMeetRow.holds Tryd.pinned (OpenSpec.ofChange blocksMeetWrong)

/-- 'tierlinekeep.LiveSure': WHATEVER THE INPUT: true; the input reads as it did. -/
def liveSureSpec : ChangeSpec := { name := "liveSure", fn := fun _ => fun
  | [d1, d2] => { results := [.lit (.bool true)], args := [d1, d2] }
  | _ => none }
def liveSureRow : OpenClaim := { program := "ytjmafakhibekdaadoor", sum := "8a84fee37a2f1212512f768214f11e28625c0ff6f4aed514c50cd37f52eb81d7", func := "tierline/tierlinekeep.LiveSure", spec := "liveSure", named := ["tierline/ops.parts", "tierline/proof.callReads"], apart := false, laid := [("tierline/ops.parts", laid_tierline_ops_parts), ("tierline/proof.callReads", laid_tierline_proof_callReads)] }
def LiveSureSaid : Prop := liveSureRow.holds Tryd.pinned (OpenSpec.ofChange liveSureSpec)

/-- ITS FALSE NEIGHBOUR: 'it returns false'. Refute it at one input. -/
def liveSureWrong : ChangeSpec := { name := "liveSure", fn := fun _ => fun
  | [d1, d2] => { results := [.lit (.bool false)], args := [d1, d2] }
  | _ => none }
def LiveSureWrongFalsely : Prop := liveSureRow.holds Tryd.pinned (OpenSpec.ofChange liveSureWrong)

/-- 'tierlinekeep.AboveChain': WHATEVER THE INPUT: true; the input reads as it did. -/
def aboveChainSpec : ChangeSpec := { name := "aboveChain", fn := fun _ => fun
  | [d1, d2] => { results := [.lit (.bool true)], args := [d1, d2] }
  | _ => none }
def aboveChainRow : OpenClaim := { program := "ytjmafakhibekdaadoor", sum := "8a84fee37a2f1212512f768214f11e28625c0ff6f4aed514c50cd37f52eb81d7", func := "tierline/tierlinekeep.AboveChain", spec := "aboveChain", unfollowed := true, recurses := true, named := ["tierline/ops.parts", "tierline/proof.callReads"], apart := false, laid := [("tierline/ops.parts", laid_tierline_ops_parts), ("tierline/proof.callReads", laid_tierline_proof_callReads)] }
def AboveChainSaid : Prop := aboveChainRow.holds Tryd.pinned (OpenSpec.ofChange aboveChainSpec)

/-- ITS FALSE NEIGHBOUR: 'it returns false'. Refute it at one input. -/
def aboveChainWrong : ChangeSpec := { name := "aboveChain", fn := fun _ => fun
  | [d1, d2] => { results := [.lit (.bool false)], args := [d1, d2] }
  | _ => none }
def AboveChainWrongFalsely : Prop := aboveChainRow.holds Tryd.pinned (OpenSpec.ofChange aboveChainWrong)

/-- 'tierlinekeep.LoopsHeads': WHATEVER THE INPUT: true; the input reads as it did. -/
def loopsHeadsSpec : ChangeSpec := { name := "loopsHeads", fn := fun _ => fun
  | [d1, d2] => { results := [.lit (.bool true)], args := [d1, d2] }
  | _ => none }
def loopsHeadsRow : OpenClaim := { program := "ytjmafakhibekdaadoor", sum := "8a84fee37a2f1212512f768214f11e28625c0ff6f4aed514c50cd37f52eb81d7", func := "tierline/tierlinekeep.LoopsHeads", spec := "loopsHeads", unfollowed := true, recurses := true, named := ["tierline/ops.parts", "tierline/proof.callReads"], apart := false, laid := [("tierline/ops.parts", laid_tierline_ops_parts), ("tierline/proof.callReads", laid_tierline_proof_callReads)] }
def LoopsHeadsSaid : Prop := loopsHeadsRow.holds Tryd.pinned (OpenSpec.ofChange loopsHeadsSpec)

/-- ITS FALSE NEIGHBOUR: 'it returns false'. Refute it at one input. -/
def loopsHeadsWrong : ChangeSpec := { name := "loopsHeads", fn := fun _ => fun
  | [d1, d2] => { results := [.lit (.bool false)], args := [d1, d2] }
  | _ => none }
def LoopsHeadsWrongFalsely : Prop := loopsHeadsRow.holds Tryd.pinned (OpenSpec.ofChange loopsHeadsWrong)

/-- 'tierlinekeep.LoopsNone': WHATEVER THE INPUT: true; the input reads as it did. -/
def loopsNoneSpec : ChangeSpec := { name := "loopsNone", fn := fun _ => fun
  | [d1, d2] => { results := [.lit (.bool true)], args := [d1, d2] }
  | _ => none }
def loopsNoneRow : OpenClaim := { program := "ytjmafakhibekdaadoor", sum := "8a84fee37a2f1212512f768214f11e28625c0ff6f4aed514c50cd37f52eb81d7", func := "tierline/tierlinekeep.LoopsNone", spec := "loopsNone", unfollowed := true, recurses := true, named := ["tierline/ops.parts", "tierline/proof.callReads"], apart := false, laid := [("tierline/ops.parts", laid_tierline_ops_parts), ("tierline/proof.callReads", laid_tierline_proof_callReads)] }
def LoopsNoneSaid : Prop := loopsNoneRow.holds Tryd.pinned (OpenSpec.ofChange loopsNoneSpec)

/-- ITS FALSE NEIGHBOUR: 'it returns false'. Refute it at one input. -/
def loopsNoneWrong : ChangeSpec := { name := "loopsNone", fn := fun _ => fun
  | [d1, d2] => { results := [.lit (.bool false)], args := [d1, d2] }
  | _ => none }
def LoopsNoneWrongFalsely : Prop := loopsNoneRow.holds Tryd.pinned (OpenSpec.ofChange loopsNoneWrong)

/-- 'tierlinekeep.LiveBack': WHATEVER THE INPUT: true; the input reads as it did. -/
def liveBackSpec : ChangeSpec := { name := "liveBack", fn := fun _ => fun
  | [d1, d2] => { results := [.lit (.bool true)], args := [d1, d2] }
  | _ => none }
def liveBackRow : OpenClaim := { program := "ytjmafakhibekdaadoor", sum := "8a84fee37a2f1212512f768214f11e28625c0ff6f4aed514c50cd37f52eb81d7", func := "tierline/tierlinekeep.LiveBack", spec := "liveBack", recurses := true, named := ["tierline/ops.parts", "tierline/proof.callReads"], apart := false, laid := [("tierline/ops.parts", laid_tierline_ops_parts), ("tierline/proof.callReads", laid_tierline_proof_callReads)] }
def LiveBackSaid : Prop := liveBackRow.holds Tryd.pinned (OpenSpec.ofChange liveBackSpec)

/-- ITS FALSE NEIGHBOUR: 'it returns false'. Refute it at one input. -/
def liveBackWrong : ChangeSpec := { name := "liveBack", fn := fun _ => fun
  | [d1, d2] => { results := [.lit (.bool false)], args := [d1, d2] }
  | _ => none }
def LiveBackWrongFalsely : Prop := liveBackRow.holds Tryd.pinned (OpenSpec.ofChange liveBackWrong)

/-- 'tierlinekeep.BlocksEnd': WHATEVER THE INPUT: true; the input reads as it did. -/
def blocksEndSpec : ChangeSpec := { name := "blocksEnd", fn := fun _ => fun
  | [d1, d2] => { results := [.lit (.bool true)], args := [d1, d2] }
  | _ => none }
def blocksEndRow : OpenClaim := { program := "ytjmafakhibekdaadoor", sum := "8a84fee37a2f1212512f768214f11e28625c0ff6f4aed514c50cd37f52eb81d7", func := "tierline/tierlinekeep.BlocksEnd", spec := "blocksEnd", recurses := true, named := ["tierline/ops.parts", "tierline/proof.callReads"], apart := false, laid := [("tierline/ops.parts", laid_tierline_ops_parts), ("tierline/proof.callReads", laid_tierline_proof_callReads)] }
def BlocksEndSaid : Prop := blocksEndRow.holds Tryd.pinned (OpenSpec.ofChange blocksEndSpec)

/-- ITS FALSE NEIGHBOUR: 'it returns false'. Refute it at one input. -/
def blocksEndWrong : ChangeSpec := { name := "blocksEnd", fn := fun _ => fun
  | [d1, d2] => { results := [.lit (.bool false)], args := [d1, d2] }
  | _ => none }
def BlocksEndWrongFalsely : Prop := blocksEndRow.holds Tryd.pinned (OpenSpec.ofChange blocksEndWrong)

/-- 'tierlinekeep.RunWays': WHATEVER THE INPUT: true; the input reads as it did. -/
def runWaysSpec : ChangeSpec := { name := "runWays", fn := fun _ => fun
  | [d1, d2] => { results := [.lit (.bool true)], args := [d1, d2] }
  | _ => none }
def runWaysRow : OpenClaim := { program := "ytjmafakhibekdaadoor", sum := "8a84fee37a2f1212512f768214f11e28625c0ff6f4aed514c50cd37f52eb81d7", func := "tierline/tierlinekeep.RunWays", spec := "runWays", unfollowed := true, recurses := true, named := ["tierline/ops.parts", "tierline/proof.callReads"], apart := false, laid := [("tierline/ops.parts", laid_tierline_ops_parts), ("tierline/proof.callReads", laid_tierline_proof_callReads)] }
def RunWaysSaid : Prop := runWaysRow.holds Tryd.pinned (OpenSpec.ofChange runWaysSpec)

/-- ITS FALSE NEIGHBOUR: 'it returns false'. Refute it at one input. -/
def runWaysWrong : ChangeSpec := { name := "runWays", fn := fun _ => fun
  | [d1, d2] => { results := [.lit (.bool false)], args := [d1, d2] }
  | _ => none }
def RunWaysWrongFalsely : Prop := runWaysRow.holds Tryd.pinned (OpenSpec.ofChange runWaysWrong)

/-- 'tierlinekeep.LiveDead': WHATEVER THE INPUT: true; the input reads as it did. -/
def liveDeadSpec : ChangeSpec := { name := "liveDead", fn := fun _ => fun
  | [d1, d2, d3, d4] => { results := [.lit (.bool true)], args := [d1, d2, d3, d4] }
  | _ => none }
def liveDeadRow : OpenClaim := { program := "ytjmafakhibekdaadoor", sum := "8a84fee37a2f1212512f768214f11e28625c0ff6f4aed514c50cd37f52eb81d7", func := "tierline/tierlinekeep.LiveDead", spec := "liveDead", named := ["tierline/ops.parts", "tierline/proof.callReads"], apart := false, laid := [("tierline/ops.parts", laid_tierline_ops_parts), ("tierline/proof.callReads", laid_tierline_proof_callReads)] }
def LiveDeadSaid : Prop := liveDeadRow.holds Tryd.pinned (OpenSpec.ofChange liveDeadSpec)

/-- ITS FALSE NEIGHBOUR: 'it returns false'. Refute it at one input. -/
def liveDeadWrong : ChangeSpec := { name := "liveDead", fn := fun _ => fun
  | [d1, d2, d3, d4] => { results := [.lit (.bool false)], args := [d1, d2, d3, d4] }
  | _ => none }
def LiveDeadWrongFalsely : Prop := liveDeadRow.holds Tryd.pinned (OpenSpec.ofChange liveDeadWrong)

/- THE SECOND FORM. 'bulk': how many values and letters a reading holds, each counted each time it is reached (what is shared counts as often as it is met; a slice's spare places count too). A statement '..UptoSaid' is the law's where the arguments, and the package variables that the reading takes, are together of bulk at most 1048576: NARROWER than '..Said'. Prove '..Said' where nothing that the law and all that it calls make is longer than what came in: it says more and counts as full. Else prove '..UptoSaid'. A law counts once. -/
mutual
def uptoBulk {H : Type} : DataW H → Nat
  | .lit (.string bytes) => bytes.length + 1
  | .lit _ => 1
  | .nil => 1
  | .ptr d => uptoBulk d + 1
  | .slice elems spare => uptoBulkAll elems + uptoBulkAll spare + 1
  | .agg parts => uptoBulkAll parts + 1
  | .iface _ d => uptoBulk d + 1
  | .map entries => uptoBulkEntries entries + 1
  | .held _ => 1
def uptoBulkAll {H : Type} : List (DataW H) → Nat
  | [] => 0
  | d :: r => uptoBulk d + uptoBulkAll r
def uptoBulkEntries {H : Type} : List (Lit × DataW H) → Nat
  | [] => 0
  | x :: r => uptoBulkEntry x + uptoBulkEntries r
def uptoBulkEntry {H : Type} : Lit × DataW H → Nat
  | (.string bytes, d) => bytes.length + uptoBulk d + 1
  | (_, d) => uptoBulk d + 1
 end
def uptoSmall : (H : Type) → List (DataW H) → Bool := fun _ ds => decide (uptoBulkAll ds ≤ 1048576)
def OpenSpec.upto (s : _root_.Go.ChangeSpec) : _root_.Go.OpenSpec := { _root_.Go.OpenSpec.ofChange s with cond := some uptoSmall }

/-- 'tierlinekeep.BlocksCover', WHERE WHAT IT READS IS OF BULK AT MOST 1048576: true; the input reads as it did. -/
def blocksCoverUptoRow : OpenClaim := { program := "ytjmafakhibekdaadoor", sum := "8a84fee37a2f1212512f768214f11e28625c0ff6f4aed514c50cd37f52eb81d7", func := "tierline/tierlinekeep.BlocksCover", spec := "blocksCover", recurses := true, named := ["tierline/ops.parts", "tierline/proof.callReads"], apart := false, laid := [("tierline/ops.parts", laid_tierline_ops_parts), ("tierline/proof.callReads", laid_tierline_proof_callReads)], narrowed := true }
def BlocksCoverUptoSaid : Prop := blocksCoverUptoRow.holds Tryd.pinned (OpenSpec.upto blocksCoverSpec)

/-- 'tierlinekeep.BlocksMeet', WHERE WHAT IT READS IS OF BULK AT MOST 1048576: true; the input reads as it did. -/
def blocksMeetUptoRow : OpenClaim := { program := "ytjmafakhibekdaadoor", sum := "8a84fee37a2f1212512f768214f11e28625c0ff6f4aed514c50cd37f52eb81d7", func := "tierline/tierlinekeep.BlocksMeet", spec := "blocksMeet", recurses := true, named := ["tierline/ops.parts", "tierline/proof.callReads"], apart := false, laid := [("tierline/ops.parts", laid_tierline_ops_parts), ("tierline/proof.callReads", laid_tierline_proof_callReads)], narrowed := true }
def BlocksMeetUptoSaid : Prop := blocksMeetUptoRow.holds Tryd.pinned (OpenSpec.upto blocksMeetSpec)

/-- 'tierlinekeep.LiveSure', WHERE WHAT IT READS IS OF BULK AT MOST 1048576: true; the input reads as it did. -/
def liveSureUptoRow : OpenClaim := { program := "ytjmafakhibekdaadoor", sum := "8a84fee37a2f1212512f768214f11e28625c0ff6f4aed514c50cd37f52eb81d7", func := "tierline/tierlinekeep.LiveSure", spec := "liveSure", named := ["tierline/ops.parts", "tierline/proof.callReads"], apart := false, laid := [("tierline/ops.parts", laid_tierline_ops_parts), ("tierline/proof.callReads", laid_tierline_proof_callReads)], narrowed := true }
def LiveSureUptoSaid : Prop := liveSureUptoRow.holds Tryd.pinned (OpenSpec.upto liveSureSpec)

/-- 'tierlinekeep.AboveChain', WHERE WHAT IT READS IS OF BULK AT MOST 1048576: true; the input reads as it did. -/
def aboveChainUptoRow : OpenClaim := { program := "ytjmafakhibekdaadoor", sum := "8a84fee37a2f1212512f768214f11e28625c0ff6f4aed514c50cd37f52eb81d7", func := "tierline/tierlinekeep.AboveChain", spec := "aboveChain", unfollowed := true, recurses := true, named := ["tierline/ops.parts", "tierline/proof.callReads"], apart := false, laid := [("tierline/ops.parts", laid_tierline_ops_parts), ("tierline/proof.callReads", laid_tierline_proof_callReads)], narrowed := true }
def AboveChainUptoSaid : Prop := aboveChainUptoRow.holds Tryd.pinned (OpenSpec.upto aboveChainSpec)

/-- 'tierlinekeep.LoopsHeads', WHERE WHAT IT READS IS OF BULK AT MOST 1048576: true; the input reads as it did. -/
def loopsHeadsUptoRow : OpenClaim := { program := "ytjmafakhibekdaadoor", sum := "8a84fee37a2f1212512f768214f11e28625c0ff6f4aed514c50cd37f52eb81d7", func := "tierline/tierlinekeep.LoopsHeads", spec := "loopsHeads", unfollowed := true, recurses := true, named := ["tierline/ops.parts", "tierline/proof.callReads"], apart := false, laid := [("tierline/ops.parts", laid_tierline_ops_parts), ("tierline/proof.callReads", laid_tierline_proof_callReads)], narrowed := true }
def LoopsHeadsUptoSaid : Prop := loopsHeadsUptoRow.holds Tryd.pinned (OpenSpec.upto loopsHeadsSpec)

/-- 'tierlinekeep.LoopsNone', WHERE WHAT IT READS IS OF BULK AT MOST 1048576: true; the input reads as it did. -/
def loopsNoneUptoRow : OpenClaim := { program := "ytjmafakhibekdaadoor", sum := "8a84fee37a2f1212512f768214f11e28625c0ff6f4aed514c50cd37f52eb81d7", func := "tierline/tierlinekeep.LoopsNone", spec := "loopsNone", unfollowed := true, recurses := true, named := ["tierline/ops.parts", "tierline/proof.callReads"], apart := false, laid := [("tierline/ops.parts", laid_tierline_ops_parts), ("tierline/proof.callReads", laid_tierline_proof_callReads)], narrowed := true }
def LoopsNoneUptoSaid : Prop := loopsNoneUptoRow.holds Tryd.pinned (OpenSpec.upto loopsNoneSpec)

/-- 'tierlinekeep.LiveBack', WHERE WHAT IT READS IS OF BULK AT MOST 1048576: true; the input reads as it did. -/
def liveBackUptoRow : OpenClaim := { program := "ytjmafakhibekdaadoor", sum := "8a84fee37a2f1212512f768214f11e28625c0ff6f4aed514c50cd37f52eb81d7", func := "tierline/tierlinekeep.LiveBack", spec := "liveBack", recurses := true, named := ["tierline/ops.parts", "tierline/proof.callReads"], apart := false, laid := [("tierline/ops.parts", laid_tierline_ops_parts), ("tierline/proof.callReads", laid_tierline_proof_callReads)], narrowed := true }
def LiveBackUptoSaid : Prop := liveBackUptoRow.holds Tryd.pinned (OpenSpec.upto liveBackSpec)

/-- 'tierlinekeep.BlocksEnd', WHERE WHAT IT READS IS OF BULK AT MOST 1048576: true; the input reads as it did. -/
def blocksEndUptoRow : OpenClaim := { program := "ytjmafakhibekdaadoor", sum := "8a84fee37a2f1212512f768214f11e28625c0ff6f4aed514c50cd37f52eb81d7", func := "tierline/tierlinekeep.BlocksEnd", spec := "blocksEnd", recurses := true, named := ["tierline/ops.parts", "tierline/proof.callReads"], apart := false, laid := [("tierline/ops.parts", laid_tierline_ops_parts), ("tierline/proof.callReads", laid_tierline_proof_callReads)], narrowed := true }
def BlocksEndUptoSaid : Prop := blocksEndUptoRow.holds Tryd.pinned (OpenSpec.upto blocksEndSpec)

/-- 'tierlinekeep.RunWays', WHERE WHAT IT READS IS OF BULK AT MOST 1048576: true; the input reads as it did. -/
def runWaysUptoRow : OpenClaim := { program := "ytjmafakhibekdaadoor", sum := "8a84fee37a2f1212512f768214f11e28625c0ff6f4aed514c50cd37f52eb81d7", func := "tierline/tierlinekeep.RunWays", spec := "runWays", unfollowed := true, recurses := true, named := ["tierline/ops.parts", "tierline/proof.callReads"], apart := false, laid := [("tierline/ops.parts", laid_tierline_ops_parts), ("tierline/proof.callReads", laid_tierline_proof_callReads)], narrowed := true }
def RunWaysUptoSaid : Prop := runWaysUptoRow.holds Tryd.pinned (OpenSpec.upto runWaysSpec)

/-- 'tierlinekeep.LiveDead', WHERE WHAT IT READS IS OF BULK AT MOST 1048576: true; the input reads as it did. -/
def liveDeadUptoRow : OpenClaim := { program := "ytjmafakhibekdaadoor", sum := "8a84fee37a2f1212512f768214f11e28625c0ff6f4aed514c50cd37f52eb81d7", func := "tierline/tierlinekeep.LiveDead", spec := "liveDead", named := ["tierline/ops.parts", "tierline/proof.callReads"], apart := false, laid := [("tierline/ops.parts", laid_tierline_ops_parts), ("tierline/proof.callReads", laid_tierline_proof_callReads)], narrowed := true }
def LiveDeadUptoSaid : Prop := liveDeadUptoRow.holds Tryd.pinned (OpenSpec.upto liveDeadSpec)

end Rows
end Go.Proofs.YtjmafakhibekdaaDoor
