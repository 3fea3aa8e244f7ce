/-
  NARROWER THAN 'FOR EVERY INPUT', by the rows' own cells (each row's printed sentence says how): NodeEncodes: laid · NodeDecodes: laid · NodePuts: laid · NodeSplits: laid · NodeMaps: laid.
  DERIVED. THE GIVEN ROWS OF THIS SEAT. 5 by the template 'for every input the law returns true; each argument reads behind the call as it read before'; 0 by the template 'total and deterministic' (their statements: YtpjgghalnkfdkaaDoorTotals.lean).
  GIVEN WITH THE SEED: the statements are not yours to turn. If you find one false, say at which input.
  Laid BY PROGRAM, IN A SANDBOX (cutbox-rows.mjs): the forced cells as the released guide's own fill.sh prints them over the translation 6fdea0ec3e86ab2b… (all of the seat's roots in one cut). By AI agents, Wed Nov 11 2026. No macro, syntax, notation, axiom, sorry.
-/
import Derived.Test.YtpjgghalnkfdkaaDoorChecked
import GoSem.Claim
import GoSem.ClaimJoined
import GoSem.ClaimMapViews
import Derived.JoinedTies
import Derived.KernelRfl
namespace Go.Proofs.YtpjgghalnkfdkaaDoor
/- THE CELL 'sum', in the pinned program and in every row, IS THE sha256 OF THE DUMP (.gsa) THAT YtpjgghalnkfdkaaDoorProg.lean LOADS. Nothing in Lean hashes anything: it is a label: what it is worth is what the hold of that sum in a sandbox is worth. -/
noncomputable def Tryd.pinned : Pinned := { name := "ytpjgghalnkfdkaadoor", sum := "6fdea0ec3e86ab2bfdaa3e7135dae7ea0e30f5dc38af81680fa620069ab7d853", checked := Tryd.checked }
namespace Rows
def none {H : Type} : Left H := { results := [], args := [] }

/- WHAT THE LISTED PACKAGE-LEVEL VARIABLES READ AS WHEN THE CALL BEGINS. Each datum BY PROGRAM (the guide's laid-datum.mjs) off the statement by which the dump's own 'gosem.cut.vars' lays the variable. In a bare row this is a premise. The card (YtpjgghalnkfdkaaDoorCards.lean) ties it to the program's text. -/
def laid_dedup_codec_crcSteps {H : Type} : DataW H := .agg [.lit (.int .u32 0), .lit (.int .u32 274646895), .lit (.int .u32 549293790), .lit (.int .u32 820201905), .lit (.int .u32 1098587580), .lit (.int .u32 1361435347), .lit (.int .u32 1640403810), .lit (.int .u32 1905808397), .lit (.int .u32 2197175160), .lit (.int .u32 2460548119), .lit (.int .u32 2722870694), .lit (.int .u32 2987750089), .lit (.int .u32 3280807620), .lit (.int .u32 3553878443), .lit (.int .u32 3811616794), .lit (.int .u32 4084100981)]

/-- 'deduplaw09.NodeEncodes': WHATEVER THE INPUT: true; the input reads as it did. -/
def nodeEncodesSpec : ChangeSpec := { name := "nodeEncodes", fn := fun _ => fun
  | [d1, d2] => { results := [.lit (.bool true)], args := [d1, d2] }
  | _ => none }
def nodeEncodesRow : OpenClaim := { program := "ytpjgghalnkfdkaadoor", sum := "6fdea0ec3e86ab2bfdaa3e7135dae7ea0e30f5dc38af81680fa620069ab7d853", func := "dedup/deduplaw09.NodeEncodes", spec := "nodeEncodes", unfollowed := true, recurses := true, named := ["dedup/codec.crcSteps"], apart := false, laid := [("dedup/codec.crcSteps", laid_dedup_codec_crcSteps)] }
def NodeEncodesSaid : Prop := nodeEncodesRow.holds Tryd.pinned (OpenSpec.ofChange nodeEncodesSpec)

/-- ITS FALSE NEIGHBOUR: 'it returns false'. Refute it at one input. -/
def nodeEncodesWrong : ChangeSpec := { name := "nodeEncodes", fn := fun _ => fun
  | [d1, d2] => { results := [.lit (.bool false)], args := [d1, d2] }
  | _ => none }
def NodeEncodesWrongFalsely : Prop := nodeEncodesRow.holds Tryd.pinned (OpenSpec.ofChange nodeEncodesWrong)

/-- 'deduplaw09.NodeDecodes': WHATEVER THE INPUT: true; the input reads as it did. -/
def nodeDecodesSpec : ChangeSpec := { name := "nodeDecodes", fn := fun _ => fun
  | [d1, d2] => { results := [.lit (.bool true)], args := [d1, d2] }
  | _ => none }
def nodeDecodesRow : OpenClaim := { program := "ytpjgghalnkfdkaadoor", sum := "6fdea0ec3e86ab2bfdaa3e7135dae7ea0e30f5dc38af81680fa620069ab7d853", func := "dedup/deduplaw09.NodeDecodes", spec := "nodeDecodes", unfollowed := true, recurses := true, named := ["dedup/codec.crcSteps"], apart := false, laid := [("dedup/codec.crcSteps", laid_dedup_codec_crcSteps)] }
def NodeDecodesSaid : Prop := nodeDecodesRow.holds Tryd.pinned (OpenSpec.ofChange nodeDecodesSpec)

/-- ITS FALSE NEIGHBOUR: 'it returns false'. Refute it at one input. -/
def nodeDecodesWrong : ChangeSpec := { name := "nodeDecodes", fn := fun _ => fun
  | [d1, d2] => { results := [.lit (.bool false)], args := [d1, d2] }
  | _ => none }
def NodeDecodesWrongFalsely : Prop := nodeDecodesRow.holds Tryd.pinned (OpenSpec.ofChange nodeDecodesWrong)

/-- 'deduplaw09.NodePuts': WHATEVER THE INPUT: true; the input reads as it did. -/
def nodePutsSpec : ChangeSpec := { name := "nodePuts", fn := fun _ => fun
  | [d1, d2, d3] => { results := [.lit (.bool true)], args := [d1, d2, d3] }
  | _ => none }
def nodePutsRow : OpenClaim := { program := "ytpjgghalnkfdkaadoor", sum := "6fdea0ec3e86ab2bfdaa3e7135dae7ea0e30f5dc38af81680fa620069ab7d853", func := "dedup/deduplaw09.NodePuts", spec := "nodePuts", inPlace := ["slices.overlaps[string]"], unfollowed := true, recurses := true, named := ["dedup/codec.crcSteps"], apart := false, laid := [("dedup/codec.crcSteps", laid_dedup_codec_crcSteps)] }
def NodePutsSaid : Prop := nodePutsRow.holds Tryd.pinned (OpenSpec.ofChange nodePutsSpec)

/-- ITS FALSE NEIGHBOUR: 'it returns false'. Refute it at one input. -/
def nodePutsWrong : ChangeSpec := { name := "nodePuts", fn := fun _ => fun
  | [d1, d2, d3] => { results := [.lit (.bool false)], args := [d1, d2, d3] }
  | _ => none }
def NodePutsWrongFalsely : Prop := nodePutsRow.holds Tryd.pinned (OpenSpec.ofChange nodePutsWrong)

/-- 'deduplaw09.NodeSplits': WHATEVER THE INPUT: true; the input reads as it did. -/
def nodeSplitsSpec : ChangeSpec := { name := "nodeSplits", fn := fun _ => fun
  | [d] => { results := [.lit (.bool true)], args := [d] }
  | _ => none }
def nodeSplitsRow : OpenClaim := { program := "ytpjgghalnkfdkaadoor", sum := "6fdea0ec3e86ab2bfdaa3e7135dae7ea0e30f5dc38af81680fa620069ab7d853", func := "dedup/deduplaw09.NodeSplits", spec := "nodeSplits", unfollowed := true, recurses := true, named := ["dedup/codec.crcSteps"], apart := false, laid := [("dedup/codec.crcSteps", laid_dedup_codec_crcSteps)] }
def NodeSplitsSaid : Prop := nodeSplitsRow.holds Tryd.pinned (OpenSpec.ofChange nodeSplitsSpec)

/-- ITS FALSE NEIGHBOUR: 'it returns false'. Refute it at one input. -/
def nodeSplitsWrong : ChangeSpec := { name := "nodeSplits", fn := fun _ => fun
  | [d] => { results := [.lit (.bool false)], args := [d] }
  | _ => none }
def NodeSplitsWrongFalsely : Prop := nodeSplitsRow.holds Tryd.pinned (OpenSpec.ofChange nodeSplitsWrong)

/-- 'deduplaw09.NodeMaps': WHATEVER THE INPUT: true; the input reads as it did. -/
def nodeMapsSpec : ChangeSpec := { name := "nodeMaps", fn := fun _ => fun
  | [d] => { results := [.lit (.bool true)], args := [d] }
  | _ => none }
def nodeMapsRow : OpenClaim := { program := "ytpjgghalnkfdkaadoor", sum := "6fdea0ec3e86ab2bfdaa3e7135dae7ea0e30f5dc38af81680fa620069ab7d853", func := "dedup/deduplaw09.NodeMaps", spec := "nodeMaps", inPlace := ["slices.overlaps[string]"], unfollowed := true, recurses := true, named := ["dedup/codec.crcSteps"], apart := false, laid := [("dedup/codec.crcSteps", laid_dedup_codec_crcSteps)] }
def NodeMapsSaid : Prop := nodeMapsRow.holds Tryd.pinned (OpenSpec.ofChange nodeMapsSpec)

/-- ITS FALSE NEIGHBOUR: 'it returns false'. Refute it at one input. -/
def nodeMapsWrong : ChangeSpec := { name := "nodeMaps", fn := fun _ => fun
  | [d] => { results := [.lit (.bool false)], args := [d] }
  | _ => none }
def NodeMapsWrongFalsely : Prop := nodeMapsRow.holds Tryd.pinned (OpenSpec.ofChange nodeMapsWrong)

/- THE SECOND FORM. 'bulk': how many values and letters a reading holds, each counted each time it is reached (what is shared counts as often as it is met; a slice's spare places count too). A statement '..UptoSaid' is the law's where the arguments, and the package variables that the reading takes, are together of bulk at most 1048576: NARROWER than '..Said'. Prove '..Said' where nothing that the law and all that it calls make is longer than what came in: it says more and counts as full. Else prove '..UptoSaid'. A law counts once. -/
mutual
def uptoBulk {H : Type} : DataW H → Nat
  | .lit (.string bytes) => bytes.length + 1
  | .lit _ => 1
  | .nil => 1
  | .ptr d => uptoBulk d + 1
  | .slice elems spare => uptoBulkAll elems + uptoBulkAll spare + 1
  | .agg parts => uptoBulkAll parts + 1
  | .iface _ d => uptoBulk d + 1
  | .map entries => uptoBulkEntries entries + 1
  | .held _ => 1
def uptoBulkAll {H : Type} : List (DataW H) → Nat
  | [] => 0
  | d :: r => uptoBulk d + uptoBulkAll r
def uptoBulkEntries {H : Type} : List (Lit × DataW H) → Nat
  | [] => 0
  | x :: r => uptoBulkEntry x + uptoBulkEntries r
def uptoBulkEntry {H : Type} : Lit × DataW H → Nat
  | (.string bytes, d) => bytes.length + uptoBulk d + 1
  | (_, d) => uptoBulk d + 1
 end
def uptoSmall : (H : Type) → List (DataW H) → Bool := fun _ ds => decide (uptoBulkAll ds ≤ 1048576)
def OpenSpec.upto (s : _root_.Go.ChangeSpec) : _root_.Go.OpenSpec := { _root_.Go.OpenSpec.ofChange s with cond := some uptoSmall }

/-- 'deduplaw09.NodeEncodes', WHERE WHAT IT READS IS OF BULK AT MOST 1048576: true; the input reads as it did. -/
def nodeEncodesUptoRow : OpenClaim := { program := "ytpjgghalnkfdkaadoor", sum := "6fdea0ec3e86ab2bfdaa3e7135dae7ea0e30f5dc38af81680fa620069ab7d853", func := "dedup/deduplaw09.NodeEncodes", spec := "nodeEncodes", unfollowed := true, recurses := true, named := ["dedup/codec.crcSteps"], apart := false, laid := [("dedup/codec.crcSteps", laid_dedup_codec_crcSteps)], narrowed := true }
def NodeEncodesUptoSaid : Prop := nodeEncodesUptoRow.holds Tryd.pinned (OpenSpec.upto nodeEncodesSpec)

/-- 'deduplaw09.NodeDecodes', WHERE WHAT IT READS IS OF BULK AT MOST 1048576: true; the input reads as it did. -/
def nodeDecodesUptoRow : OpenClaim := { program := "ytpjgghalnkfdkaadoor", sum := "6fdea0ec3e86ab2bfdaa3e7135dae7ea0e30f5dc38af81680fa620069ab7d853", func := "dedup/deduplaw09.NodeDecodes", spec := "nodeDecodes", unfollowed := true, recurses := true, named := ["dedup/codec.crcSteps"], apart := false, laid := [("dedup/codec.crcSteps", laid_dedup_codec_crcSteps)], narrowed := true }
def NodeDecodesUptoSaid : Prop := nodeDecodesUptoRow.holds Tryd.pinned (OpenSpec.upto nodeDecodesSpec)

/-- 'deduplaw09.NodePuts', WHERE WHAT IT READS IS OF BULK AT MOST 1048576: true; the input reads as it did. -/
def nodePutsUptoRow : OpenClaim := { program := "ytpjgghalnkfdkaadoor", sum := "6fdea0ec3e86ab2bfdaa3e7135dae7ea0e30f5dc38af81680fa620069ab7d853", func := "dedup/deduplaw09.NodePuts", spec := "nodePuts", inPlace := ["slices.overlaps[string]"], unfollowed := true, recurses := true, named := ["dedup/codec.crcSteps"], apart := false, laid := [("dedup/codec.crcSteps", laid_dedup_codec_crcSteps)], narrowed := true }
def NodePutsUptoSaid : Prop := nodePutsUptoRow.holds Tryd.pinned (OpenSpec.upto nodePutsSpec)

/-- 'deduplaw09.NodeSplits', WHERE WHAT IT READS IS OF BULK AT MOST 1048576: true; the input reads as it did. -/
def nodeSplitsUptoRow : OpenClaim := { program := "ytpjgghalnkfdkaadoor", sum := "6fdea0ec3e86ab2bfdaa3e7135dae7ea0e30f5dc38af81680fa620069ab7d853", func := "dedup/deduplaw09.NodeSplits", spec := "nodeSplits", unfollowed := true, recurses := true, named := ["dedup/codec.crcSteps"], apart := false, laid := [("dedup/codec.crcSteps", laid_dedup_codec_crcSteps)], narrowed := true }
def NodeSplitsUptoSaid : Prop := nodeSplitsUptoRow.holds Tryd.pinned (OpenSpec.upto nodeSplitsSpec)

/-- 'deduplaw09.NodeMaps', WHERE WHAT IT READS IS OF BULK AT MOST 1048576: true; the input reads as it did. -/
def nodeMapsUptoRow : OpenClaim := { program := "ytpjgghalnkfdkaadoor", sum := "6fdea0ec3e86ab2bfdaa3e7135dae7ea0e30f5dc38af81680fa620069ab7d853", func := "dedup/deduplaw09.NodeMaps", spec := "nodeMaps", inPlace := ["slices.overlaps[string]"], unfollowed := true, recurses := true, named := ["dedup/codec.crcSteps"], apart := false, laid := [("dedup/codec.crcSteps", laid_dedup_codec_crcSteps)], narrowed := true }
def NodeMapsUptoSaid : Prop := nodeMapsUptoRow.holds Tryd.pinned (OpenSpec.upto nodeMapsSpec)

end Rows
end Go.Proofs.YtpjgghalnkfdkaaDoor
