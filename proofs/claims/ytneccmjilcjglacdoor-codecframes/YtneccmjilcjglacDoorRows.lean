/-
  NARROWER THAN 'FOR EVERY INPUT', by the rows' own cells (each row's printed sentence says how): CodecSplits: laid · CodecOrder: laid · CodecFrames: laid · CodecUnframes: laid · CodecTurned: laid · CodecNobody: laid.
  DERIVED. THE GIVEN ROWS OF THIS SEAT. 6 by the template 'for every input the law returns true; each argument reads behind the call as it read before'; 0 by the template 'total and deterministic' (their statements: YtneccmjilcjglacDoorTotals.lean).
  GIVEN WITH THE SEED: the statements are not yours to turn. If you find one false, say at which input.
  Laid BY PROGRAM, IN A SANDBOX (cutbox-rows.mjs): the forced cells as the released guide's own fill.sh prints them over the translation e32f8c739f385f18… (all of the seat's roots in one cut). By AI agents, Wed Nov 11 2026. No macro, syntax, notation, axiom, sorry.
-/
import Derived.Test.YtneccmjilcjglacDoorChecked
import GoSem.Claim
import GoSem.ClaimJoined
import GoSem.ClaimMapViews
import Derived.JoinedTies
import Derived.KernelRfl
namespace Go.Proofs.YtneccmjilcjglacDoor
/- THE CELL 'sum', in the pinned program and in every row, IS THE sha256 OF THE DUMP (.gsa) THAT YtneccmjilcjglacDoorProg.lean LOADS. Nothing in Lean hashes anything: it is a label: what it is worth is what the hold of that sum in a sandbox is worth. -/
noncomputable def Tryd.pinned : Pinned := { name := "ytneccmjilcjglacdoor", sum := "e32f8c739f385f18ec508921b865a791c3e8ef5cadf12629def9413675615b63", checked := Tryd.checked }
namespace Rows
def none {H : Type} : Left H := { results := [], args := [] }

/- WHAT THE LISTED PACKAGE-LEVEL VARIABLES READ AS WHEN THE CALL BEGINS. Each datum BY PROGRAM (the guide's laid-datum.mjs) off the statement by which the dump's own 'gosem.cut.vars' lays the variable. In a bare row this is a premise. The card (YtneccmjilcjglacDoorCards.lean) ties it to the program's text. -/
def laid_dedup_codec_crcSteps {H : Type} : DataW H := .agg [.lit (.int .u32 0), .lit (.int .u32 274646895), .lit (.int .u32 549293790), .lit (.int .u32 820201905), .lit (.int .u32 1098587580), .lit (.int .u32 1361435347), .lit (.int .u32 1640403810), .lit (.int .u32 1905808397), .lit (.int .u32 2197175160), .lit (.int .u32 2460548119), .lit (.int .u32 2722870694), .lit (.int .u32 2987750089), .lit (.int .u32 3280807620), .lit (.int .u32 3553878443), .lit (.int .u32 3811616794), .lit (.int .u32 4084100981)]

/-- 'deduplaw02.CodecSplits': WHATEVER THE INPUT: true; the input reads as it did. -/
def codecSplitsSpec : ChangeSpec := { name := "codecSplits", fn := fun _ => fun
  | [d1, d2] => { results := [.lit (.bool true)], args := [d1, d2] }
  | _ => none }
def codecSplitsRow : OpenClaim := { program := "ytneccmjilcjglacdoor", sum := "e32f8c739f385f18ec508921b865a791c3e8ef5cadf12629def9413675615b63", func := "dedup/deduplaw02.CodecSplits", spec := "codecSplits", named := ["dedup/codec.crcSteps"], apart := false, laid := [("dedup/codec.crcSteps", laid_dedup_codec_crcSteps)] }
def CodecSplitsSaid : Prop := codecSplitsRow.holds Tryd.pinned (OpenSpec.ofChange codecSplitsSpec)

/-- ITS FALSE NEIGHBOUR: 'it returns false'. Refute it at one input. -/
def codecSplitsWrong : ChangeSpec := { name := "codecSplits", fn := fun _ => fun
  | [d1, d2] => { results := [.lit (.bool false)], args := [d1, d2] }
  | _ => none }
def CodecSplitsWrongFalsely : Prop := codecSplitsRow.holds Tryd.pinned (OpenSpec.ofChange codecSplitsWrong)

/-- 'deduplaw02.CodecOrder': WHATEVER THE INPUT: true; the input reads as it did. -/
def codecOrderSpec : ChangeSpec := { name := "codecOrder", fn := fun _ => fun
  | [d1, d2] => { results := [.lit (.bool true)], args := [d1, d2] }
  | _ => none }
def codecOrderRow : OpenClaim := { program := "ytneccmjilcjglacdoor", sum := "e32f8c739f385f18ec508921b865a791c3e8ef5cadf12629def9413675615b63", func := "dedup/deduplaw02.CodecOrder", spec := "codecOrder", named := ["dedup/codec.crcSteps"], apart := false, laid := [("dedup/codec.crcSteps", laid_dedup_codec_crcSteps)] }
def CodecOrderSaid : Prop := codecOrderRow.holds Tryd.pinned (OpenSpec.ofChange codecOrderSpec)

/-- ITS FALSE NEIGHBOUR: 'it returns false'. Refute it at one input. -/
def codecOrderWrong : ChangeSpec := { name := "codecOrder", fn := fun _ => fun
  | [d1, d2] => { results := [.lit (.bool false)], args := [d1, d2] }
  | _ => none }
def CodecOrderWrongFalsely : Prop := codecOrderRow.holds Tryd.pinned (OpenSpec.ofChange codecOrderWrong)

/-- 'deduplaw02.CodecFrames': WHATEVER THE INPUT: true; the input reads as it did. -/
def codecFramesSpec : ChangeSpec := { name := "codecFrames", fn := fun _ => fun
  | [d1, d2, d3] => { results := [.lit (.bool true)], args := [d1, d2, d3] }
  | _ => none }
def codecFramesRow : OpenClaim := { program := "ytneccmjilcjglacdoor", sum := "e32f8c739f385f18ec508921b865a791c3e8ef5cadf12629def9413675615b63", func := "dedup/deduplaw02.CodecFrames", spec := "codecFrames", named := ["dedup/codec.crcSteps"], apart := false, laid := [("dedup/codec.crcSteps", laid_dedup_codec_crcSteps)] }
def CodecFramesSaid : Prop := codecFramesRow.holds Tryd.pinned (OpenSpec.ofChange codecFramesSpec)

/-- ITS FALSE NEIGHBOUR: 'it returns false'. Refute it at one input. -/
def codecFramesWrong : ChangeSpec := { name := "codecFrames", fn := fun _ => fun
  | [d1, d2, d3] => { results := [.lit (.bool false)], args := [d1, d2, d3] }
  | _ => none }
def CodecFramesWrongFalsely : Prop := codecFramesRow.holds Tryd.pinned (OpenSpec.ofChange codecFramesWrong)

/-- 'deduplaw02.CodecUnframes': WHATEVER THE INPUT: true; the input reads as it did. -/
def codecUnframesSpec : ChangeSpec := { name := "codecUnframes", fn := fun _ => fun
  | [d] => { results := [.lit (.bool true)], args := [d] }
  | _ => none }
def codecUnframesRow : OpenClaim := { program := "ytneccmjilcjglacdoor", sum := "e32f8c739f385f18ec508921b865a791c3e8ef5cadf12629def9413675615b63", func := "dedup/deduplaw02.CodecUnframes", spec := "codecUnframes", named := ["dedup/codec.crcSteps"], apart := false, laid := [("dedup/codec.crcSteps", laid_dedup_codec_crcSteps)] }
def CodecUnframesSaid : Prop := codecUnframesRow.holds Tryd.pinned (OpenSpec.ofChange codecUnframesSpec)

/-- ITS FALSE NEIGHBOUR: 'it returns false'. Refute it at one input. -/
def codecUnframesWrong : ChangeSpec := { name := "codecUnframes", fn := fun _ => fun
  | [d] => { results := [.lit (.bool false)], args := [d] }
  | _ => none }
def CodecUnframesWrongFalsely : Prop := codecUnframesRow.holds Tryd.pinned (OpenSpec.ofChange codecUnframesWrong)

/-- 'deduplaw02.CodecTurned': WHATEVER THE INPUT: true; the input reads as it did. -/
def codecTurnedSpec : ChangeSpec := { name := "codecTurned", fn := fun _ => fun
  | [d] => { results := [.lit (.bool true)], args := [d] }
  | _ => none }
def codecTurnedRow : OpenClaim := { program := "ytneccmjilcjglacdoor", sum := "e32f8c739f385f18ec508921b865a791c3e8ef5cadf12629def9413675615b63", func := "dedup/deduplaw02.CodecTurned", spec := "codecTurned", named := ["dedup/codec.crcSteps"], apart := false, laid := [("dedup/codec.crcSteps", laid_dedup_codec_crcSteps)] }
def CodecTurnedSaid : Prop := codecTurnedRow.holds Tryd.pinned (OpenSpec.ofChange codecTurnedSpec)

/-- ITS FALSE NEIGHBOUR: 'it returns false'. Refute it at one input. -/
def codecTurnedWrong : ChangeSpec := { name := "codecTurned", fn := fun _ => fun
  | [d] => { results := [.lit (.bool false)], args := [d] }
  | _ => none }
def CodecTurnedWrongFalsely : Prop := codecTurnedRow.holds Tryd.pinned (OpenSpec.ofChange codecTurnedWrong)

/-- 'deduplaw02.CodecNobody': WHATEVER THE INPUT: true; the input reads as it did. -/
def codecNobodySpec : ChangeSpec := { name := "codecNobody", fn := fun _ => fun
  | [d] => { results := [.lit (.bool true)], args := [d] }
  | _ => none }
def codecNobodyRow : OpenClaim := { program := "ytneccmjilcjglacdoor", sum := "e32f8c739f385f18ec508921b865a791c3e8ef5cadf12629def9413675615b63", func := "dedup/deduplaw02.CodecNobody", spec := "codecNobody", named := ["dedup/codec.crcSteps"], apart := false, laid := [("dedup/codec.crcSteps", laid_dedup_codec_crcSteps)] }
def CodecNobodySaid : Prop := codecNobodyRow.holds Tryd.pinned (OpenSpec.ofChange codecNobodySpec)

/-- ITS FALSE NEIGHBOUR: 'it returns false'. Refute it at one input. -/
def codecNobodyWrong : ChangeSpec := { name := "codecNobody", fn := fun _ => fun
  | [d] => { results := [.lit (.bool false)], args := [d] }
  | _ => none }
def CodecNobodyWrongFalsely : Prop := codecNobodyRow.holds Tryd.pinned (OpenSpec.ofChange codecNobodyWrong)

/- THE SECOND FORM. 'bulk': how many values and letters a reading holds, each counted each time it is reached (what is shared counts as often as it is met; a slice's spare places count too). A statement '..UptoSaid' is the law's where the arguments, and the package variables that the reading takes, are together of bulk at most 1048576: NARROWER than '..Said'. Prove '..Said' where nothing that the law and all that it calls make is longer than what came in: it says more and counts as full. Else prove '..UptoSaid'. A law counts once. -/
mutual
def uptoBulk {H : Type} : DataW H → Nat
  | .lit (.string bytes) => bytes.length + 1
  | .lit _ => 1
  | .nil => 1
  | .ptr d => uptoBulk d + 1
  | .slice elems spare => uptoBulkAll elems + uptoBulkAll spare + 1
  | .agg parts => uptoBulkAll parts + 1
  | .iface _ d => uptoBulk d + 1
  | .map entries => uptoBulkEntries entries + 1
  | .held _ => 1
def uptoBulkAll {H : Type} : List (DataW H) → Nat
  | [] => 0
  | d :: r => uptoBulk d + uptoBulkAll r
def uptoBulkEntries {H : Type} : List (Lit × DataW H) → Nat
  | [] => 0
  | x :: r => uptoBulkEntry x + uptoBulkEntries r
def uptoBulkEntry {H : Type} : Lit × DataW H → Nat
  | (.string bytes, d) => bytes.length + uptoBulk d + 1
  | (_, d) => uptoBulk d + 1
 end
def uptoSmall : (H : Type) → List (DataW H) → Bool := fun _ ds => decide (uptoBulkAll ds ≤ 1048576)
def OpenSpec.upto (s : _root_.Go.ChangeSpec) : _root_.Go.OpenSpec := { _root_.Go.OpenSpec.ofChange s with cond := some uptoSmall }

/-- 'deduplaw02.CodecSplits', WHERE WHAT IT READS IS OF BULK AT MOST 1048576: true; the input reads as it did. -/
def codecSplitsUptoRow : OpenClaim := { program := "ytneccmjilcjglacdoor", sum := "e32f8c739f385f18ec508921b865a791c3e8ef5cadf12629def9413675615b63", func := "dedup/deduplaw02.CodecSplits", spec := "codecSplits", named := ["dedup/codec.crcSteps"], apart := false, laid := [("dedup/codec.crcSteps", laid_dedup_codec_crcSteps)], narrowed := true }
def CodecSplitsUptoSaid : Prop := codecSplitsUptoRow.holds Tryd.pinned (OpenSpec.upto codecSplitsSpec)

/-- 'deduplaw02.CodecOrder', WHERE WHAT IT READS IS OF BULK AT MOST 1048576: true; the input reads as it did. -/
def codecOrderUptoRow : OpenClaim := { program := "ytneccmjilcjglacdoor", sum := "e32f8c739f385f18ec508921b865a791c3e8ef5cadf12629def9413675615b63", func := "dedup/deduplaw02.CodecOrder", spec := "codecOrder", named := ["dedup/codec.crcSteps"], apart := false, laid := [("dedup/codec.crcSteps", laid_dedup_codec_crcSteps)], narrowed := true }
def CodecOrderUptoSaid : Prop := codecOrderUptoRow.holds Tryd.pinned (OpenSpec.upto codecOrderSpec)

/-- 'deduplaw02.CodecFrames', WHERE WHAT IT READS IS OF BULK AT MOST 1048576: true; the input reads as it did. -/
def codecFramesUptoRow : OpenClaim := { program := "ytneccmjilcjglacdoor", sum := "e32f8c739f385f18ec508921b865a791c3e8ef5cadf12629def9413675615b63", func := "dedup/deduplaw02.CodecFrames", spec := "codecFrames", named := ["dedup/codec.crcSteps"], apart := false, laid := [("dedup/codec.crcSteps", laid_dedup_codec_crcSteps)], narrowed := true }
def CodecFramesUptoSaid : Prop := codecFramesUptoRow.holds Tryd.pinned (OpenSpec.upto codecFramesSpec)

/-- 'deduplaw02.CodecUnframes', WHERE WHAT IT READS IS OF BULK AT MOST 1048576: true; the input reads as it did. -/
def codecUnframesUptoRow : OpenClaim := { program := "ytneccmjilcjglacdoor", sum := "e32f8c739f385f18ec508921b865a791c3e8ef5cadf12629def9413675615b63", func := "dedup/deduplaw02.CodecUnframes", spec := "codecUnframes", named := ["dedup/codec.crcSteps"], apart := false, laid := [("dedup/codec.crcSteps", laid_dedup_codec_crcSteps)], narrowed := true }
def CodecUnframesUptoSaid : Prop := codecUnframesUptoRow.holds Tryd.pinned (OpenSpec.upto codecUnframesSpec)

/-- 'deduplaw02.CodecTurned', WHERE WHAT IT READS IS OF BULK AT MOST 1048576: true; the input reads as it did. -/
def codecTurnedUptoRow : OpenClaim := { program := "ytneccmjilcjglacdoor", sum := "e32f8c739f385f18ec508921b865a791c3e8ef5cadf12629def9413675615b63", func := "dedup/deduplaw02.CodecTurned", spec := "codecTurned", named := ["dedup/codec.crcSteps"], apart := false, laid := [("dedup/codec.crcSteps", laid_dedup_codec_crcSteps)], narrowed := true }
def CodecTurnedUptoSaid : Prop := codecTurnedUptoRow.holds Tryd.pinned (OpenSpec.upto codecTurnedSpec)

/-- 'deduplaw02.CodecNobody', WHERE WHAT IT READS IS OF BULK AT MOST 1048576: true; the input reads as it did. -/
def codecNobodyUptoRow : OpenClaim := { program := "ytneccmjilcjglacdoor", sum := "e32f8c739f385f18ec508921b865a791c3e8ef5cadf12629def9413675615b63", func := "dedup/deduplaw02.CodecNobody", spec := "codecNobody", named := ["dedup/codec.crcSteps"], apart := false, laid := [("dedup/codec.crcSteps", laid_dedup_codec_crcSteps)], narrowed := true }
def CodecNobodyUptoSaid : Prop := codecNobodyUptoRow.holds Tryd.pinned (OpenSpec.upto codecNobodySpec)

end Rows
end Go.Proofs.YtneccmjilcjglacDoor
