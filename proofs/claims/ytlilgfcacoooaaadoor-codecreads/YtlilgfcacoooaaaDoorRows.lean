/-
  NARROWER THAN 'FOR EVERY INPUT', by the rows' own cells (each row's printed sentence says how): LayoutChecks: laid · LayoutKinds: laid · LayoutParts: laid · LayoutEncodes: laid · LayoutDecodes: laid · LayoutChooses: laid · LayoutOneOrOther: laid · LayoutNames: laid · CodecWrites: laid · CodecReads: laid · CodecBack: laid · CodecTurned: laid.
  DERIVED. THE GIVEN ROWS OF THIS SEAT. 12 by the template 'for every input the law returns true; each argument reads behind the call as it read before'; 0 by the template 'total and deterministic' (their statements: YtlilgfcacoooaaaDoorTotals.lean).
  GIVEN WITH THE SEED: the statements are not yours to turn. If you find one false, say at which input.
  Laid BY PROGRAM, IN A SANDBOX (cutbox-rows.mjs): the forced cells as the released guide's own fill.sh prints them over the translation 7bde49308d61c330… (all of the seat's roots in one cut). By AI agents, Wed Nov 11 2026. No macro, syntax, notation, axiom, sorry.
-/
import Derived.Test.YtlilgfcacoooaaaDoorChecked
import GoSem.Claim
import GoSem.ClaimJoined
import GoSem.ClaimMapViews
import Derived.JoinedTies
import Derived.KernelRfl
namespace Go.Proofs.YtlilgfcacoooaaaDoor
/- THE CELL 'sum', in the pinned program and in every row, IS THE sha256 OF THE DUMP (.gsa) THAT YtlilgfcacoooaaaDoorProg.lean LOADS. Nothing in Lean hashes anything: it is a label: what it is worth is what the hold of that sum in a sandbox is worth. -/
noncomputable def Tryd.pinned : Pinned := { name := "ytlilgfcacoooaaadoor", sum := "7bde49308d61c3302749b28957fd47ddec1d8aead0dafbf58b314b16341a9780", checked := Tryd.checked }
namespace Rows
def none {H : Type} : Left H := { results := [], args := [] }

/- WHAT THE LISTED PACKAGE-LEVEL VARIABLES READ AS WHEN THE CALL BEGINS. Each datum BY PROGRAM (the guide's laid-datum.mjs) off the statement by which the dump's own 'gosem.cut.vars' lays the variable. In a bare row this is a premise. The card (YtlilgfcacoooaaaDoorCards.lean) ties it to the program's text. -/
def laid_dedup_codec_crcSteps {H : Type} : DataW H := .agg [.lit (.int .u32 0), .lit (.int .u32 274646895), .lit (.int .u32 549293790), .lit (.int .u32 820201905), .lit (.int .u32 1098587580), .lit (.int .u32 1361435347), .lit (.int .u32 1640403810), .lit (.int .u32 1905808397), .lit (.int .u32 2197175160), .lit (.int .u32 2460548119), .lit (.int .u32 2722870694), .lit (.int .u32 2987750089), .lit (.int .u32 3280807620), .lit (.int .u32 3553878443), .lit (.int .u32 3811616794), .lit (.int .u32 4084100981)]

/-- 'deduplaw04.LayoutChecks': WHATEVER THE INPUT: true; the input reads as it did. -/
def layoutChecksSpec : ChangeSpec := { name := "layoutChecks", fn := fun _ => fun
  | [d] => { results := [.lit (.bool true)], args := [d] }
  | _ => none }
def layoutChecksRow : OpenClaim := { program := "ytlilgfcacoooaaadoor", sum := "7bde49308d61c3302749b28957fd47ddec1d8aead0dafbf58b314b16341a9780", func := "dedup/deduplaw04.LayoutChecks", spec := "layoutChecks", named := ["dedup/codec.crcSteps"], apart := false, laid := [("dedup/codec.crcSteps", laid_dedup_codec_crcSteps)] }
def LayoutChecksSaid : Prop := layoutChecksRow.holds Tryd.pinned (OpenSpec.ofChange layoutChecksSpec)

/-- ITS FALSE NEIGHBOUR: 'it returns false'. Refute it at one input. -/
def layoutChecksWrong : ChangeSpec := { name := "layoutChecks", fn := fun _ => fun
  | [d] => { results := [.lit (.bool false)], args := [d] }
  | _ => none }
def LayoutChecksWrongFalsely : Prop := layoutChecksRow.holds Tryd.pinned (OpenSpec.ofChange layoutChecksWrong)

/-- 'deduplaw04.LayoutKinds': WHATEVER THE INPUT: true; the input reads as it did. -/
def layoutKindsSpec : ChangeSpec := { name := "layoutKinds", fn := fun _ => fun
  | [d1, d2] => { results := [.lit (.bool true)], args := [d1, d2] }
  | _ => none }
def layoutKindsRow : OpenClaim := { program := "ytlilgfcacoooaaadoor", sum := "7bde49308d61c3302749b28957fd47ddec1d8aead0dafbf58b314b16341a9780", func := "dedup/deduplaw04.LayoutKinds", spec := "layoutKinds", named := ["dedup/codec.crcSteps"], apart := false, laid := [("dedup/codec.crcSteps", laid_dedup_codec_crcSteps)] }
def LayoutKindsSaid : Prop := layoutKindsRow.holds Tryd.pinned (OpenSpec.ofChange layoutKindsSpec)

/-- ITS FALSE NEIGHBOUR: 'it returns false'. Refute it at one input. -/
def layoutKindsWrong : ChangeSpec := { name := "layoutKinds", fn := fun _ => fun
  | [d1, d2] => { results := [.lit (.bool false)], args := [d1, d2] }
  | _ => none }
def LayoutKindsWrongFalsely : Prop := layoutKindsRow.holds Tryd.pinned (OpenSpec.ofChange layoutKindsWrong)

/-- 'deduplaw04.LayoutParts': WHATEVER THE INPUT: true; the input reads as it did. -/
def layoutPartsSpec : ChangeSpec := { name := "layoutParts", fn := fun _ => fun
  | [d] => { results := [.lit (.bool true)], args := [d] }
  | _ => none }
def layoutPartsRow : OpenClaim := { program := "ytlilgfcacoooaaadoor", sum := "7bde49308d61c3302749b28957fd47ddec1d8aead0dafbf58b314b16341a9780", func := "dedup/deduplaw04.LayoutParts", spec := "layoutParts", named := ["dedup/codec.crcSteps"], apart := false, laid := [("dedup/codec.crcSteps", laid_dedup_codec_crcSteps)] }
def LayoutPartsSaid : Prop := layoutPartsRow.holds Tryd.pinned (OpenSpec.ofChange layoutPartsSpec)

/-- ITS FALSE NEIGHBOUR: 'it returns false'. Refute it at one input. -/
def layoutPartsWrong : ChangeSpec := { name := "layoutParts", fn := fun _ => fun
  | [d] => { results := [.lit (.bool false)], args := [d] }
  | _ => none }
def LayoutPartsWrongFalsely : Prop := layoutPartsRow.holds Tryd.pinned (OpenSpec.ofChange layoutPartsWrong)

/-- 'deduplaw04.LayoutEncodes': WHATEVER THE INPUT: true; the input reads as it did. -/
def layoutEncodesSpec : ChangeSpec := { name := "layoutEncodes", fn := fun _ => fun
  | [d] => { results := [.lit (.bool true)], args := [d] }
  | _ => none }
def layoutEncodesRow : OpenClaim := { program := "ytlilgfcacoooaaadoor", sum := "7bde49308d61c3302749b28957fd47ddec1d8aead0dafbf58b314b16341a9780", func := "dedup/deduplaw04.LayoutEncodes", spec := "layoutEncodes", named := ["dedup/codec.crcSteps"], apart := false, laid := [("dedup/codec.crcSteps", laid_dedup_codec_crcSteps)] }
def LayoutEncodesSaid : Prop := layoutEncodesRow.holds Tryd.pinned (OpenSpec.ofChange layoutEncodesSpec)

/-- ITS FALSE NEIGHBOUR: 'it returns false'. Refute it at one input. -/
def layoutEncodesWrong : ChangeSpec := { name := "layoutEncodes", fn := fun _ => fun
  | [d] => { results := [.lit (.bool false)], args := [d] }
  | _ => none }
def LayoutEncodesWrongFalsely : Prop := layoutEncodesRow.holds Tryd.pinned (OpenSpec.ofChange layoutEncodesWrong)

/-- 'deduplaw04.LayoutDecodes': WHATEVER THE INPUT: true; the input reads as it did. -/
def layoutDecodesSpec : ChangeSpec := { name := "layoutDecodes", fn := fun _ => fun
  | [d] => { results := [.lit (.bool true)], args := [d] }
  | _ => none }
def layoutDecodesRow : OpenClaim := { program := "ytlilgfcacoooaaadoor", sum := "7bde49308d61c3302749b28957fd47ddec1d8aead0dafbf58b314b16341a9780", func := "dedup/deduplaw04.LayoutDecodes", spec := "layoutDecodes", named := ["dedup/codec.crcSteps"], apart := false, laid := [("dedup/codec.crcSteps", laid_dedup_codec_crcSteps)] }
def LayoutDecodesSaid : Prop := layoutDecodesRow.holds Tryd.pinned (OpenSpec.ofChange layoutDecodesSpec)

/-- ITS FALSE NEIGHBOUR: 'it returns false'. Refute it at one input. -/
def layoutDecodesWrong : ChangeSpec := { name := "layoutDecodes", fn := fun _ => fun
  | [d] => { results := [.lit (.bool false)], args := [d] }
  | _ => none }
def LayoutDecodesWrongFalsely : Prop := layoutDecodesRow.holds Tryd.pinned (OpenSpec.ofChange layoutDecodesWrong)

/-- 'deduplaw04.LayoutChooses': WHATEVER THE INPUT: true; the input reads as it did. -/
def layoutChoosesSpec : ChangeSpec := { name := "layoutChooses", fn := fun _ => fun
  | [d1, d2, d3] => { results := [.lit (.bool true)], args := [d1, d2, d3] }
  | _ => none }
def layoutChoosesRow : OpenClaim := { program := "ytlilgfcacoooaaadoor", sum := "7bde49308d61c3302749b28957fd47ddec1d8aead0dafbf58b314b16341a9780", func := "dedup/deduplaw04.LayoutChooses", spec := "layoutChooses", named := ["dedup/codec.crcSteps"], apart := false, laid := [("dedup/codec.crcSteps", laid_dedup_codec_crcSteps)] }
def LayoutChoosesSaid : Prop := layoutChoosesRow.holds Tryd.pinned (OpenSpec.ofChange layoutChoosesSpec)

/-- ITS FALSE NEIGHBOUR: 'it returns false'. Refute it at one input. -/
def layoutChoosesWrong : ChangeSpec := { name := "layoutChooses", fn := fun _ => fun
  | [d1, d2, d3] => { results := [.lit (.bool false)], args := [d1, d2, d3] }
  | _ => none }
def LayoutChoosesWrongFalsely : Prop := layoutChoosesRow.holds Tryd.pinned (OpenSpec.ofChange layoutChoosesWrong)

/-- 'deduplaw04.LayoutOneOrOther': WHATEVER THE INPUT: true; the input reads as it did. -/
def layoutOneOrOtherSpec : ChangeSpec := { name := "layoutOneOrOther", fn := fun _ => fun
  | [d1, d2, d3] => { results := [.lit (.bool true)], args := [d1, d2, d3] }
  | _ => none }
def layoutOneOrOtherRow : OpenClaim := { program := "ytlilgfcacoooaaadoor", sum := "7bde49308d61c3302749b28957fd47ddec1d8aead0dafbf58b314b16341a9780", func := "dedup/deduplaw04.LayoutOneOrOther", spec := "layoutOneOrOther", named := ["dedup/codec.crcSteps"], apart := false, laid := [("dedup/codec.crcSteps", laid_dedup_codec_crcSteps)] }
def LayoutOneOrOtherSaid : Prop := layoutOneOrOtherRow.holds Tryd.pinned (OpenSpec.ofChange layoutOneOrOtherSpec)

/-- ITS FALSE NEIGHBOUR: 'it returns false'. Refute it at one input. -/
def layoutOneOrOtherWrong : ChangeSpec := { name := "layoutOneOrOther", fn := fun _ => fun
  | [d1, d2, d3] => { results := [.lit (.bool false)], args := [d1, d2, d3] }
  | _ => none }
def LayoutOneOrOtherWrongFalsely : Prop := layoutOneOrOtherRow.holds Tryd.pinned (OpenSpec.ofChange layoutOneOrOtherWrong)

/-- 'deduplaw04.LayoutNames': WHATEVER THE INPUT: true; the input reads as it did. -/
def layoutNamesSpec : ChangeSpec := { name := "layoutNames", fn := fun _ => fun
  | [] => { results := [.lit (.bool true)], args := [] }
  | _ => none }
def layoutNamesRow : OpenClaim := { program := "ytlilgfcacoooaaadoor", sum := "7bde49308d61c3302749b28957fd47ddec1d8aead0dafbf58b314b16341a9780", func := "dedup/deduplaw04.LayoutNames", spec := "layoutNames", named := ["dedup/codec.crcSteps"], apart := false, laid := [("dedup/codec.crcSteps", laid_dedup_codec_crcSteps)] }
def LayoutNamesSaid : Prop := layoutNamesRow.holds Tryd.pinned (OpenSpec.ofChange layoutNamesSpec)

/-- ITS FALSE NEIGHBOUR: 'it returns false'. Refute it at one input. -/
def layoutNamesWrong : ChangeSpec := { name := "layoutNames", fn := fun _ => fun
  | [] => { results := [.lit (.bool false)], args := [] }
  | _ => none }
def LayoutNamesWrongFalsely : Prop := layoutNamesRow.holds Tryd.pinned (OpenSpec.ofChange layoutNamesWrong)

/-- 'deduplaw02.CodecWrites': WHATEVER THE INPUT: true; the input reads as it did. -/
def codecWritesSpec : ChangeSpec := { name := "codecWrites", fn := fun _ => fun
  | [d1, d2] => { results := [.lit (.bool true)], args := [d1, d2] }
  | _ => none }
def codecWritesRow : OpenClaim := { program := "ytlilgfcacoooaaadoor", sum := "7bde49308d61c3302749b28957fd47ddec1d8aead0dafbf58b314b16341a9780", func := "dedup/deduplaw02.CodecWrites", spec := "codecWrites", named := ["dedup/codec.crcSteps"], apart := false, laid := [("dedup/codec.crcSteps", laid_dedup_codec_crcSteps)] }
def CodecWritesSaid : Prop := codecWritesRow.holds Tryd.pinned (OpenSpec.ofChange codecWritesSpec)

/-- ITS FALSE NEIGHBOUR: 'it returns false'. Refute it at one input. -/
def codecWritesWrong : ChangeSpec := { name := "codecWrites", fn := fun _ => fun
  | [d1, d2] => { results := [.lit (.bool false)], args := [d1, d2] }
  | _ => none }
def CodecWritesWrongFalsely : Prop := codecWritesRow.holds Tryd.pinned (OpenSpec.ofChange codecWritesWrong)

/-- 'deduplaw02.CodecReads': WHATEVER THE INPUT: true; the input reads as it did. -/
def codecReadsSpec : ChangeSpec := { name := "codecReads", fn := fun _ => fun
  | [d1, d2] => { results := [.lit (.bool true)], args := [d1, d2] }
  | _ => none }
def codecReadsRow : OpenClaim := { program := "ytlilgfcacoooaaadoor", sum := "7bde49308d61c3302749b28957fd47ddec1d8aead0dafbf58b314b16341a9780", func := "dedup/deduplaw02.CodecReads", spec := "codecReads", named := ["dedup/codec.crcSteps"], apart := false, laid := [("dedup/codec.crcSteps", laid_dedup_codec_crcSteps)] }
def CodecReadsSaid : Prop := codecReadsRow.holds Tryd.pinned (OpenSpec.ofChange codecReadsSpec)

/-- ITS FALSE NEIGHBOUR: 'it returns false'. Refute it at one input. -/
def codecReadsWrong : ChangeSpec := { name := "codecReads", fn := fun _ => fun
  | [d1, d2] => { results := [.lit (.bool false)], args := [d1, d2] }
  | _ => none }
def CodecReadsWrongFalsely : Prop := codecReadsRow.holds Tryd.pinned (OpenSpec.ofChange codecReadsWrong)

/-- 'deduplaw02.CodecBack': WHATEVER THE INPUT: true; the input reads as it did. -/
def codecBackSpec : ChangeSpec := { name := "codecBack", fn := fun _ => fun
  | [d] => { results := [.lit (.bool true)], args := [d] }
  | _ => none }
def codecBackRow : OpenClaim := { program := "ytlilgfcacoooaaadoor", sum := "7bde49308d61c3302749b28957fd47ddec1d8aead0dafbf58b314b16341a9780", func := "dedup/deduplaw02.CodecBack", spec := "codecBack", named := ["dedup/codec.crcSteps"], apart := false, laid := [("dedup/codec.crcSteps", laid_dedup_codec_crcSteps)] }
def CodecBackSaid : Prop := codecBackRow.holds Tryd.pinned (OpenSpec.ofChange codecBackSpec)

/-- ITS FALSE NEIGHBOUR: 'it returns false'. Refute it at one input. -/
def codecBackWrong : ChangeSpec := { name := "codecBack", fn := fun _ => fun
  | [d] => { results := [.lit (.bool false)], args := [d] }
  | _ => none }
def CodecBackWrongFalsely : Prop := codecBackRow.holds Tryd.pinned (OpenSpec.ofChange codecBackWrong)

/-- 'deduplaw02.CodecTurned': WHATEVER THE INPUT: true; the input reads as it did. -/
def codecTurnedSpec : ChangeSpec := { name := "codecTurned", fn := fun _ => fun
  | [d] => { results := [.lit (.bool true)], args := [d] }
  | _ => none }
def codecTurnedRow : OpenClaim := { program := "ytlilgfcacoooaaadoor", sum := "7bde49308d61c3302749b28957fd47ddec1d8aead0dafbf58b314b16341a9780", func := "dedup/deduplaw02.CodecTurned", spec := "codecTurned", named := ["dedup/codec.crcSteps"], apart := false, laid := [("dedup/codec.crcSteps", laid_dedup_codec_crcSteps)] }
def CodecTurnedSaid : Prop := codecTurnedRow.holds Tryd.pinned (OpenSpec.ofChange codecTurnedSpec)

/-- ITS FALSE NEIGHBOUR: 'it returns false'. Refute it at one input. -/
def codecTurnedWrong : ChangeSpec := { name := "codecTurned", fn := fun _ => fun
  | [d] => { results := [.lit (.bool false)], args := [d] }
  | _ => none }
def CodecTurnedWrongFalsely : Prop := codecTurnedRow.holds Tryd.pinned (OpenSpec.ofChange codecTurnedWrong)

/- THE SECOND FORM. 'bulk': how many values and letters a reading holds, each counted each time it is reached (what is shared counts as often as it is met; a slice's spare places count too). A statement '..UptoSaid' is the law's where the arguments, and the package variables that the reading takes, are together of bulk at most 1048576: NARROWER than '..Said'. Prove '..Said' where nothing that the law and all that it calls make is longer than what came in: it says more and counts as full. Else prove '..UptoSaid'. A law counts once. -/
mutual
def uptoBulk {H : Type} : DataW H → Nat
  | .lit (.string bytes) => bytes.length + 1
  | .lit _ => 1
  | .nil => 1
  | .ptr d => uptoBulk d + 1
  | .slice elems spare => uptoBulkAll elems + uptoBulkAll spare + 1
  | .agg parts => uptoBulkAll parts + 1
  | .iface _ d => uptoBulk d + 1
  | .map entries => uptoBulkEntries entries + 1
  | .held _ => 1
def uptoBulkAll {H : Type} : List (DataW H) → Nat
  | [] => 0
  | d :: r => uptoBulk d + uptoBulkAll r
def uptoBulkEntries {H : Type} : List (Lit × DataW H) → Nat
  | [] => 0
  | x :: r => uptoBulkEntry x + uptoBulkEntries r
def uptoBulkEntry {H : Type} : Lit × DataW H → Nat
  | (.string bytes, d) => bytes.length + uptoBulk d + 1
  | (_, d) => uptoBulk d + 1
 end
def uptoSmall : (H : Type) → List (DataW H) → Bool := fun _ ds => decide (uptoBulkAll ds ≤ 1048576)
def OpenSpec.upto (s : _root_.Go.ChangeSpec) : _root_.Go.OpenSpec := { _root_.Go.OpenSpec.ofChange s with cond := some uptoSmall }

/-- 'deduplaw04.LayoutChecks', WHERE WHAT IT READS IS OF BULK AT MOST 1048576: true; the input reads as it did. -/
def layoutChecksUptoRow : OpenClaim := { program := "ytlilgfcacoooaaadoor", sum := "7bde49308d61c3302749b28957fd47ddec1d8aead0dafbf58b314b16341a9780", func := "dedup/deduplaw04.LayoutChecks", spec := "layoutChecks", named := ["dedup/codec.crcSteps"], apart := false, laid := [("dedup/codec.crcSteps", laid_dedup_codec_crcSteps)], narrowed := true }
def LayoutChecksUptoSaid : Prop := layoutChecksUptoRow.holds Tryd.pinned (OpenSpec.upto layoutChecksSpec)

/-- 'deduplaw04.LayoutKinds', WHERE WHAT IT READS IS OF BULK AT MOST 1048576: true; the input reads as it did. -/
def layoutKindsUptoRow : OpenClaim := { program := "ytlilgfcacoooaaadoor", sum := "7bde49308d61c3302749b28957fd47ddec1d8aead0dafbf58b314b16341a9780", func := "dedup/deduplaw04.LayoutKinds", spec := "layoutKinds", named := ["dedup/codec.crcSteps"], apart := false, laid := [("dedup/codec.crcSteps", laid_dedup_codec_crcSteps)], narrowed := true }
def LayoutKindsUptoSaid : Prop := layoutKindsUptoRow.holds Tryd.pinned (OpenSpec.upto layoutKindsSpec)

/-- 'deduplaw04.LayoutParts', WHERE WHAT IT READS IS OF BULK AT MOST 1048576: true; the input reads as it did. -/
def layoutPartsUptoRow : OpenClaim := { program := "ytlilgfcacoooaaadoor", sum := "7bde49308d61c3302749b28957fd47ddec1d8aead0dafbf58b314b16341a9780", func := "dedup/deduplaw04.LayoutParts", spec := "layoutParts", named := ["dedup/codec.crcSteps"], apart := false, laid := [("dedup/codec.crcSteps", laid_dedup_codec_crcSteps)], narrowed := true }
def LayoutPartsUptoSaid : Prop := layoutPartsUptoRow.holds Tryd.pinned (OpenSpec.upto layoutPartsSpec)

/-- 'deduplaw04.LayoutEncodes', WHERE WHAT IT READS IS OF BULK AT MOST 1048576: true; the input reads as it did. -/
def layoutEncodesUptoRow : OpenClaim := { program := "ytlilgfcacoooaaadoor", sum := "7bde49308d61c3302749b28957fd47ddec1d8aead0dafbf58b314b16341a9780", func := "dedup/deduplaw04.LayoutEncodes", spec := "layoutEncodes", named := ["dedup/codec.crcSteps"], apart := false, laid := [("dedup/codec.crcSteps", laid_dedup_codec_crcSteps)], narrowed := true }
def LayoutEncodesUptoSaid : Prop := layoutEncodesUptoRow.holds Tryd.pinned (OpenSpec.upto layoutEncodesSpec)

/-- 'deduplaw04.LayoutDecodes', WHERE WHAT IT READS IS OF BULK AT MOST 1048576: true; the input reads as it did. -/
def layoutDecodesUptoRow : OpenClaim := { program := "ytlilgfcacoooaaadoor", sum := "7bde49308d61c3302749b28957fd47ddec1d8aead0dafbf58b314b16341a9780", func := "dedup/deduplaw04.LayoutDecodes", spec := "layoutDecodes", named := ["dedup/codec.crcSteps"], apart := false, laid := [("dedup/codec.crcSteps", laid_dedup_codec_crcSteps)], narrowed := true }
def LayoutDecodesUptoSaid : Prop := layoutDecodesUptoRow.holds Tryd.pinned (OpenSpec.upto layoutDecodesSpec)

/-- 'deduplaw04.LayoutChooses', WHERE WHAT IT READS IS OF BULK AT MOST 1048576: true; the input reads as it did. -/
def layoutChoosesUptoRow : OpenClaim := { program := "ytlilgfcacoooaaadoor", sum := "7bde49308d61c3302749b28957fd47ddec1d8aead0dafbf58b314b16341a9780", func := "dedup/deduplaw04.LayoutChooses", spec := "layoutChooses", named := ["dedup/codec.crcSteps"], apart := false, laid := [("dedup/codec.crcSteps", laid_dedup_codec_crcSteps)], narrowed := true }
def LayoutChoosesUptoSaid : Prop := layoutChoosesUptoRow.holds Tryd.pinned (OpenSpec.upto layoutChoosesSpec)

/-- 'deduplaw04.LayoutOneOrOther', WHERE WHAT IT READS IS OF BULK AT MOST 1048576: true; the input reads as it did. -/
def layoutOneOrOtherUptoRow : OpenClaim := { program := "ytlilgfcacoooaaadoor", sum := "7bde49308d61c3302749b28957fd47ddec1d8aead0dafbf58b314b16341a9780", func := "dedup/deduplaw04.LayoutOneOrOther", spec := "layoutOneOrOther", named := ["dedup/codec.crcSteps"], apart := false, laid := [("dedup/codec.crcSteps", laid_dedup_codec_crcSteps)], narrowed := true }
def LayoutOneOrOtherUptoSaid : Prop := layoutOneOrOtherUptoRow.holds Tryd.pinned (OpenSpec.upto layoutOneOrOtherSpec)

/-- 'deduplaw04.LayoutNames', WHERE WHAT IT READS IS OF BULK AT MOST 1048576: true; the input reads as it did. -/
def layoutNamesUptoRow : OpenClaim := { program := "ytlilgfcacoooaaadoor", sum := "7bde49308d61c3302749b28957fd47ddec1d8aead0dafbf58b314b16341a9780", func := "dedup/deduplaw04.LayoutNames", spec := "layoutNames", named := ["dedup/codec.crcSteps"], apart := false, laid := [("dedup/codec.crcSteps", laid_dedup_codec_crcSteps)], narrowed := true }
def LayoutNamesUptoSaid : Prop := layoutNamesUptoRow.holds Tryd.pinned (OpenSpec.upto layoutNamesSpec)

/-- 'deduplaw02.CodecWrites', WHERE WHAT IT READS IS OF BULK AT MOST 1048576: true; the input reads as it did. -/
def codecWritesUptoRow : OpenClaim := { program := "ytlilgfcacoooaaadoor", sum := "7bde49308d61c3302749b28957fd47ddec1d8aead0dafbf58b314b16341a9780", func := "dedup/deduplaw02.CodecWrites", spec := "codecWrites", named := ["dedup/codec.crcSteps"], apart := false, laid := [("dedup/codec.crcSteps", laid_dedup_codec_crcSteps)], narrowed := true }
def CodecWritesUptoSaid : Prop := codecWritesUptoRow.holds Tryd.pinned (OpenSpec.upto codecWritesSpec)

/-- 'deduplaw02.CodecReads', WHERE WHAT IT READS IS OF BULK AT MOST 1048576: true; the input reads as it did. -/
def codecReadsUptoRow : OpenClaim := { program := "ytlilgfcacoooaaadoor", sum := "7bde49308d61c3302749b28957fd47ddec1d8aead0dafbf58b314b16341a9780", func := "dedup/deduplaw02.CodecReads", spec := "codecReads", named := ["dedup/codec.crcSteps"], apart := false, laid := [("dedup/codec.crcSteps", laid_dedup_codec_crcSteps)], narrowed := true }
def CodecReadsUptoSaid : Prop := codecReadsUptoRow.holds Tryd.pinned (OpenSpec.upto codecReadsSpec)

/-- 'deduplaw02.CodecBack', WHERE WHAT IT READS IS OF BULK AT MOST 1048576: true; the input reads as it did. -/
def codecBackUptoRow : OpenClaim := { program := "ytlilgfcacoooaaadoor", sum := "7bde49308d61c3302749b28957fd47ddec1d8aead0dafbf58b314b16341a9780", func := "dedup/deduplaw02.CodecBack", spec := "codecBack", named := ["dedup/codec.crcSteps"], apart := false, laid := [("dedup/codec.crcSteps", laid_dedup_codec_crcSteps)], narrowed := true }
def CodecBackUptoSaid : Prop := codecBackUptoRow.holds Tryd.pinned (OpenSpec.upto codecBackSpec)

/-- 'deduplaw02.CodecTurned', WHERE WHAT IT READS IS OF BULK AT MOST 1048576: true; the input reads as it did. -/
def codecTurnedUptoRow : OpenClaim := { program := "ytlilgfcacoooaaadoor", sum := "7bde49308d61c3302749b28957fd47ddec1d8aead0dafbf58b314b16341a9780", func := "dedup/deduplaw02.CodecTurned", spec := "codecTurned", named := ["dedup/codec.crcSteps"], apart := false, laid := [("dedup/codec.crcSteps", laid_dedup_codec_crcSteps)], narrowed := true }
def CodecTurnedUptoSaid : Prop := codecTurnedUptoRow.holds Tryd.pinned (OpenSpec.upto codecTurnedSpec)

end Rows
end Go.Proofs.YtlilgfcacoooaaaDoor
