/-
  NARROWER THAN 'FOR EVERY INPUT', by the rows' own cells (each row's printed sentence says how): PackPlays: laid · PackScans: laid · PackChunks: laid · PackBack: laid · PackNobody: laid · PackForks: laid.
  DERIVED. THE GIVEN ROWS OF THIS SEAT. 6 by the template 'for every input the law returns true; each argument reads behind the call as it read before'; 0 by the template 'total and deterministic' (their statements: YtafdkfieajdeiaaDoorTotals.lean).
  GIVEN WITH THE SEED: the statements are not yours to turn. If you find one false, say at which input.
  Laid BY PROGRAM, IN A SANDBOX (cutbox-rows.mjs): the forced cells as the released guide's own fill.sh prints them over the translation 0bce6f699287e194… (all of the seat's roots in one cut). By AI agents, Wed Nov 11 2026. No macro, syntax, notation, axiom, sorry.
-/
import Derived.Test.YtafdkfieajdeiaaDoorChecked
import GoSem.Claim
import GoSem.ClaimJoined
import GoSem.ClaimMapViews
import Derived.JoinedTies
import Derived.KernelRfl
namespace Go.Proofs.YtafdkfieajdeiaaDoor
/- THE CELL 'sum', in the pinned program and in every row, IS THE sha256 OF THE DUMP (.gsa) THAT YtafdkfieajdeiaaDoorProg.lean LOADS. Nothing in Lean hashes anything: it is a label: what it is worth is what the hold of that sum in a sandbox is worth. -/
noncomputable def Tryd.pinned : Pinned := { name := "ytafdkfieajdeiaadoor", sum := "0bce6f699287e19433aa34109eb2fc66df42674e83f79874249a769276d6d40c", checked := Tryd.checked }
namespace Rows
def none {H : Type} : Left H := { results := [], args := [] }

/- WHAT THE LISTED PACKAGE-LEVEL VARIABLES READ AS WHEN THE CALL BEGINS. Each datum BY PROGRAM (the guide's laid-datum.mjs) off the statement by which the dump's own 'gosem.cut.vars' lays the variable. In a bare row this is a premise. The card (YtafdkfieajdeiaaDoorCards.lean) ties it to the program's text. -/
def laid_dedup_codec_crcSteps {H : Type} : DataW H := .agg [.lit (.int .u32 0), .lit (.int .u32 274646895), .lit (.int .u32 549293790), .lit (.int .u32 820201905), .lit (.int .u32 1098587580), .lit (.int .u32 1361435347), .lit (.int .u32 1640403810), .lit (.int .u32 1905808397), .lit (.int .u32 2197175160), .lit (.int .u32 2460548119), .lit (.int .u32 2722870694), .lit (.int .u32 2987750089), .lit (.int .u32 3280807620), .lit (.int .u32 3553878443), .lit (.int .u32 3811616794), .lit (.int .u32 4084100981)]

/-- 'deduplaw13.PackPlays': WHATEVER THE INPUT: true; the input reads as it did. -/
def packPlaysSpec : ChangeSpec := { name := "packPlays", fn := fun _ => fun
  | [d1, d2, d3, d4] => { results := [.lit (.bool true)], args := [d1, d2, d3, d4] }
  | _ => none }
def packPlaysRow : OpenClaim := { program := "ytafdkfieajdeiaadoor", sum := "0bce6f699287e19433aa34109eb2fc66df42674e83f79874249a769276d6d40c", func := "dedup/deduplaw13.PackPlays", spec := "packPlays", unfollowed := true, recurses := true, named := ["dedup/codec.crcSteps"], apart := false, laid := [("dedup/codec.crcSteps", laid_dedup_codec_crcSteps)] }
def PackPlaysSaid : Prop := packPlaysRow.holds Tryd.pinned (OpenSpec.ofChange packPlaysSpec)

/-- ITS FALSE NEIGHBOUR: 'it returns false'. Refute it at one input. -/
def packPlaysWrong : ChangeSpec := { name := "packPlays", fn := fun _ => fun
  | [d1, d2, d3, d4] => { results := [.lit (.bool false)], args := [d1, d2, d3, d4] }
  | _ => none }
def PackPlaysWrongFalsely : Prop := packPlaysRow.holds Tryd.pinned (OpenSpec.ofChange packPlaysWrong)

/-- 'deduplaw13.PackScans': WHATEVER THE INPUT: true; the input reads as it did. -/
def packScansSpec : ChangeSpec := { name := "packScans", fn := fun _ => fun
  | [d1, d2, d3] => { results := [.lit (.bool true)], args := [d1, d2, d3] }
  | _ => none }
def packScansRow : OpenClaim := { program := "ytafdkfieajdeiaadoor", sum := "0bce6f699287e19433aa34109eb2fc66df42674e83f79874249a769276d6d40c", func := "dedup/deduplaw13.PackScans", spec := "packScans", unfollowed := true, recurses := true, named := ["dedup/codec.crcSteps"], apart := false, laid := [("dedup/codec.crcSteps", laid_dedup_codec_crcSteps)] }
def PackScansSaid : Prop := packScansRow.holds Tryd.pinned (OpenSpec.ofChange packScansSpec)

/-- ITS FALSE NEIGHBOUR: 'it returns false'. Refute it at one input. -/
def packScansWrong : ChangeSpec := { name := "packScans", fn := fun _ => fun
  | [d1, d2, d3] => { results := [.lit (.bool false)], args := [d1, d2, d3] }
  | _ => none }
def PackScansWrongFalsely : Prop := packScansRow.holds Tryd.pinned (OpenSpec.ofChange packScansWrong)

/-- 'deduplaw13.PackChunks': WHATEVER THE INPUT: true; the input reads as it did. -/
def packChunksSpec : ChangeSpec := { name := "packChunks", fn := fun _ => fun
  | [d1, d2] => { results := [.lit (.bool true)], args := [d1, d2] }
  | _ => none }
def packChunksRow : OpenClaim := { program := "ytafdkfieajdeiaadoor", sum := "0bce6f699287e19433aa34109eb2fc66df42674e83f79874249a769276d6d40c", func := "dedup/deduplaw13.PackChunks", spec := "packChunks", unfollowed := true, recurses := true, named := ["dedup/codec.crcSteps"], apart := false, laid := [("dedup/codec.crcSteps", laid_dedup_codec_crcSteps)] }
def PackChunksSaid : Prop := packChunksRow.holds Tryd.pinned (OpenSpec.ofChange packChunksSpec)

/-- ITS FALSE NEIGHBOUR: 'it returns false'. Refute it at one input. -/
def packChunksWrong : ChangeSpec := { name := "packChunks", fn := fun _ => fun
  | [d1, d2] => { results := [.lit (.bool false)], args := [d1, d2] }
  | _ => none }
def PackChunksWrongFalsely : Prop := packChunksRow.holds Tryd.pinned (OpenSpec.ofChange packChunksWrong)

/-- 'deduplaw13.PackBack': WHATEVER THE INPUT: true; the input reads as it did. -/
def packBackSpec : ChangeSpec := { name := "packBack", fn := fun _ => fun
  | [d1, d2, d3, d4] => { results := [.lit (.bool true)], args := [d1, d2, d3, d4] }
  | _ => none }
def packBackRow : OpenClaim := { program := "ytafdkfieajdeiaadoor", sum := "0bce6f699287e19433aa34109eb2fc66df42674e83f79874249a769276d6d40c", func := "dedup/deduplaw13.PackBack", spec := "packBack", unfollowed := true, recurses := true, named := ["dedup/codec.crcSteps"], apart := false, laid := [("dedup/codec.crcSteps", laid_dedup_codec_crcSteps)] }
def PackBackSaid : Prop := packBackRow.holds Tryd.pinned (OpenSpec.ofChange packBackSpec)

/-- ITS FALSE NEIGHBOUR: 'it returns false'. Refute it at one input. -/
def packBackWrong : ChangeSpec := { name := "packBack", fn := fun _ => fun
  | [d1, d2, d3, d4] => { results := [.lit (.bool false)], args := [d1, d2, d3, d4] }
  | _ => none }
def PackBackWrongFalsely : Prop := packBackRow.holds Tryd.pinned (OpenSpec.ofChange packBackWrong)

/-- 'deduplaw13.PackNobody': WHATEVER THE INPUT: true; the input reads as it did. -/
def packNobodySpec : ChangeSpec := { name := "packNobody", fn := fun _ => fun
  | [d1, d2, d3] => { results := [.lit (.bool true)], args := [d1, d2, d3] }
  | _ => none }
def packNobodyRow : OpenClaim := { program := "ytafdkfieajdeiaadoor", sum := "0bce6f699287e19433aa34109eb2fc66df42674e83f79874249a769276d6d40c", func := "dedup/deduplaw13.PackNobody", spec := "packNobody", unfollowed := true, recurses := true, named := ["dedup/codec.crcSteps"], apart := false, laid := [("dedup/codec.crcSteps", laid_dedup_codec_crcSteps)] }
def PackNobodySaid : Prop := packNobodyRow.holds Tryd.pinned (OpenSpec.ofChange packNobodySpec)

/-- ITS FALSE NEIGHBOUR: 'it returns false'. Refute it at one input. -/
def packNobodyWrong : ChangeSpec := { name := "packNobody", fn := fun _ => fun
  | [d1, d2, d3] => { results := [.lit (.bool false)], args := [d1, d2, d3] }
  | _ => none }
def PackNobodyWrongFalsely : Prop := packNobodyRow.holds Tryd.pinned (OpenSpec.ofChange packNobodyWrong)

/-- 'deduplaw13.PackForks': WHATEVER THE INPUT: true; the input reads as it did. -/
def packForksSpec : ChangeSpec := { name := "packForks", fn := fun _ => fun
  | [d1, d2, d3, d4] => { results := [.lit (.bool true)], args := [d1, d2, d3, d4] }
  | _ => none }
def packForksRow : OpenClaim := { program := "ytafdkfieajdeiaadoor", sum := "0bce6f699287e19433aa34109eb2fc66df42674e83f79874249a769276d6d40c", func := "dedup/deduplaw13.PackForks", spec := "packForks", unfollowed := true, recurses := true, named := ["dedup/codec.crcSteps"], apart := false, laid := [("dedup/codec.crcSteps", laid_dedup_codec_crcSteps)] }
def PackForksSaid : Prop := packForksRow.holds Tryd.pinned (OpenSpec.ofChange packForksSpec)

/-- ITS FALSE NEIGHBOUR: 'it returns false'. Refute it at one input. -/
def packForksWrong : ChangeSpec := { name := "packForks", fn := fun _ => fun
  | [d1, d2, d3, d4] => { results := [.lit (.bool false)], args := [d1, d2, d3, d4] }
  | _ => none }
def PackForksWrongFalsely : Prop := packForksRow.holds Tryd.pinned (OpenSpec.ofChange packForksWrong)

/- THE SECOND FORM. 'bulk': how many values and letters a reading holds, each counted each time it is reached (what is shared counts as often as it is met; a slice's spare places count too). A statement '..UptoSaid' is the law's where the arguments, and the package variables that the reading takes, are together of bulk at most 1048576: NARROWER than '..Said'. Prove '..Said' where nothing that the law and all that it calls make is longer than what came in: it says more and counts as full. Else prove '..UptoSaid'. A law counts once. -/
mutual
def uptoBulk {H : Type} : DataW H → Nat
  | .lit (.string bytes) => bytes.length + 1
  | .lit _ => 1
  | .nil => 1
  | .ptr d => uptoBulk d + 1
  | .slice elems spare => uptoBulkAll elems + uptoBulkAll spare + 1
  | .agg parts => uptoBulkAll parts + 1
  | .iface _ d => uptoBulk d + 1
  | .map entries => uptoBulkEntries entries + 1
  | .held _ => 1
def uptoBulkAll {H : Type} : List (DataW H) → Nat
  | [] => 0
  | d :: r => uptoBulk d + uptoBulkAll r
def uptoBulkEntries {H : Type} : List (Lit × DataW H) → Nat
  | [] => 0
  | x :: r => uptoBulkEntry x + uptoBulkEntries r
def uptoBulkEntry {H : Type} : Lit × DataW H → Nat
  | (.string bytes, d) => bytes.length + uptoBulk d + 1
  | (_, d) => uptoBulk d + 1
 end
def uptoSmall : (H : Type) → List (DataW H) → Bool := fun _ ds => decide (uptoBulkAll ds ≤ 1048576)
def OpenSpec.upto (s : _root_.Go.ChangeSpec) : _root_.Go.OpenSpec := { _root_.Go.OpenSpec.ofChange s with cond := some uptoSmall }

/-- 'deduplaw13.PackPlays', WHERE WHAT IT READS IS OF BULK AT MOST 1048576: true; the input reads as it did. -/
def packPlaysUptoRow : OpenClaim := { program := "ytafdkfieajdeiaadoor", sum := "0bce6f699287e19433aa34109eb2fc66df42674e83f79874249a769276d6d40c", func := "dedup/deduplaw13.PackPlays", spec := "packPlays", unfollowed := true, recurses := true, named := ["dedup/codec.crcSteps"], apart := false, laid := [("dedup/codec.crcSteps", laid_dedup_codec_crcSteps)], narrowed := true }
def PackPlaysUptoSaid : Prop := packPlaysUptoRow.holds Tryd.pinned (OpenSpec.upto packPlaysSpec)

/-- 'deduplaw13.PackScans', WHERE WHAT IT READS IS OF BULK AT MOST 1048576: true; the input reads as it did. -/
def packScansUptoRow : OpenClaim := { program := "ytafdkfieajdeiaadoor", sum := "0bce6f699287e19433aa34109eb2fc66df42674e83f79874249a769276d6d40c", func := "dedup/deduplaw13.PackScans", spec := "packScans", unfollowed := true, recurses := true, named := ["dedup/codec.crcSteps"], apart := false, laid := [("dedup/codec.crcSteps", laid_dedup_codec_crcSteps)], narrowed := true }
def PackScansUptoSaid : Prop := packScansUptoRow.holds Tryd.pinned (OpenSpec.upto packScansSpec)

/-- 'deduplaw13.PackChunks', WHERE WHAT IT READS IS OF BULK AT MOST 1048576: true; the input reads as it did. -/
def packChunksUptoRow : OpenClaim := { program := "ytafdkfieajdeiaadoor", sum := "0bce6f699287e19433aa34109eb2fc66df42674e83f79874249a769276d6d40c", func := "dedup/deduplaw13.PackChunks", spec := "packChunks", unfollowed := true, recurses := true, named := ["dedup/codec.crcSteps"], apart := false, laid := [("dedup/codec.crcSteps", laid_dedup_codec_crcSteps)], narrowed := true }
def PackChunksUptoSaid : Prop := packChunksUptoRow.holds Tryd.pinned (OpenSpec.upto packChunksSpec)

/-- 'deduplaw13.PackBack', WHERE WHAT IT READS IS OF BULK AT MOST 1048576: true; the input reads as it did. -/
def packBackUptoRow : OpenClaim := { program := "ytafdkfieajdeiaadoor", sum := "0bce6f699287e19433aa34109eb2fc66df42674e83f79874249a769276d6d40c", func := "dedup/deduplaw13.PackBack", spec := "packBack", unfollowed := true, recurses := true, named := ["dedup/codec.crcSteps"], apart := false, laid := [("dedup/codec.crcSteps", laid_dedup_codec_crcSteps)], narrowed := true }
def PackBackUptoSaid : Prop := packBackUptoRow.holds Tryd.pinned (OpenSpec.upto packBackSpec)

/-- 'deduplaw13.PackNobody', WHERE WHAT IT READS IS OF BULK AT MOST 1048576: true; the input reads as it did. -/
def packNobodyUptoRow : OpenClaim := { program := "ytafdkfieajdeiaadoor", sum := "0bce6f699287e19433aa34109eb2fc66df42674e83f79874249a769276d6d40c", func := "dedup/deduplaw13.PackNobody", spec := "packNobody", unfollowed := true, recurses := true, named := ["dedup/codec.crcSteps"], apart := false, laid := [("dedup/codec.crcSteps", laid_dedup_codec_crcSteps)], narrowed := true }
def PackNobodyUptoSaid : Prop := packNobodyUptoRow.holds Tryd.pinned (OpenSpec.upto packNobodySpec)

/-- 'deduplaw13.PackForks', WHERE WHAT IT READS IS OF BULK AT MOST 1048576: true; the input reads as it did. -/
def packForksUptoRow : OpenClaim := { program := "ytafdkfieajdeiaadoor", sum := "0bce6f699287e19433aa34109eb2fc66df42674e83f79874249a769276d6d40c", func := "dedup/deduplaw13.PackForks", spec := "packForks", unfollowed := true, recurses := true, named := ["dedup/codec.crcSteps"], apart := false, laid := [("dedup/codec.crcSteps", laid_dedup_codec_crcSteps)], narrowed := true }
def PackForksUptoSaid : Prop := packForksUptoRow.holds Tryd.pinned (OpenSpec.upto packForksSpec)

end Rows
end Go.Proofs.YtafdkfieajdeiaaDoor
