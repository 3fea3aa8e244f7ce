/-
  NARROWER THAN 'FOR EVERY INPUT', by the rows' own cells (each row's printed sentence says how): TreeNobody: laid · ExtentNobody: laid · InodeNobody: laid · DirNobody: laid.
  DERIVED. THE GIVEN ROWS OF THIS SEAT. 4 by the template 'for every input the law returns true; each argument reads behind the call as it read before'; 0 by the template 'total and deterministic' (their statements: YtmlibjohhgpniaaGreatDoorTotals.lean).
  GIVEN WITH THE SEED: the statements are not yours to turn. If you find one false, say at which input.
  Laid BY PROGRAM, IN A SANDBOX (cutbox-rows.mjs): the forced cells as the released guide's own fill.sh prints them over the translation 84d5bb6f08ef0553… (all of the seat's roots in one cut). By AI agents, Wed Nov 11 2026. No macro, syntax, notation, axiom, sorry.
-/
import Derived.Test.YtmlibjohhgpniaaGreatDoorChecked
import GoSem.Claim
import GoSem.ClaimJoined
import GoSem.ClaimMapViews
import Derived.JoinedTies
import Derived.KernelRfl
namespace Go.Proofs.YtmlibjohhgpniaaGreatDoor
/- THE CELL 'sum', in the pinned program and in every row, IS THE sha256 OF THE DUMP (.gsa) THAT YtmlibjohhgpniaaGreatDoorProg.lean LOADS. Nothing in Lean hashes anything: it is a label: what it is worth is what the hold of that sum in a sandbox is worth. -/
noncomputable def Tryz.pinned : Pinned := { name := "ytmlibjohhgpniaagreatdoor", sum := "84d5bb6f08ef05539647915c99855947479518b9799580f47e3f6a81c74672cc", checked := Tryz.checked }
namespace Rows
def none {H : Type} : Left H := { results := [], args := [] }

/- WHAT THE LISTED PACKAGE-LEVEL VARIABLES READ AS WHEN THE CALL BEGINS. Each datum BY PROGRAM (the guide's laid-datum.mjs) off the statement by which the dump's own 'gosem.cut.vars' lays the variable. In a bare row this is a premise. The card (YtmlibjohhgpniaaGreatDoorCards.lean) ties it to the program's text. -/
def laid_dedup_codec_crcSteps {H : Type} : DataW H := .agg [.lit (.int .u32 0), .lit (.int .u32 274646895), .lit (.int .u32 549293790), .lit (.int .u32 820201905), .lit (.int .u32 1098587580), .lit (.int .u32 1361435347), .lit (.int .u32 1640403810), .lit (.int .u32 1905808397), .lit (.int .u32 2197175160), .lit (.int .u32 2460548119), .lit (.int .u32 2722870694), .lit (.int .u32 2987750089), .lit (.int .u32 3280807620), .lit (.int .u32 3553878443), .lit (.int .u32 3811616794), .lit (.int .u32 4084100981)]

/-- 'deduplaw11.TreeNobody': WHATEVER THE INPUT: true; the input reads as it did. -/
def treeNobodySpec : ChangeSpec := { name := "treeNobody", fn := fun _ => fun
  | [d1, d2] => { results := [.lit (.bool true)], args := [d1, d2] }
  | _ => none }
def treeNobodyRow : OpenClaim := { program := "ytmlibjohhgpniaagreatdoor", sum := "84d5bb6f08ef05539647915c99855947479518b9799580f47e3f6a81c74672cc", func := "dedup/deduplaw11.TreeNobody", spec := "treeNobody", inPlace := ["slices.overlaps[string]", "slices.overlaps[*dedup/tree.page]"], unfollowed := true, recurses := true, named := ["dedup/codec.crcSteps"], apart := false, laid := [("dedup/codec.crcSteps", laid_dedup_codec_crcSteps)] }
def TreeNobodySaid : Prop := treeNobodyRow.holds Tryz.pinned (OpenSpec.ofChange treeNobodySpec)

/-- ITS FALSE NEIGHBOUR: 'it returns false'. Refute it at one input. -/
def treeNobodyWrong : ChangeSpec := { name := "treeNobody", fn := fun _ => fun
  | [d1, d2] => { results := [.lit (.bool false)], args := [d1, d2] }
  | _ => none }
def TreeNobodyWrongFalsely : Prop := treeNobodyRow.holds Tryz.pinned (OpenSpec.ofChange treeNobodyWrong)

/-- 'deduplaw16.ExtentNobody': WHATEVER THE INPUT: true; the input reads as it did. -/
def extentNobodySpec : ChangeSpec := { name := "extentNobody", fn := fun _ => fun
  | [d1, d2, d3] => { results := [.lit (.bool true)], args := [d1, d2, d3] }
  | _ => none }
def extentNobodyRow : OpenClaim := { program := "ytmlibjohhgpniaagreatdoor", sum := "84d5bb6f08ef05539647915c99855947479518b9799580f47e3f6a81c74672cc", func := "dedup/deduplaw16.ExtentNobody", spec := "extentNobody", inPlace := ["slices.overlaps[string]", "slices.overlaps[*dedup/tree.page]"], unfollowed := true, recurses := true, named := ["dedup/codec.crcSteps"], apart := false, laid := [("dedup/codec.crcSteps", laid_dedup_codec_crcSteps)] }
def ExtentNobodySaid : Prop := extentNobodyRow.holds Tryz.pinned (OpenSpec.ofChange extentNobodySpec)

/-- ITS FALSE NEIGHBOUR: 'it returns false'. Refute it at one input. -/
def extentNobodyWrong : ChangeSpec := { name := "extentNobody", fn := fun _ => fun
  | [d1, d2, d3] => { results := [.lit (.bool false)], args := [d1, d2, d3] }
  | _ => none }
def ExtentNobodyWrongFalsely : Prop := extentNobodyRow.holds Tryz.pinned (OpenSpec.ofChange extentNobodyWrong)

/-- 'deduplaw18.InodeNobody': WHATEVER THE INPUT: true; the input reads as it did. -/
def inodeNobodySpec : ChangeSpec := { name := "inodeNobody", fn := fun _ => fun
  | [d] => { results := [.lit (.bool true)], args := [d] }
  | _ => none }
def inodeNobodyRow : OpenClaim := { program := "ytmlibjohhgpniaagreatdoor", sum := "84d5bb6f08ef05539647915c99855947479518b9799580f47e3f6a81c74672cc", func := "dedup/deduplaw18.InodeNobody", spec := "inodeNobody", inPlace := ["slices.overlaps[string]", "slices.overlaps[*dedup/tree.page]"], unfollowed := true, recurses := true, named := ["dedup/codec.crcSteps"], apart := false, laid := [("dedup/codec.crcSteps", laid_dedup_codec_crcSteps)] }
def InodeNobodySaid : Prop := inodeNobodyRow.holds Tryz.pinned (OpenSpec.ofChange inodeNobodySpec)

/-- ITS FALSE NEIGHBOUR: 'it returns false'. Refute it at one input. -/
def inodeNobodyWrong : ChangeSpec := { name := "inodeNobody", fn := fun _ => fun
  | [d] => { results := [.lit (.bool false)], args := [d] }
  | _ => none }
def InodeNobodyWrongFalsely : Prop := inodeNobodyRow.holds Tryz.pinned (OpenSpec.ofChange inodeNobodyWrong)

/-- 'deduplaw19.DirNobody': WHATEVER THE INPUT: true; the input reads as it did. -/
def dirNobodySpec : ChangeSpec := { name := "dirNobody", fn := fun _ => fun
  | [d1, d2, d3] => { results := [.lit (.bool true)], args := [d1, d2, d3] }
  | _ => none }
def dirNobodyRow : OpenClaim := { program := "ytmlibjohhgpniaagreatdoor", sum := "84d5bb6f08ef05539647915c99855947479518b9799580f47e3f6a81c74672cc", func := "dedup/deduplaw19.DirNobody", spec := "dirNobody", inPlace := ["slices.overlaps[string]", "slices.overlaps[*dedup/tree.page]"], unfollowed := true, recurses := true, named := ["dedup/codec.crcSteps"], apart := false, laid := [("dedup/codec.crcSteps", laid_dedup_codec_crcSteps)] }
def DirNobodySaid : Prop := dirNobodyRow.holds Tryz.pinned (OpenSpec.ofChange dirNobodySpec)

/-- ITS FALSE NEIGHBOUR: 'it returns false'. Refute it at one input. -/
def dirNobodyWrong : ChangeSpec := { name := "dirNobody", fn := fun _ => fun
  | [d1, d2, d3] => { results := [.lit (.bool false)], args := [d1, d2, d3] }
  | _ => none }
def DirNobodyWrongFalsely : Prop := dirNobodyRow.holds Tryz.pinned (OpenSpec.ofChange dirNobodyWrong)

/- THE SECOND FORM. 'bulk': how many values and letters a reading holds, each counted each time it is reached (what is shared counts as often as it is met; a slice's spare places count too). A statement '..UptoSaid' is the law's where the arguments, and the package variables that the reading takes, are together of bulk at most 1048576: NARROWER than '..Said'. Prove '..Said' where nothing that the law and all that it calls make is longer than what came in: it says more and counts as full. Else prove '..UptoSaid'. A law counts once. -/
mutual
def uptoBulk {H : Type} : DataW H → Nat
  | .lit (.string bytes) => bytes.length + 1
  | .lit _ => 1
  | .nil => 1
  | .ptr d => uptoBulk d + 1
  | .slice elems spare => uptoBulkAll elems + uptoBulkAll spare + 1
  | .agg parts => uptoBulkAll parts + 1
  | .iface _ d => uptoBulk d + 1
  | .map entries => uptoBulkEntries entries + 1
  | .held _ => 1
def uptoBulkAll {H : Type} : List (DataW H) → Nat
  | [] => 0
  | d :: r => uptoBulk d + uptoBulkAll r
def uptoBulkEntries {H : Type} : List (Lit × DataW H) → Nat
  | [] => 0
  | x :: r => uptoBulkEntry x + uptoBulkEntries r
def uptoBulkEntry {H : Type} : Lit × DataW H → Nat
  | (.string bytes, d) => bytes.length + uptoBulk d + 1
  | (_, d) => uptoBulk d + 1
 end
def uptoSmall : (H : Type) → List (DataW H) → Bool := fun _ ds => decide (uptoBulkAll ds ≤ 1048576)
def OpenSpec.upto (s : _root_.Go.ChangeSpec) : _root_.Go.OpenSpec := { _root_.Go.OpenSpec.ofChange s with cond := some uptoSmall }

/-- 'deduplaw11.TreeNobody', WHERE WHAT IT READS IS OF BULK AT MOST 1048576: true; the input reads as it did. -/
def treeNobodyUptoRow : OpenClaim := { program := "ytmlibjohhgpniaagreatdoor", sum := "84d5bb6f08ef05539647915c99855947479518b9799580f47e3f6a81c74672cc", func := "dedup/deduplaw11.TreeNobody", spec := "treeNobody", inPlace := ["slices.overlaps[string]", "slices.overlaps[*dedup/tree.page]"], unfollowed := true, recurses := true, named := ["dedup/codec.crcSteps"], apart := false, laid := [("dedup/codec.crcSteps", laid_dedup_codec_crcSteps)], narrowed := true }
def TreeNobodyUptoSaid : Prop := treeNobodyUptoRow.holds Tryz.pinned (OpenSpec.upto treeNobodySpec)

/-- 'deduplaw16.ExtentNobody', WHERE WHAT IT READS IS OF BULK AT MOST 1048576: true; the input reads as it did. -/
def extentNobodyUptoRow : OpenClaim := { program := "ytmlibjohhgpniaagreatdoor", sum := "84d5bb6f08ef05539647915c99855947479518b9799580f47e3f6a81c74672cc", func := "dedup/deduplaw16.ExtentNobody", spec := "extentNobody", inPlace := ["slices.overlaps[string]", "slices.overlaps[*dedup/tree.page]"], unfollowed := true, recurses := true, named := ["dedup/codec.crcSteps"], apart := false, laid := [("dedup/codec.crcSteps", laid_dedup_codec_crcSteps)], narrowed := true }
def ExtentNobodyUptoSaid : Prop := extentNobodyUptoRow.holds Tryz.pinned (OpenSpec.upto extentNobodySpec)

/-- 'deduplaw18.InodeNobody', WHERE WHAT IT READS IS OF BULK AT MOST 1048576: true; the input reads as it did. -/
def inodeNobodyUptoRow : OpenClaim := { program := "ytmlibjohhgpniaagreatdoor", sum := "84d5bb6f08ef05539647915c99855947479518b9799580f47e3f6a81c74672cc", func := "dedup/deduplaw18.InodeNobody", spec := "inodeNobody", inPlace := ["slices.overlaps[string]", "slices.overlaps[*dedup/tree.page]"], unfollowed := true, recurses := true, named := ["dedup/codec.crcSteps"], apart := false, laid := [("dedup/codec.crcSteps", laid_dedup_codec_crcSteps)], narrowed := true }
def InodeNobodyUptoSaid : Prop := inodeNobodyUptoRow.holds Tryz.pinned (OpenSpec.upto inodeNobodySpec)

/-- 'deduplaw19.DirNobody', WHERE WHAT IT READS IS OF BULK AT MOST 1048576: true; the input reads as it did. -/
def dirNobodyUptoRow : OpenClaim := { program := "ytmlibjohhgpniaagreatdoor", sum := "84d5bb6f08ef05539647915c99855947479518b9799580f47e3f6a81c74672cc", func := "dedup/deduplaw19.DirNobody", spec := "dirNobody", inPlace := ["slices.overlaps[string]", "slices.overlaps[*dedup/tree.page]"], unfollowed := true, recurses := true, named := ["dedup/codec.crcSteps"], apart := false, laid := [("dedup/codec.crcSteps", laid_dedup_codec_crcSteps)], narrowed := true }
def DirNobodyUptoSaid : Prop := dirNobodyUptoRow.holds Tryz.pinned (OpenSpec.upto dirNobodySpec)

end Rows
end Go.Proofs.YtmlibjohhgpniaaGreatDoor
