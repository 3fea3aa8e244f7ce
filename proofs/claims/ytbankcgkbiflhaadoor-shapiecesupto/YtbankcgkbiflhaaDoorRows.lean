/-
  NARROWER THAN 'FOR EVERY INPUT', by the rows' own cells (each row's printed sentence says how): ShaSums: laid · ShaTexts: laid · ShaParses: laid · ShaBits: laid · ShaMany: laid · ShaPieces: laid · ShaNobody: laid.
  DERIVED. THE GIVEN ROWS OF THIS SEAT. 7 by the template 'for every input the law returns true; each argument reads behind the call as it read before'; 0 by the template 'total and deterministic' (their statements: YtbankcgkbiflhaaDoorTotals.lean).
  GIVEN WITH THE SEED: the statements are not yours to turn. If you find one false, say at which input.
  Laid BY PROGRAM, IN A SANDBOX (cutbox-rows.mjs): the forced cells as the released guide's own fill.sh prints them over the translation 101a8dc1a9f0a9d3… (all of the seat's roots in one cut). By AI agents, Wed Nov 11 2026. No macro, syntax, notation, axiom, sorry.
-/
import Derived.Test.YtbankcgkbiflhaaDoorChecked
import GoSem.Claim
import GoSem.ClaimJoined
import GoSem.ClaimMapViews
import Derived.JoinedTies
import Derived.KernelRfl
namespace Go.Proofs.YtbankcgkbiflhaaDoor
/- THE CELL 'sum', in the pinned program and in every row, IS THE sha256 OF THE DUMP (.gsa) THAT YtbankcgkbiflhaaDoorProg.lean LOADS. Nothing in Lean hashes anything: it is a label: what it is worth is what the hold of that sum in a sandbox is worth. -/
noncomputable def Tryd.pinned : Pinned := { name := "ytbankcgkbiflhaadoor", sum := "101a8dc1a9f0a9d3b42801c59a76464880aa66f2a0c395596dfc10eaf8684c8a", checked := Tryd.checked }
namespace Rows
def none {H : Type} : Left H := { results := [], args := [] }

/- WHAT THE LISTED PACKAGE-LEVEL VARIABLES READ AS WHEN THE CALL BEGINS. Each datum BY PROGRAM (the guide's laid-datum.mjs) off the statement by which the dump's own 'gosem.cut.vars' lays the variable. In a bare row this is a premise. The card (YtbankcgkbiflhaaDoorCards.lean) ties it to the program's text. -/
def laid_dedup_sha_roundWords {H : Type} : DataW H := .agg [.lit (.int .u32 1116352408), .lit (.int .u32 1899447441), .lit (.int .u32 3049323471), .lit (.int .u32 3921009573), .lit (.int .u32 961987163), .lit (.int .u32 1508970993), .lit (.int .u32 2453635748), .lit (.int .u32 2870763221), .lit (.int .u32 3624381080), .lit (.int .u32 310598401), .lit (.int .u32 607225278), .lit (.int .u32 1426881987), .lit (.int .u32 1925078388), .lit (.int .u32 2162078206), .lit (.int .u32 2614888103), .lit (.int .u32 3248222580), .lit (.int .u32 3835390401), .lit (.int .u32 4022224774), .lit (.int .u32 264347078), .lit (.int .u32 604807628), .lit (.int .u32 770255983), .lit (.int .u32 1249150122), .lit (.int .u32 1555081692), .lit (.int .u32 1996064986), .lit (.int .u32 2554220882), .lit (.int .u32 2821834349), .lit (.int .u32 2952996808), .lit (.int .u32 3210313671), .lit (.int .u32 3336571891), .lit (.int .u32 3584528711), .lit (.int .u32 113926993), .lit (.int .u32 338241895), .lit (.int .u32 666307205), .lit (.int .u32 773529912), .lit (.int .u32 1294757372), .lit (.int .u32 1396182291), .lit (.int .u32 1695183700), .lit (.int .u32 1986661051), .lit (.int .u32 2177026350), .lit (.int .u32 2456956037), .lit (.int .u32 2730485921), .lit (.int .u32 2820302411), .lit (.int .u32 3259730800), .lit (.int .u32 3345764771), .lit (.int .u32 3516065817), .lit (.int .u32 3600352804), .lit (.int .u32 4094571909), .lit (.int .u32 275423344), .lit (.int .u32 430227734), .lit (.int .u32 506948616), .lit (.int .u32 659060556), .lit (.int .u32 883997877), .lit (.int .u32 958139571), .lit (.int .u32 1322822218), .lit (.int .u32 1537002063), .lit (.int .u32 1747873779), .lit (.int .u32 1955562222), .lit (.int .u32 2024104815), .lit (.int .u32 2227730452), .lit (.int .u32 2361852424), .lit (.int .u32 2428436474), .lit (.int .u32 2756734187), .lit (.int .u32 3204031479), .lit (.int .u32 3329325298)]

/-- 'deduplaw01.ShaSums': WHATEVER THE INPUT: true; the input reads as it did. -/
def shaSumsSpec : ChangeSpec := { name := "shaSums", fn := fun _ => fun
  | [d] => { results := [.lit (.bool true)], args := [d] }
  | _ => none }
def shaSumsRow : OpenClaim := { program := "ytbankcgkbiflhaadoor", sum := "101a8dc1a9f0a9d3b42801c59a76464880aa66f2a0c395596dfc10eaf8684c8a", func := "dedup/deduplaw01.ShaSums", spec := "shaSums", named := ["dedup/sha.roundWords"], apart := false, laid := [("dedup/sha.roundWords", laid_dedup_sha_roundWords)] }
def ShaSumsSaid : Prop := shaSumsRow.holds Tryd.pinned (OpenSpec.ofChange shaSumsSpec)

/-- ITS FALSE NEIGHBOUR: 'it returns false'. Refute it at one input. -/
def shaSumsWrong : ChangeSpec := { name := "shaSums", fn := fun _ => fun
  | [d] => { results := [.lit (.bool false)], args := [d] }
  | _ => none }
def ShaSumsWrongFalsely : Prop := shaSumsRow.holds Tryd.pinned (OpenSpec.ofChange shaSumsWrong)

/-- 'deduplaw01.ShaTexts': WHATEVER THE INPUT: true; the input reads as it did. -/
def shaTextsSpec : ChangeSpec := { name := "shaTexts", fn := fun _ => fun
  | [d] => { results := [.lit (.bool true)], args := [d] }
  | _ => none }
def shaTextsRow : OpenClaim := { program := "ytbankcgkbiflhaadoor", sum := "101a8dc1a9f0a9d3b42801c59a76464880aa66f2a0c395596dfc10eaf8684c8a", func := "dedup/deduplaw01.ShaTexts", spec := "shaTexts", named := ["dedup/sha.roundWords"], apart := false, laid := [("dedup/sha.roundWords", laid_dedup_sha_roundWords)] }
def ShaTextsSaid : Prop := shaTextsRow.holds Tryd.pinned (OpenSpec.ofChange shaTextsSpec)

/-- ITS FALSE NEIGHBOUR: 'it returns false'. Refute it at one input. -/
def shaTextsWrong : ChangeSpec := { name := "shaTexts", fn := fun _ => fun
  | [d] => { results := [.lit (.bool false)], args := [d] }
  | _ => none }
def ShaTextsWrongFalsely : Prop := shaTextsRow.holds Tryd.pinned (OpenSpec.ofChange shaTextsWrong)

/-- 'deduplaw01.ShaParses': WHATEVER THE INPUT: true; the input reads as it did. -/
def shaParsesSpec : ChangeSpec := { name := "shaParses", fn := fun _ => fun
  | [d] => { results := [.lit (.bool true)], args := [d] }
  | _ => none }
def shaParsesRow : OpenClaim := { program := "ytbankcgkbiflhaadoor", sum := "101a8dc1a9f0a9d3b42801c59a76464880aa66f2a0c395596dfc10eaf8684c8a", func := "dedup/deduplaw01.ShaParses", spec := "shaParses", named := ["dedup/sha.roundWords"], apart := false, laid := [("dedup/sha.roundWords", laid_dedup_sha_roundWords)] }
def ShaParsesSaid : Prop := shaParsesRow.holds Tryd.pinned (OpenSpec.ofChange shaParsesSpec)

/-- ITS FALSE NEIGHBOUR: 'it returns false'. Refute it at one input. -/
def shaParsesWrong : ChangeSpec := { name := "shaParses", fn := fun _ => fun
  | [d] => { results := [.lit (.bool false)], args := [d] }
  | _ => none }
def ShaParsesWrongFalsely : Prop := shaParsesRow.holds Tryd.pinned (OpenSpec.ofChange shaParsesWrong)

/-- 'deduplaw01.ShaBits': WHATEVER THE INPUT: true; the input reads as it did. -/
def shaBitsSpec : ChangeSpec := { name := "shaBits", fn := fun _ => fun
  | [d1, d2, d3] => { results := [.lit (.bool true)], args := [d1, d2, d3] }
  | _ => none }
def shaBitsRow : OpenClaim := { program := "ytbankcgkbiflhaadoor", sum := "101a8dc1a9f0a9d3b42801c59a76464880aa66f2a0c395596dfc10eaf8684c8a", func := "dedup/deduplaw01.ShaBits", spec := "shaBits", named := ["dedup/sha.roundWords"], apart := false, laid := [("dedup/sha.roundWords", laid_dedup_sha_roundWords)] }
def ShaBitsSaid : Prop := shaBitsRow.holds Tryd.pinned (OpenSpec.ofChange shaBitsSpec)

/-- ITS FALSE NEIGHBOUR: 'it returns false'. Refute it at one input. -/
def shaBitsWrong : ChangeSpec := { name := "shaBits", fn := fun _ => fun
  | [d1, d2, d3] => { results := [.lit (.bool false)], args := [d1, d2, d3] }
  | _ => none }
def ShaBitsWrongFalsely : Prop := shaBitsRow.holds Tryd.pinned (OpenSpec.ofChange shaBitsWrong)

/-- 'deduplaw01.ShaMany': WHATEVER THE INPUT: true; the input reads as it did. -/
def shaManySpec : ChangeSpec := { name := "shaMany", fn := fun _ => fun
  | [d1, d2] => { results := [.lit (.bool true)], args := [d1, d2] }
  | _ => none }
def shaManyRow : OpenClaim := { program := "ytbankcgkbiflhaadoor", sum := "101a8dc1a9f0a9d3b42801c59a76464880aa66f2a0c395596dfc10eaf8684c8a", func := "dedup/deduplaw01.ShaMany", spec := "shaMany", inPlace := ["(*sync.WaitGroup).Add", "internal/race.ReleaseMerge", "internal/race.Disable", "internal/race.Enable", "internal/synctest.IsInBubble", "internal/synctest.Associate[sync.WaitGroup]", "sync.fatal", "sync/atomic.OrUint64", "sync/atomic.AddUint64", "internal/race.Read", "sync/atomic.LoadUint64", "sync/atomic.StoreUint64", "internal/synctest.Disassociate[sync.WaitGroup]", "sync.runtime_Semrelease", "(*sync.WaitGroup).Done", "(*sync.WaitGroup).Wait", "internal/race.Acquire", "internal/synctest.IsAssociated[sync.WaitGroup]", "sync/atomic.CompareAndSwapUint64", "internal/race.Write", "sync.runtime_SemacquireWaitGroup"], named := ["dedup/sha.roundWords"], leaving := true, apart := false, laid := [("dedup/sha.roundWords", laid_dedup_sha_roundWords)] }
def ShaManySaid : Prop := shaManyRow.holds Tryd.pinned (OpenSpec.ofChange shaManySpec)

/-- ITS FALSE NEIGHBOUR: 'it returns false'. Refute it at one input. -/
def shaManyWrong : ChangeSpec := { name := "shaMany", fn := fun _ => fun
  | [d1, d2] => { results := [.lit (.bool false)], args := [d1, d2] }
  | _ => none }
def ShaManyWrongFalsely : Prop := shaManyRow.holds Tryd.pinned (OpenSpec.ofChange shaManyWrong)

/-- 'deduplaw01.ShaPieces': WHATEVER THE INPUT: true; the input reads as it did. -/
def shaPiecesSpec : ChangeSpec := { name := "shaPieces", fn := fun _ => fun
  | [d] => { results := [.lit (.bool true)], args := [d] }
  | _ => none }
def shaPiecesRow : OpenClaim := { program := "ytbankcgkbiflhaadoor", sum := "101a8dc1a9f0a9d3b42801c59a76464880aa66f2a0c395596dfc10eaf8684c8a", func := "dedup/deduplaw01.ShaPieces", spec := "shaPieces", named := ["dedup/sha.roundWords"], apart := false, laid := [("dedup/sha.roundWords", laid_dedup_sha_roundWords)] }
def ShaPiecesSaid : Prop := shaPiecesRow.holds Tryd.pinned (OpenSpec.ofChange shaPiecesSpec)

/-- ITS FALSE NEIGHBOUR: 'it returns false'. Refute it at one input. -/
def shaPiecesWrong : ChangeSpec := { name := "shaPieces", fn := fun _ => fun
  | [d] => { results := [.lit (.bool false)], args := [d] }
  | _ => none }
def ShaPiecesWrongFalsely : Prop := shaPiecesRow.holds Tryd.pinned (OpenSpec.ofChange shaPiecesWrong)

/-- 'deduplaw01.ShaNobody': WHATEVER THE INPUT: true; the input reads as it did. -/
def shaNobodySpec : ChangeSpec := { name := "shaNobody", fn := fun _ => fun
  | [d] => { results := [.lit (.bool true)], args := [d] }
  | _ => none }
def shaNobodyRow : OpenClaim := { program := "ytbankcgkbiflhaadoor", sum := "101a8dc1a9f0a9d3b42801c59a76464880aa66f2a0c395596dfc10eaf8684c8a", func := "dedup/deduplaw01.ShaNobody", spec := "shaNobody", named := ["dedup/sha.roundWords"], apart := false, laid := [("dedup/sha.roundWords", laid_dedup_sha_roundWords)] }
def ShaNobodySaid : Prop := shaNobodyRow.holds Tryd.pinned (OpenSpec.ofChange shaNobodySpec)

/-- ITS FALSE NEIGHBOUR: 'it returns false'. Refute it at one input. -/
def shaNobodyWrong : ChangeSpec := { name := "shaNobody", fn := fun _ => fun
  | [d] => { results := [.lit (.bool false)], args := [d] }
  | _ => none }
def ShaNobodyWrongFalsely : Prop := shaNobodyRow.holds Tryd.pinned (OpenSpec.ofChange shaNobodyWrong)

/- THE SECOND FORM. 'bulk': how many values and letters a reading holds, each counted each time it is reached (what is shared counts as often as it is met; a slice's spare places count too). A statement '..UptoSaid' is the law's where the arguments, and the package variables that the reading takes, are together of bulk at most 1048576: NARROWER than '..Said'. Prove '..Said' where nothing that the law and all that it calls make is longer than what came in: it says more and counts as full. Else prove '..UptoSaid'. A law counts once. -/
mutual
def uptoBulk {H : Type} : DataW H → Nat
  | .lit (.string bytes) => bytes.length + 1
  | .lit _ => 1
  | .nil => 1
  | .ptr d => uptoBulk d + 1
  | .slice elems spare => uptoBulkAll elems + uptoBulkAll spare + 1
  | .agg parts => uptoBulkAll parts + 1
  | .iface _ d => uptoBulk d + 1
  | .map entries => uptoBulkEntries entries + 1
  | .held _ => 1
def uptoBulkAll {H : Type} : List (DataW H) → Nat
  | [] => 0
  | d :: r => uptoBulk d + uptoBulkAll r
def uptoBulkEntries {H : Type} : List (Lit × DataW H) → Nat
  | [] => 0
  | x :: r => uptoBulkEntry x + uptoBulkEntries r
def uptoBulkEntry {H : Type} : Lit × DataW H → Nat
  | (.string bytes, d) => bytes.length + uptoBulk d + 1
  | (_, d) => uptoBulk d + 1
 end
def uptoSmall : (H : Type) → List (DataW H) → Bool := fun _ ds => decide (uptoBulkAll ds ≤ 1048576)
def OpenSpec.upto (s : _root_.Go.ChangeSpec) : _root_.Go.OpenSpec := { _root_.Go.OpenSpec.ofChange s with cond := some uptoSmall }

/-- 'deduplaw01.ShaSums', WHERE WHAT IT READS IS OF BULK AT MOST 1048576: true; the input reads as it did. -/
def shaSumsUptoRow : OpenClaim := { program := "ytbankcgkbiflhaadoor", sum := "101a8dc1a9f0a9d3b42801c59a76464880aa66f2a0c395596dfc10eaf8684c8a", func := "dedup/deduplaw01.ShaSums", spec := "shaSums", named := ["dedup/sha.roundWords"], apart := false, laid := [("dedup/sha.roundWords", laid_dedup_sha_roundWords)], narrowed := true }
def ShaSumsUptoSaid : Prop := shaSumsUptoRow.holds Tryd.pinned (OpenSpec.upto shaSumsSpec)

/-- 'deduplaw01.ShaTexts', WHERE WHAT IT READS IS OF BULK AT MOST 1048576: true; the input reads as it did. -/
def shaTextsUptoRow : OpenClaim := { program := "ytbankcgkbiflhaadoor", sum := "101a8dc1a9f0a9d3b42801c59a76464880aa66f2a0c395596dfc10eaf8684c8a", func := "dedup/deduplaw01.ShaTexts", spec := "shaTexts", named := ["dedup/sha.roundWords"], apart := false, laid := [("dedup/sha.roundWords", laid_dedup_sha_roundWords)], narrowed := true }
def ShaTextsUptoSaid : Prop := shaTextsUptoRow.holds Tryd.pinned (OpenSpec.upto shaTextsSpec)

/-- 'deduplaw01.ShaParses', WHERE WHAT IT READS IS OF BULK AT MOST 1048576: true; the input reads as it did. -/
def shaParsesUptoRow : OpenClaim := { program := "ytbankcgkbiflhaadoor", sum := "101a8dc1a9f0a9d3b42801c59a76464880aa66f2a0c395596dfc10eaf8684c8a", func := "dedup/deduplaw01.ShaParses", spec := "shaParses", named := ["dedup/sha.roundWords"], apart := false, laid := [("dedup/sha.roundWords", laid_dedup_sha_roundWords)], narrowed := true }
def ShaParsesUptoSaid : Prop := shaParsesUptoRow.holds Tryd.pinned (OpenSpec.upto shaParsesSpec)

/-- 'deduplaw01.ShaBits', WHERE WHAT IT READS IS OF BULK AT MOST 1048576: true; the input reads as it did. -/
def shaBitsUptoRow : OpenClaim := { program := "ytbankcgkbiflhaadoor", sum := "101a8dc1a9f0a9d3b42801c59a76464880aa66f2a0c395596dfc10eaf8684c8a", func := "dedup/deduplaw01.ShaBits", spec := "shaBits", named := ["dedup/sha.roundWords"], apart := false, laid := [("dedup/sha.roundWords", laid_dedup_sha_roundWords)], narrowed := true }
def ShaBitsUptoSaid : Prop := shaBitsUptoRow.holds Tryd.pinned (OpenSpec.upto shaBitsSpec)

/-- 'deduplaw01.ShaMany', WHERE WHAT IT READS IS OF BULK AT MOST 1048576: true; the input reads as it did. -/
def shaManyUptoRow : OpenClaim := { program := "ytbankcgkbiflhaadoor", sum := "101a8dc1a9f0a9d3b42801c59a76464880aa66f2a0c395596dfc10eaf8684c8a", func := "dedup/deduplaw01.ShaMany", spec := "shaMany", inPlace := ["(*sync.WaitGroup).Add", "internal/race.ReleaseMerge", "internal/race.Disable", "internal/race.Enable", "internal/synctest.IsInBubble", "internal/synctest.Associate[sync.WaitGroup]", "sync.fatal", "sync/atomic.OrUint64", "sync/atomic.AddUint64", "internal/race.Read", "sync/atomic.LoadUint64", "sync/atomic.StoreUint64", "internal/synctest.Disassociate[sync.WaitGroup]", "sync.runtime_Semrelease", "(*sync.WaitGroup).Done", "(*sync.WaitGroup).Wait", "internal/race.Acquire", "internal/synctest.IsAssociated[sync.WaitGroup]", "sync/atomic.CompareAndSwapUint64", "internal/race.Write", "sync.runtime_SemacquireWaitGroup"], named := ["dedup/sha.roundWords"], leaving := true, apart := false, laid := [("dedup/sha.roundWords", laid_dedup_sha_roundWords)], narrowed := true }
def ShaManyUptoSaid : Prop := shaManyUptoRow.holds Tryd.pinned (OpenSpec.upto shaManySpec)

/-- 'deduplaw01.ShaPieces', WHERE WHAT IT READS IS OF BULK AT MOST 1048576: true; the input reads as it did. -/
def shaPiecesUptoRow : OpenClaim := { program := "ytbankcgkbiflhaadoor", sum := "101a8dc1a9f0a9d3b42801c59a76464880aa66f2a0c395596dfc10eaf8684c8a", func := "dedup/deduplaw01.ShaPieces", spec := "shaPieces", named := ["dedup/sha.roundWords"], apart := false, laid := [("dedup/sha.roundWords", laid_dedup_sha_roundWords)], narrowed := true }
def ShaPiecesUptoSaid : Prop := shaPiecesUptoRow.holds Tryd.pinned (OpenSpec.upto shaPiecesSpec)

/-- 'deduplaw01.ShaNobody', WHERE WHAT IT READS IS OF BULK AT MOST 1048576: true; the input reads as it did. -/
def shaNobodyUptoRow : OpenClaim := { program := "ytbankcgkbiflhaadoor", sum := "101a8dc1a9f0a9d3b42801c59a76464880aa66f2a0c395596dfc10eaf8684c8a", func := "dedup/deduplaw01.ShaNobody", spec := "shaNobody", named := ["dedup/sha.roundWords"], apart := false, laid := [("dedup/sha.roundWords", laid_dedup_sha_roundWords)], narrowed := true }
def ShaNobodyUptoSaid : Prop := shaNobodyUptoRow.holds Tryd.pinned (OpenSpec.upto shaNobodySpec)

end Rows
end Go.Proofs.YtbankcgkbiflhaaDoor
