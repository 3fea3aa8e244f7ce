/-
  NARROWER THAN 'FOR EVERY INPUT', by the rows' own cells (each row's printed sentence says how): SpaceDoes: laid · SpaceLooks: laid · SpaceForks: laid · SpaceApart: laid · SpaceAdds: laid · SpaceReserves: laid · SpaceNobody: laid.
  DERIVED. THE GIVEN ROWS OF THIS SEAT. 7 by the template 'for every input the law returns true; each argument reads behind the call as it read before'; 0 by the template 'total and deterministic' (their statements: YtbmbdidmbdanmaaDoorTotals.lean).
  GIVEN WITH THE SEED: the statements are not yours to turn. If you find one false, say at which input.
  Laid BY PROGRAM, IN A SANDBOX (cutbox-rows.mjs): the forced cells as the released guide's own fill.sh prints them over the translation 7b4ed28aa08c5025… (all of the seat's roots in one cut). By AI agents, Wed Nov 11 2026. No macro, syntax, notation, axiom, sorry.
-/
import Derived.Test.YtbmbdidmbdanmaaDoorChecked
import GoSem.Claim
import GoSem.ClaimJoined
import GoSem.ClaimMapViews
import Derived.JoinedTies
import Derived.KernelRfl
namespace Go.Proofs.YtbmbdidmbdanmaaDoor
/- THE CELL 'sum', in the pinned program and in every row, IS THE sha256 OF THE DUMP (.gsa) THAT YtbmbdidmbdanmaaDoorProg.lean LOADS. Nothing in Lean hashes anything: it is a label: what it is worth is what the hold of that sum in a sandbox is worth. -/
noncomputable def Tryd.pinned : Pinned := { name := "ytbmbdidmbdanmaadoor", sum := "7b4ed28aa08c5025c8c757a99b2620bd1a3e9683c9b6f3367b2ce2edc103aa51", checked := Tryd.checked }
namespace Rows
def none {H : Type} : Left H := { results := [], args := [] }

/- WHAT THE LISTED PACKAGE-LEVEL VARIABLES READ AS WHEN THE CALL BEGINS. Each datum BY PROGRAM (the guide's laid-datum.mjs) off the statement by which the dump's own 'gosem.cut.vars' lays the variable. In a bare row this is a premise. The card (YtbmbdidmbdanmaaDoorCards.lean) ties it to the program's text. -/
def laid_math_bits_deBruijn64tab {H : Type} : DataW H := .agg [.lit (.int .u8 0), .lit (.int .u8 1), .lit (.int .u8 56), .lit (.int .u8 2), .lit (.int .u8 57), .lit (.int .u8 49), .lit (.int .u8 28), .lit (.int .u8 3), .lit (.int .u8 61), .lit (.int .u8 58), .lit (.int .u8 42), .lit (.int .u8 50), .lit (.int .u8 38), .lit (.int .u8 29), .lit (.int .u8 17), .lit (.int .u8 4), .lit (.int .u8 62), .lit (.int .u8 47), .lit (.int .u8 59), .lit (.int .u8 36), .lit (.int .u8 45), .lit (.int .u8 43), .lit (.int .u8 51), .lit (.int .u8 22), .lit (.int .u8 53), .lit (.int .u8 39), .lit (.int .u8 33), .lit (.int .u8 30), .lit (.int .u8 24), .lit (.int .u8 18), .lit (.int .u8 12), .lit (.int .u8 5), .lit (.int .u8 63), .lit (.int .u8 55), .lit (.int .u8 48), .lit (.int .u8 27), .lit (.int .u8 60), .lit (.int .u8 41), .lit (.int .u8 37), .lit (.int .u8 16), .lit (.int .u8 46), .lit (.int .u8 35), .lit (.int .u8 44), .lit (.int .u8 21), .lit (.int .u8 52), .lit (.int .u8 32), .lit (.int .u8 23), .lit (.int .u8 11), .lit (.int .u8 54), .lit (.int .u8 26), .lit (.int .u8 40), .lit (.int .u8 15), .lit (.int .u8 34), .lit (.int .u8 20), .lit (.int .u8 31), .lit (.int .u8 10), .lit (.int .u8 25), .lit (.int .u8 14), .lit (.int .u8 19), .lit (.int .u8 9), .lit (.int .u8 13), .lit (.int .u8 8), .lit (.int .u8 7), .lit (.int .u8 6)]

/-- 'deduplaw06.SpaceDoes': WHATEVER THE INPUT: true; the input reads as it did. -/
def spaceDoesSpec : ChangeSpec := { name := "spaceDoes", fn := fun _ => fun
  | [d] => { results := [.lit (.bool true)], args := [d] }
  | _ => none }
def spaceDoesRow : OpenClaim := { program := "ytbmbdidmbdanmaadoor", sum := "7b4ed28aa08c5025c8c757a99b2620bd1a3e9683c9b6f3367b2ce2edc103aa51", func := "dedup/deduplaw06.SpaceDoes", spec := "spaceDoes", unfollowed := true, recurses := true, named := ["math/bits.deBruijn64tab"], apart := false, laid := [("math/bits.deBruijn64tab", laid_math_bits_deBruijn64tab)] }
def SpaceDoesSaid : Prop := spaceDoesRow.holds Tryd.pinned (OpenSpec.ofChange spaceDoesSpec)

/-- ITS FALSE NEIGHBOUR: 'it returns false'. Refute it at one input. -/
def spaceDoesWrong : ChangeSpec := { name := "spaceDoes", fn := fun _ => fun
  | [d] => { results := [.lit (.bool false)], args := [d] }
  | _ => none }
def SpaceDoesWrongFalsely : Prop := spaceDoesRow.holds Tryd.pinned (OpenSpec.ofChange spaceDoesWrong)

/-- 'deduplaw06.SpaceLooks': WHATEVER THE INPUT: true; the input reads as it did. -/
def spaceLooksSpec : ChangeSpec := { name := "spaceLooks", fn := fun _ => fun
  | [d] => { results := [.lit (.bool true)], args := [d] }
  | _ => none }
def spaceLooksRow : OpenClaim := { program := "ytbmbdidmbdanmaadoor", sum := "7b4ed28aa08c5025c8c757a99b2620bd1a3e9683c9b6f3367b2ce2edc103aa51", func := "dedup/deduplaw06.SpaceLooks", spec := "spaceLooks", unfollowed := true, recurses := true, named := ["math/bits.deBruijn64tab"], apart := false, laid := [("math/bits.deBruijn64tab", laid_math_bits_deBruijn64tab)] }
def SpaceLooksSaid : Prop := spaceLooksRow.holds Tryd.pinned (OpenSpec.ofChange spaceLooksSpec)

/-- ITS FALSE NEIGHBOUR: 'it returns false'. Refute it at one input. -/
def spaceLooksWrong : ChangeSpec := { name := "spaceLooks", fn := fun _ => fun
  | [d] => { results := [.lit (.bool false)], args := [d] }
  | _ => none }
def SpaceLooksWrongFalsely : Prop := spaceLooksRow.holds Tryd.pinned (OpenSpec.ofChange spaceLooksWrong)

/-- 'deduplaw06.SpaceForks': WHATEVER THE INPUT: true; the input reads as it did. -/
def spaceForksSpec : ChangeSpec := { name := "spaceForks", fn := fun _ => fun
  | [d1, d2] => { results := [.lit (.bool true)], args := [d1, d2] }
  | _ => none }
def spaceForksRow : OpenClaim := { program := "ytbmbdidmbdanmaadoor", sum := "7b4ed28aa08c5025c8c757a99b2620bd1a3e9683c9b6f3367b2ce2edc103aa51", func := "dedup/deduplaw06.SpaceForks", spec := "spaceForks", unfollowed := true, recurses := true, named := ["math/bits.deBruijn64tab"], apart := false, laid := [("math/bits.deBruijn64tab", laid_math_bits_deBruijn64tab)] }
def SpaceForksSaid : Prop := spaceForksRow.holds Tryd.pinned (OpenSpec.ofChange spaceForksSpec)

/-- ITS FALSE NEIGHBOUR: 'it returns false'. Refute it at one input. -/
def spaceForksWrong : ChangeSpec := { name := "spaceForks", fn := fun _ => fun
  | [d1, d2] => { results := [.lit (.bool false)], args := [d1, d2] }
  | _ => none }
def SpaceForksWrongFalsely : Prop := spaceForksRow.holds Tryd.pinned (OpenSpec.ofChange spaceForksWrong)

/-- 'deduplaw06.SpaceApart': WHATEVER THE INPUT: true; the input reads as it did. -/
def spaceApartSpec : ChangeSpec := { name := "spaceApart", fn := fun _ => fun
  | [d] => { results := [.lit (.bool true)], args := [d] }
  | _ => none }
def spaceApartRow : OpenClaim := { program := "ytbmbdidmbdanmaadoor", sum := "7b4ed28aa08c5025c8c757a99b2620bd1a3e9683c9b6f3367b2ce2edc103aa51", func := "dedup/deduplaw06.SpaceApart", spec := "spaceApart", unfollowed := true, recurses := true, named := ["math/bits.deBruijn64tab"], apart := false, laid := [("math/bits.deBruijn64tab", laid_math_bits_deBruijn64tab)] }
def SpaceApartSaid : Prop := spaceApartRow.holds Tryd.pinned (OpenSpec.ofChange spaceApartSpec)

/-- ITS FALSE NEIGHBOUR: 'it returns false'. Refute it at one input. -/
def spaceApartWrong : ChangeSpec := { name := "spaceApart", fn := fun _ => fun
  | [d] => { results := [.lit (.bool false)], args := [d] }
  | _ => none }
def SpaceApartWrongFalsely : Prop := spaceApartRow.holds Tryd.pinned (OpenSpec.ofChange spaceApartWrong)

/-- 'deduplaw06.SpaceAdds': WHATEVER THE INPUT: true; the input reads as it did. -/
def spaceAddsSpec : ChangeSpec := { name := "spaceAdds", fn := fun _ => fun
  | [d] => { results := [.lit (.bool true)], args := [d] }
  | _ => none }
def spaceAddsRow : OpenClaim := { program := "ytbmbdidmbdanmaadoor", sum := "7b4ed28aa08c5025c8c757a99b2620bd1a3e9683c9b6f3367b2ce2edc103aa51", func := "dedup/deduplaw06.SpaceAdds", spec := "spaceAdds", unfollowed := true, recurses := true, named := ["math/bits.deBruijn64tab"], apart := false, laid := [("math/bits.deBruijn64tab", laid_math_bits_deBruijn64tab)] }
def SpaceAddsSaid : Prop := spaceAddsRow.holds Tryd.pinned (OpenSpec.ofChange spaceAddsSpec)

/-- ITS FALSE NEIGHBOUR: 'it returns false'. Refute it at one input. -/
def spaceAddsWrong : ChangeSpec := { name := "spaceAdds", fn := fun _ => fun
  | [d] => { results := [.lit (.bool false)], args := [d] }
  | _ => none }
def SpaceAddsWrongFalsely : Prop := spaceAddsRow.holds Tryd.pinned (OpenSpec.ofChange spaceAddsWrong)

/-- 'deduplaw06.SpaceReserves': WHATEVER THE INPUT: true; the input reads as it did. -/
def spaceReservesSpec : ChangeSpec := { name := "spaceReserves", fn := fun _ => fun
  | [d1, d2] => { results := [.lit (.bool true)], args := [d1, d2] }
  | _ => none }
def spaceReservesRow : OpenClaim := { program := "ytbmbdidmbdanmaadoor", sum := "7b4ed28aa08c5025c8c757a99b2620bd1a3e9683c9b6f3367b2ce2edc103aa51", func := "dedup/deduplaw06.SpaceReserves", spec := "spaceReserves", unfollowed := true, recurses := true, named := ["math/bits.deBruijn64tab"], apart := false, laid := [("math/bits.deBruijn64tab", laid_math_bits_deBruijn64tab)] }
def SpaceReservesSaid : Prop := spaceReservesRow.holds Tryd.pinned (OpenSpec.ofChange spaceReservesSpec)

/-- ITS FALSE NEIGHBOUR: 'it returns false'. Refute it at one input. -/
def spaceReservesWrong : ChangeSpec := { name := "spaceReserves", fn := fun _ => fun
  | [d1, d2] => { results := [.lit (.bool false)], args := [d1, d2] }
  | _ => none }
def SpaceReservesWrongFalsely : Prop := spaceReservesRow.holds Tryd.pinned (OpenSpec.ofChange spaceReservesWrong)

/-- 'deduplaw06.SpaceNobody': WHATEVER THE INPUT: true; the input reads as it did. -/
def spaceNobodySpec : ChangeSpec := { name := "spaceNobody", fn := fun _ => fun
  | [d] => { results := [.lit (.bool true)], args := [d] }
  | _ => none }
def spaceNobodyRow : OpenClaim := { program := "ytbmbdidmbdanmaadoor", sum := "7b4ed28aa08c5025c8c757a99b2620bd1a3e9683c9b6f3367b2ce2edc103aa51", func := "dedup/deduplaw06.SpaceNobody", spec := "spaceNobody", unfollowed := true, recurses := true, named := ["math/bits.deBruijn64tab"], apart := false, laid := [("math/bits.deBruijn64tab", laid_math_bits_deBruijn64tab)] }
def SpaceNobodySaid : Prop := spaceNobodyRow.holds Tryd.pinned (OpenSpec.ofChange spaceNobodySpec)

/-- ITS FALSE NEIGHBOUR: 'it returns false'. Refute it at one input. -/
def spaceNobodyWrong : ChangeSpec := { name := "spaceNobody", fn := fun _ => fun
  | [d] => { results := [.lit (.bool false)], args := [d] }
  | _ => none }
def SpaceNobodyWrongFalsely : Prop := spaceNobodyRow.holds Tryd.pinned (OpenSpec.ofChange spaceNobodyWrong)

/- THE SECOND FORM. 'bulk': how many values and letters a reading holds, each counted each time it is reached (what is shared counts as often as it is met; a slice's spare places count too). A statement '..UptoSaid' is the law's where the arguments, and the package variables that the reading takes, are together of bulk at most 1048576: NARROWER than '..Said'. Prove '..Said' where nothing that the law and all that it calls make is longer than what came in: it says more and counts as full. Else prove '..UptoSaid'. A law counts once. -/
mutual
def uptoBulk {H : Type} : DataW H → Nat
  | .lit (.string bytes) => bytes.length + 1
  | .lit _ => 1
  | .nil => 1
  | .ptr d => uptoBulk d + 1
  | .slice elems spare => uptoBulkAll elems + uptoBulkAll spare + 1
  | .agg parts => uptoBulkAll parts + 1
  | .iface _ d => uptoBulk d + 1
  | .map entries => uptoBulkEntries entries + 1
  | .held _ => 1
def uptoBulkAll {H : Type} : List (DataW H) → Nat
  | [] => 0
  | d :: r => uptoBulk d + uptoBulkAll r
def uptoBulkEntries {H : Type} : List (Lit × DataW H) → Nat
  | [] => 0
  | x :: r => uptoBulkEntry x + uptoBulkEntries r
def uptoBulkEntry {H : Type} : Lit × DataW H → Nat
  | (.string bytes, d) => bytes.length + uptoBulk d + 1
  | (_, d) => uptoBulk d + 1
 end
def uptoSmall : (H : Type) → List (DataW H) → Bool := fun _ ds => decide (uptoBulkAll ds ≤ 1048576)
def OpenSpec.upto (s : _root_.Go.ChangeSpec) : _root_.Go.OpenSpec := { _root_.Go.OpenSpec.ofChange s with cond := some uptoSmall }

/-- 'deduplaw06.SpaceDoes', WHERE WHAT IT READS IS OF BULK AT MOST 1048576: true; the input reads as it did. -/
def spaceDoesUptoRow : OpenClaim := { program := "ytbmbdidmbdanmaadoor", sum := "7b4ed28aa08c5025c8c757a99b2620bd1a3e9683c9b6f3367b2ce2edc103aa51", func := "dedup/deduplaw06.SpaceDoes", spec := "spaceDoes", unfollowed := true, recurses := true, named := ["math/bits.deBruijn64tab"], apart := false, laid := [("math/bits.deBruijn64tab", laid_math_bits_deBruijn64tab)], narrowed := true }
def SpaceDoesUptoSaid : Prop := spaceDoesUptoRow.holds Tryd.pinned (OpenSpec.upto spaceDoesSpec)

/-- 'deduplaw06.SpaceLooks', WHERE WHAT IT READS IS OF BULK AT MOST 1048576: true; the input reads as it did. -/
def spaceLooksUptoRow : OpenClaim := { program := "ytbmbdidmbdanmaadoor", sum := "7b4ed28aa08c5025c8c757a99b2620bd1a3e9683c9b6f3367b2ce2edc103aa51", func := "dedup/deduplaw06.SpaceLooks", spec := "spaceLooks", unfollowed := true, recurses := true, named := ["math/bits.deBruijn64tab"], apart := false, laid := [("math/bits.deBruijn64tab", laid_math_bits_deBruijn64tab)], narrowed := true }
def SpaceLooksUptoSaid : Prop := spaceLooksUptoRow.holds Tryd.pinned (OpenSpec.upto spaceLooksSpec)

/-- 'deduplaw06.SpaceForks', WHERE WHAT IT READS IS OF BULK AT MOST 1048576: true; the input reads as it did. -/
def spaceForksUptoRow : OpenClaim := { program := "ytbmbdidmbdanmaadoor", sum := "7b4ed28aa08c5025c8c757a99b2620bd1a3e9683c9b6f3367b2ce2edc103aa51", func := "dedup/deduplaw06.SpaceForks", spec := "spaceForks", unfollowed := true, recurses := true, named := ["math/bits.deBruijn64tab"], apart := false, laid := [("math/bits.deBruijn64tab", laid_math_bits_deBruijn64tab)], narrowed := true }
def SpaceForksUptoSaid : Prop := spaceForksUptoRow.holds Tryd.pinned (OpenSpec.upto spaceForksSpec)

/-- 'deduplaw06.SpaceApart', WHERE WHAT IT READS IS OF BULK AT MOST 1048576: true; the input reads as it did. -/
def spaceApartUptoRow : OpenClaim := { program := "ytbmbdidmbdanmaadoor", sum := "7b4ed28aa08c5025c8c757a99b2620bd1a3e9683c9b6f3367b2ce2edc103aa51", func := "dedup/deduplaw06.SpaceApart", spec := "spaceApart", unfollowed := true, recurses := true, named := ["math/bits.deBruijn64tab"], apart := false, laid := [("math/bits.deBruijn64tab", laid_math_bits_deBruijn64tab)], narrowed := true }
def SpaceApartUptoSaid : Prop := spaceApartUptoRow.holds Tryd.pinned (OpenSpec.upto spaceApartSpec)

/-- 'deduplaw06.SpaceAdds', WHERE WHAT IT READS IS OF BULK AT MOST 1048576: true; the input reads as it did. -/
def spaceAddsUptoRow : OpenClaim := { program := "ytbmbdidmbdanmaadoor", sum := "7b4ed28aa08c5025c8c757a99b2620bd1a3e9683c9b6f3367b2ce2edc103aa51", func := "dedup/deduplaw06.SpaceAdds", spec := "spaceAdds", unfollowed := true, recurses := true, named := ["math/bits.deBruijn64tab"], apart := false, laid := [("math/bits.deBruijn64tab", laid_math_bits_deBruijn64tab)], narrowed := true }
def SpaceAddsUptoSaid : Prop := spaceAddsUptoRow.holds Tryd.pinned (OpenSpec.upto spaceAddsSpec)

/-- 'deduplaw06.SpaceReserves', WHERE WHAT IT READS IS OF BULK AT MOST 1048576: true; the input reads as it did. -/
def spaceReservesUptoRow : OpenClaim := { program := "ytbmbdidmbdanmaadoor", sum := "7b4ed28aa08c5025c8c757a99b2620bd1a3e9683c9b6f3367b2ce2edc103aa51", func := "dedup/deduplaw06.SpaceReserves", spec := "spaceReserves", unfollowed := true, recurses := true, named := ["math/bits.deBruijn64tab"], apart := false, laid := [("math/bits.deBruijn64tab", laid_math_bits_deBruijn64tab)], narrowed := true }
def SpaceReservesUptoSaid : Prop := spaceReservesUptoRow.holds Tryd.pinned (OpenSpec.upto spaceReservesSpec)

/-- 'deduplaw06.SpaceNobody', WHERE WHAT IT READS IS OF BULK AT MOST 1048576: true; the input reads as it did. -/
def spaceNobodyUptoRow : OpenClaim := { program := "ytbmbdidmbdanmaadoor", sum := "7b4ed28aa08c5025c8c757a99b2620bd1a3e9683c9b6f3367b2ce2edc103aa51", func := "dedup/deduplaw06.SpaceNobody", spec := "spaceNobody", unfollowed := true, recurses := true, named := ["math/bits.deBruijn64tab"], apart := false, laid := [("math/bits.deBruijn64tab", laid_math_bits_deBruijn64tab)], narrowed := true }
def SpaceNobodyUptoSaid : Prop := spaceNobodyUptoRow.holds Tryd.pinned (OpenSpec.upto spaceNobodySpec)

end Rows
end Go.Proofs.YtbmbdidmbdanmaaDoor
