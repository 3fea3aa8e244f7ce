/- Which block a slice in a cell lies in. -/
import Derived.Test.YtelngbkbdihdnaaQ1
namespace Go.Proofs.Ytelngbkbdihdnaa
open Go.RowKit
set_option linter.unusedVariables false
def rowOf (w : World) (g j : Nat) : Option Nat := (w.cell? ⟨g, j, none⟩).bind Value.ownBlock
theorem rowOf_same {w w' : World} {g j : Nat} (hg : g < w.heap.size) (k : Same w w') : rowOf w' g j = rowOf w g j := by
  unfold rowOf
  rw [World.cell?_of_block (k.block g hg (fun h => h))]
end Go.Proofs.Ytelngbkbdihdnaa
