/- strings.Clone, walked: the same bytes; of what was there nothing has turned. -/
import Derived.Test.YtafdkfieajdeiaaDoorRows
import Derived.Test.YtafdkfieajdeiaaDoorBase
import Derived.Lib.Strings
import Derived.Lib.Walk
import Derived.Lib.BufferWrite
import Derived.Lib.UnsafeStr
import Derived.Laws.MakeOwn
namespace Go.Proofs.YtafdkfieajdeiaaDoor
open Go.RowKit
set_option linter.unusedVariables false

theorem infoByte : (Tryd.prog.info? 5).map (fun i => (i.zero, i.size, i.bytes)) = some (some (.int .u8 0), 1, 1) := by kernel_rfl
/-- A new block is frozen: no old one turns. -/
theorem Kept.freezeNew {S : Nat → Prop} {a w : World} (h : Kept S a w) {p : Addr} (hp : a.heap.size ≤ p.block) (n : Nat) : Kept S a (w.freeze p n) := by
  have hb : Below a.heap.size w (w.freeze p n) := Lib.below_freeze (Below.refl _ _) hp n
  exact ⟨hb.os.trans h.os, hb.tape.trans h.tape, hb.output.trans h.output, Nat.le_trans h.size hb.size, fun k hk hs => (hb.block k hk).trans (h.block k hk hs)⟩
theorem empty_of_size (s : ByteArray) (h : s.size = 0) : s = ⟨#[]⟩ := ByteArray.ext (Array.eq_empty_of_size_eq_zero h)
end Go.Proofs.YtafdkfieajdeiaaDoor
