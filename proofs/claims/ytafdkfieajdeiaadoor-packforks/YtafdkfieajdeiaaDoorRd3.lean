/- codec.Reader: raw bytes, texts; what is asked of it; a new one. -/
import Derived.Test.YtafdkfieajdeiaaDoorRd2
namespace Go.Proofs.YtafdkfieajdeiaaDoor
open Go.RowKit
set_option linter.unusedVariables false

theorem rtake_le (st : RSt) (n : Nat) (h : st.1.size ≤ 281474976710656) : (rtake st n).1.size ≤ 281474976710656 := by
  unfold rtake
  split
  · split
    · exact Nat.zero_le _
    · simp; omega
  · exact Nat.zero_le _
theorem Kept.weak {S : Nat → Prop} {a b : World} (h : Kept (fun _ => False) a b) : Kept S a b := h.mono fun _ _ h => h.elim
theorem rvar_lt (st : RSt) : (rvar st).1 < 18446744073709551616 := by
  unfold rvar
  split
  · split
    · exact fv_lt _ 0 0 (by decide) (by decide)
    · simp
  · simp
theorem newReader (s : ByteArray) (w : World) : Calls Tryd.prog 53 #[.string s] w fun x w' => x = .returned (.pointer (some ⟨w.heap.size, 0, none⟩)) ∧ w' = w.alloc (.cells #[.string s, .int .i64 0] 110) := by
  go_enter Tryd.func53, Tryd.ntmps53
  go_wp2
  go_returns
  exact ⟨rfl, rfl⟩
theorem Rd.new (s : ByteArray) (w : World) (hs : s.size ≤ 281474976710656) : Rd w.heap.size (s, 0) (w.alloc (.cells #[.string s, .int .i64 0] 110)) := ⟨heap_alloc_new _ _, hs⟩
end Go.Proofs.YtafdkfieajdeiaaDoor
