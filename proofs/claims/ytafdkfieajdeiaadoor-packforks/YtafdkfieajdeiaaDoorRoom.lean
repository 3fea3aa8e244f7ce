/- codec.Writer: what lies behind a pointer to one; room. -/
import Derived.Test.YtafdkfieajdeiaaDoorRows
import Derived.Test.YtafdkfieajdeiaaDoorBase
import Derived.Test.YtafdkfieajdeiaaDoorCPure
import Derived.BigQuiet
import Derived.Deep.QuietTactic
namespace Go.Proofs.YtafdkfieajdeiaaDoor
open Go.RowKit

theorem info5 : (Tryd.prog.info? 5).map (fun i => (i.zero, i.size, i.bytes)) = some (some (.int .u8 0), 1, 1) := by kernel_rfl

/-- Block g holds a Writer: at most so many bytes, those that are written (in a row of the call's own, from block B on), and whether it is over. -/
structure Wr (B g : Nat) (v : Value) (most : Int) (bs : List UInt8) (over : Bool) (w : World) : Prop where
  blk : w.heap[g]? = some (.cells #[.int .i64 most, v, .bool over] 117 (0, 0))
  own : w.ownsRow B 5 1 v bs.length (bs.map U8)
  base : B ≤ w.heap.size
  m0 : 0 ≤ most
  m1 : most ≤ 9223372036854775807
  len : bs.length ≤ 140737488355328
/-- The blocks that a write to it may write: its own, and those from B on. -/
def wrS (B g : Nat) : Nat → Prop := fun k => k = g ∨ B ≤ k

theorem Wr.form {B g : Nat} {v : Value} {most : Int} {bs : List UInt8} {over : Bool} {w : World} (h : Wr B g v most bs over w) : ∃ a cap, v = .slice a bs.length cap := by
  rcases h.own.2 with ⟨h1, h2⟩ | ⟨g', cap, cur, h1, _⟩
  · exact ⟨none, 0, by rw [h1]; congr 1; omega⟩
  · exact ⟨_, _, h1⟩
theorem heap_drewN (w : World) : ∀ n, (w.drewN n).heap = w.heap
  | 0 => rfl
  | n + 1 => (show (w.drewN n).heap = w.heap from heap_drewN w n)
theorem ownsRow_heap {w w' : World} (h : w'.heap = w.heap) {base : Nat} {e : TypeId} {size : Nat} {v : Value} {n : Nat} {xs : List Value} (ho : w.ownsRow base e size v n xs) : w'.ownsRow base e size v n xs := by
  unfold World.ownsRow at *
  rw [h]
  exact ho
theorem Wr.drewN {B g : Nat} {v : Value} {most : Int} {bs : List UInt8} {over : Bool} {w : World} (h : Wr B g v most bs over w) (n : Nat) : Wr B g v most bs over (w.drewN n) :=
  ⟨by rw [heap_drewN]; exact h.blk, ownsRow_heap (heap_drewN w n) h.own, by rw [heap_drewN]; exact h.base, h.m0, h.m1, h.len⟩
/-- The row of bytes is another block than the struct. -/
theorem Wr.apart {B g : Nat} {v : Value} {most : Int} {bs : List UInt8} {over : Bool} {w : World} (h : Wr B g v most bs over w) : some g ≠ v.ownBlock := by
  rcases h.own.2 with ⟨h1, h2⟩ | ⟨g', cap, cur, h1, _, hh, _⟩
  · rw [h1]; simp [Value.ownBlock]
  · rw [h1]
    simp only [Value.ownBlock, ne_eq, Option.some.injEq]
    rintro rfl
    have := h.blk
    rw [hh] at this
    simp at this
/-- What a Writer is behind a step that wrote neither it nor its row. -/
theorem Wr.kept {B g : Nat} {v : Value} {most : Int} {bs : List UInt8} {over : Bool} {w w' : World} {S : Nat → Prop} (h : Wr B g v most bs over w) (hk : Kept S w w') (hg : ¬ S g) (hr : ∀ k, v.ownBlock = some k → ¬ S k) : Wr B g v most bs over w' := by
  refine ⟨blk_kept hk hg h.blk, ?_, Nat.le_trans h.base hk.size, h.m0, h.m1, h.len⟩
  refine ⟨h.own.1, ?_⟩
  rcases h.own.2 with h1 | ⟨g', cap, cur, h1, h2, hh, h3⟩
  · exact Or.inl h1
  · exact Or.inr ⟨g', cap, cur, h1, h2, blk_kept hk (hr g' (by rw [h1]; rfl)) hh, h3⟩

set_option maxHeartbeats 400000 in
theorem room_nil (n : Int) (w : World) : Calls Tryd.prog 81 #[.pointer none, .int .i64 n] w fun e w' => e = .returned (.bool false) ∧ w = w' := by
  go_enter Tryd.func81, Tryd.ntmps81
  go_wp2
  go_ret
  exact ⟨rfl, rfl⟩
set_option maxHeartbeats 400000 in
theorem room_over (g : Nat) (c0 c1 : Value) (n : Int) (w : World) (h : w.heap[g]? = some (.cells #[c0, c1, .bool true] 117 (0, 0))) :
    Calls Tryd.prog 81 #[.pointer (some ⟨g, 0, none⟩), .int .i64 n] w fun e w' => e = .returned (.bool false) ∧ w = w' := by
  have h2 : w.cell? ⟨g, 2, none⟩ = some (.bool true) := blk_cell h
  clear h
  go_enter Tryd.func81, Tryd.ntmps81
  go_wp2
  go_ret
  exact ⟨rfl, rfl⟩
set_option maxHeartbeats 400000 in
theorem room_ok (g : Nat) (a : Option Addr) (len cap : Nat) (most n : Int) (w : World) (h : w.heap[g]? = some (.cells #[.int .i64 most, .slice a len cap, .bool false] 117 (0, 0)))
    (m0 : 0 ≤ most) (m1 : most ≤ 9223372036854775807) (hl : len ≤ 140737488355328) (hn : n ≤ most - len) :
    Calls Tryd.prog 81 #[.pointer (some ⟨g, 0, none⟩), .int .i64 n] w fun e w' => e = .returned (.bool true) ∧ ∃ nq, w' = w.drewN nq := by
  have h0 : w.cell? ⟨g, 0, none⟩ = some (.int .i64 most) := blk_cell h
  have h1 : w.cell? ⟨g, 1, none⟩ = some (.slice a len cap) := blk_cell h
  have h2 : w.cell? ⟨g, 2, none⟩ = some (.bool false) := blk_cell h
  clear h
  go_enter Tryd.func81, Tryd.ntmps81
  go_wp2
  go_quiet (fail)
  go_wp2
  go_ret
  exact ⟨rfl, _, rfl⟩
set_option maxHeartbeats 400000 in
theorem room_full (g : Nat) (a : Option Addr) (len cap : Nat) (most n : Int) (w : World) (h : w.heap[g]? = some (.cells #[.int .i64 most, .slice a len cap, .bool false] 117 (0, 0)))
    (m0 : 0 ≤ most) (m1 : most ≤ 9223372036854775807) (hl : len ≤ 140737488355328) (hn : most - len < n) :
    Calls Tryd.prog 81 #[.pointer (some ⟨g, 0, none⟩), .int .i64 n] w fun e w' => e = .returned (.bool false) ∧
      w'.heap[g]? = some (.cells #[.int .i64 most, .slice none 0 0, .bool true] 117 (0, 0)) ∧ Kept (fun k => k = g) w w' := by
  have h0 : w.cell? ⟨g, 0, none⟩ = some (.int .i64 most) := blk_cell h
  have h1 : w.cell? ⟨g, 1, none⟩ = some (.slice a len cap) := blk_cell h
  have h2 : w.cell? ⟨g, 2, none⟩ = some (.bool false) := blk_cell h
  have f1 : w.frozen? ⟨g, 1, none⟩ = false := blk_free h
  have f2 : w.frozen? ⟨g, 2, none⟩ = false := blk_free h
  have H := hidden h
  clear h
  go_enter Tryd.func81, Tryd.ntmps81
  go_wp2
  go_quiet (fail)
  go_wp2
  go_ret
  refine ⟨rfl, ?_, ?_⟩
  · have hd := H.out
    rw [← heap_drewN w nq] at hd
    simpa using blk_set (j := 1) (blk_set (j := 2) hd (.bool true)) (.slice none 0 0)
  · exact (((Kept.refl (fun k => k = g) w).drewN nq).setCell (p := ⟨g, 2, none⟩) rfl _).setCell (p := ⟨g, 1, none⟩) rfl _

/-- room: whether there is room for n bytes more; if not, the Writer is over, and holds nothing. -/
theorem room_yes {B g : Nat} {v : Value} {most : Int} {bs : List UInt8} {over : Bool} {w : World} (h : Wr B g v most bs over w) (n : Int) (hn : wOk most bs.length over n = true) :
    Calls Tryd.prog 81 #[.pointer (some ⟨g, 0, none⟩), .int .i64 n] w fun e w' => e = .returned (.bool true) ∧ ∃ nq, w' = w.drewN nq := by
  obtain ⟨a, cap, rfl⟩ := h.form
  cases over with
  | true => simp [wOk] at hn
  | false => exact room_ok g a bs.length cap most n w h.blk h.m0 h.m1 h.len (by simpa [wOk] using hn)
theorem room_no {B g : Nat} {v : Value} {most : Int} {bs : List UInt8} {over : Bool} {w : World} (h : Wr B g v most bs over w) (ho : over = true → bs = [] ∧ v = .slice none 0 0) (n : Int) (hn : wOk most bs.length over n = false) :
    Calls Tryd.prog 81 #[.pointer (some ⟨g, 0, none⟩), .int .i64 n] w fun e w' => e = .returned (.bool false) ∧ Wr B g (.slice none 0 0) most [] true w' ∧ Kept (fun k => k = g) w w' := by
  obtain ⟨a, cap, rfl⟩ := h.form
  cases over with
  | true =>
    obtain ⟨rfl, hv⟩ := ho rfl
    refine (room_over g _ _ n w h.blk).mono ?_
    rintro e w' ⟨rfl, rfl⟩
    exact ⟨rfl, by rw [← hv]; exact h, Kept.refl _ _⟩
  | false =>
    refine (room_full g a bs.length cap most n w h.blk h.m0 h.m1 h.len (by simpa [wOk] using hn)).mono ?_
    rintro e w' ⟨rfl, h1, h2⟩
    exact ⟨rfl, ⟨h1, World.ownsRow_nil _ _ _ _, Nat.le_trans h.base h2.size, h.m0, h.m1, by simp⟩, h2⟩
end Go.Proofs.YtafdkfieajdeiaaDoor
