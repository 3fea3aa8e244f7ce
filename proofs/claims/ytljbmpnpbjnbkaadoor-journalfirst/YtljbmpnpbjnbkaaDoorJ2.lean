/- journal.Writer: what lies behind a pointer to one; New, made, free, Left, Records. -/
import Derived.Test.YtljbmpnpbjnbkaaDoorJ1
import Derived.Deep.QuietTactic
import Derived.BigQuiet
namespace Go.Proofs.YtljbmpnpbjnbkaaDoor
open Go.RowKit
set_option linter.unusedVariables false

/-- What a Writer is. -/
structure JSt where
  size : Nat
  sectors : Nat
  gen : Nat
  taken : Nat
  bs : List UInt8
  recs : Nat
def JSt.free (s : JSt) : Nat := (s.sectors - s.taken) * (s.size - 24) - s.bs.length
structure JSt.Ok (s : JSt) : Prop where
  s0 : 512 ≤ s.size
  s1 : s.size ≤ 4096
  n1 : s.sectors ≤ 4096
  g : s.gen < 18446744073709551616
  t : s.taken ≤ s.sectors
  b : s.bs.length ≤ (s.sectors - s.taken) * (s.size - 24)
  r : 4 * s.recs + s.free ≤ 16777216
theorem JSt.Ok.rooms {s : JSt} (h : s.Ok) : (s.sectors - s.taken) * (s.size - 24) ≤ 16777216 := by
  have h1 : s.sectors - s.taken ≤ 4096 := by have := h.n1; omega
  have h2 : s.size - 24 ≤ 4096 := by have := h.s1; omega
  exact Nat.le_trans (Nat.mul_le_mul h1 h2) (by decide)
theorem JSt.Ok.len {s : JSt} (h : s.Ok) : s.bs.length ≤ 16777216 := Nat.le_trans h.b h.rooms
/-- Block g holds one. -/
structure JW (g : Nat) (s : JSt) (w : World) : Prop where
  lies : ∃ v, w.heap[g]? = some (.cells #[.int .i64 s.size, .int .i64 s.sectors, .int .u64 s.gen, .int .i64 s.taken, v, .int .i64 s.recs] 63 (0, 0)) ∧ w.ownsRow 0 5 1 v s.bs.length (s.bs.map U8)
  ok : s.Ok
/-- The row that a cell of a block holds. -/
def rowOf (w : World) (g j : Nat) : Option Nat := (w.cell? ⟨g, j, none⟩).bind Value.ownBlock
/-- The blocks that a call of it may write: its own, its stream's. -/
def jS (g : Nat) (w : World) : Nat → Prop := fun k => k = g ∨ rowOf w g 4 = some k
structure Turns (g : Nat) (w w' : World) : Prop where
  kept : Kept (jS g w) w w'
  row : ∀ k, k < w.heap.size → rowOf w' g 4 = some k → jS g w k
theorem Turns.refl (g : Nat) (w : World) : Turns g w w := ⟨Kept.refl _ _, fun k _ h => Or.inr h⟩
theorem Turns.trans {g : Nat} {a b c : World} (h : Turns g a b) (k : Turns g b c) : Turns g a c := by
  have hs : ∀ i, i < a.heap.size → jS g b i → jS g a i := fun i hi hj => by
    rcases hj with rfl | hj
    · exact Or.inl rfl
    · exact h.row i hi hj
  exact ⟨h.kept.trans' k.kept hs, fun i hi hr => hs i hi (k.row i (Nat.lt_of_lt_of_le hi h.kept.size) hr)⟩
theorem rowOf_same {w w' : World} {g j : Nat} (hg : g < w.heap.size) (k : Same w w') : rowOf w' g j = rowOf w g j := by
  unfold rowOf
  rw [World.cell?_of_block (k.block g hg (fun h => h))]
theorem Turns.same {g : Nat} {w w' : World} (hg : g < w.heap.size) (k : Same w w') : Turns g w w' :=
  ⟨k.mono (fun _ _ h => h.elim), fun i hi hr => Or.inr (by rw [← hr, rowOf_same hg k])⟩
theorem JW.lt {g : Nat} {s : JSt} {w : World} (h : JW g s w) : g < w.heap.size := let ⟨_, a, _⟩ := h.lies; blk_lt a
theorem JW.kept {g : Nat} {s : JSt} {w w' : World} {S : Nat → Prop} (h : JW g s w) (k : Kept S w w') (hs : ∀ i, jS g w i → ¬ S i) : JW g s w' := by
  obtain ⟨⟨v, hb, ho⟩, hok⟩ := h
  refine ⟨⟨v, blk_kept k (hs g (Or.inl rfl)) hb, own_kept ho k ?_⟩, hok⟩
  intro i hi
  exact hs i (Or.inr (by unfold rowOf; rw [blk_cell hb]; simpa using hi))
theorem JW.same {g : Nat} {s : JSt} {w w' : World} (h : JW g s w) (k : Same w w') : JW g s w' := h.kept k (fun _ _ h => h)

set_option maxHeartbeats 1000000 in
set_option maxRecDepth 100000 in
theorem j_room (n : Nat) (w : World) (h : n ≤ 4096) (h0 : 24 ≤ n) : Calls Tryd.prog 38 #[.int .i64 n] w fun e w' => e = .returned (.int .i64 ((n - 24 : Nat) : Int)) ∧ w = w' := by
  go_enter Tryd.func38, Tryd.ntmps38
  go_wp2
  go_returns
  exact ⟨by rw [show (n : Int) - 24 = ((n - 24 : Nat) : Int) by omega]; rfl, rfl⟩
set_option maxHeartbeats 1000000 in
set_option maxRecDepth 100000 in
theorem j_made {g : Nat} {s : JSt} {w : World} (h : JW g s w) : Calls Tryd.prog 31 #[.pointer (some ⟨g, 0, none⟩)] w fun e w' => e = .returned (.bool true) ∧ w = w' := by
  obtain ⟨⟨v, hb, ho⟩, hok⟩ := h
  have c0 : w.cell? ⟨g, 0, none⟩ = some (.int .i64 s.size) := blk_cell hb
  have hs := hok.s0
  clear hb ho hok
  go_enter Tryd.func31, Tryd.ntmps31
  go_wp2
  go_returns
  exact ⟨by simp; omega, rfl⟩
set_option maxHeartbeats 1000000 in
set_option maxRecDepth 100000 in
theorem j_madeNil (w : World) : Calls Tryd.prog 31 #[.pointer none] w fun e w' => e = .returned (.bool false) ∧ w = w' := by
  go_enter Tryd.func31, Tryd.ntmps31
  go_wp2
  go_returns
  exact ⟨rfl, rfl⟩
set_option maxHeartbeats 1000000 in
set_option maxRecDepth 100000 in
theorem j_free {g : Nat} {s : JSt} {w : World} (h : JW g s w) : Calls Tryd.prog 32 #[.pointer (some ⟨g, 0, none⟩)] w fun e w' => e = .returned (.int .i64 (s.free : Int)) ∧ Same w w' := by
  obtain ⟨⟨v, hb, ho⟩, hok⟩ := h
  obtain ⟨a, cap, rfl⟩ := own_form ho
  have c0 : w.cell? ⟨g, 0, none⟩ = some (.int .i64 s.size) := blk_cell hb
  have c1 : w.cell? ⟨g, 1, none⟩ = some (.int .i64 s.sectors) := blk_cell hb
  have c3 : w.cell? ⟨g, 3, none⟩ = some (.int .i64 s.taken) := blk_cell hb
  have c4 : w.cell? ⟨g, 4, none⟩ = some (.slice a s.bs.length cap) := blk_cell hb
  have A := hidden (fun w => j_room s.size w hok.s1 (by have := hok.s0; omega))
  have h1 := hok.rooms
  have h2 : ((s.sectors : Int) - s.taken) = ((s.sectors - s.taken : Nat) : Int) := by have := hok.t; omega
  have h3 : s.sectors - s.taken ≤ 4096 := by have := hok.n1; omega
  have hF : ((((s.sectors - s.taken) * (s.size - 24) : Nat) : Int) - s.bs.length) = (s.free : Int) := by
    have h2 := hok.b
    unfold JSt.free
    omega
  have h4 := hok.b
  clear hb ho hok
  have hp : ((s.sectors - s.taken : Nat) : Int) * ((s.size - 24 : Nat) : Int) = (((s.sectors - s.taken) * (s.size - 24) : Nat) : Int) := (Int.natCast_mul _ _).symm
  generalize (s.sectors - s.taken) * (s.size - 24) = X at *
  generalize s.sectors - s.taken = T at *
  generalize s.size - 24 = R at *
  generalize s.bs.length = L at *
  have hw1 : IntKind.i64.wrap ((s.sectors : Int) - s.taken) = (T : Int) := by rw [h2, IntKind.wrap_i64]; omega
  have hw2 : IntKind.i64.wrap ((T : Int) * (R : Int)) = (X : Int) := by rw [hp, IntKind.wrap_i64]; omega
  have hw3 : IntKind.i64.wrap ((X : Int) - L) = (s.free : Int) := by rw [IntKind.wrap_i64]; omega
  clear hp h2 h3 h1 h4 hF
  go_enter Tryd.func32, Tryd.ntmps32
  go_wp2
  go_quiet ((go_at_call 38; exact Calls.quiet_of_same ((A.out _).mono fun _ _ ⟨a, b⟩ => ⟨a, b.symm⟩)))
  go_wp2
  go_returns
  exact ⟨rfl, (Kept.refl _ _).drewN _⟩
end Go.Proofs.YtljbmpnpbjnbkaaDoor
