/- pack: mayBe, headOf, endOf, footOf; a container in memory; New, made, Left, Mark; of a nil one. -/
import Derived.Test.YtafdkfieajdeiaaDoorK3
import Derived.Test.YtafdkfieajdeiaaDoorPowP
namespace Go.Proofs.YtafdkfieajdeiaaDoor
open Go.RowKit
set_option linter.unusedVariables false

def PSize (n : Int) : Prop := 512 ≤ n ∧ n ≤ 4096 ∧ Pow n
instance (n : Int) : Decidable (PSize n) := by unfold PSize; infer_instance
def PMay (size sectors : Int) : Prop := PSize size ∧ 1 ≤ sectors ∧ sectors ≤ 64
instance (a b : Int) : Decidable (PMay a b) := by unfold PMay; infer_instance
set_option maxHeartbeats 1000000 in
set_option maxRecDepth 100000 in
theorem p_mayBe (n c : Int) (w : World) : Calls Tryd.prog 35 #[.int .i64 n, .int .i64 c] w fun e w' => e = .returned (.bool (decide (PMay n c))) ∧ w = w' := by
  by_cases h : PMay n c
  · have hb : (bits .and .i64 n (n - 1) == 0) = true := by
      have h1 := pow_land n (by have := h.1.1; omega) (by have := h.1.2.1; omega)
      rw [beq_iff_eq, h1]
      exact h.1.2.2
    obtain ⟨⟨h1, h2, h3⟩, h4, h5⟩ := h
    rw [decide_eq_true (show PMay n c from ⟨⟨h1, h2, h3⟩, h4, h5⟩)]
    clear h3
    go_enter Tryd.func35, Tryd.ntmps35
    go_wp2
    go_returns
    exact ⟨rfl, rfl⟩
  · rw [decide_eq_false h]
    by_cases h1 : 512 ≤ n ∧ n ≤ 4096
    · by_cases h3 : Pow n
      · have hb : (bits .and .i64 n (n - 1) == 0) = true := by
          have h1 := pow_land n (by have := h1.1; omega) (by have := h1.2; omega)
          rw [beq_iff_eq, h1]
          exact h3
        have hc : (decide (1 ≤ c) && decide (c ≤ 64)) = false := by
          rw [Bool.and_eq_false_iff, decide_eq_false_iff_not, decide_eq_false_iff_not]
          by_cases h4 : 1 ≤ c
          · exact .inr fun h5 => h ⟨⟨h1.1, h1.2, h3⟩, h4, h5⟩
          · exact .inl h4
        obtain ⟨h1, h2⟩ := h1
        clear h h3
        go_enter Tryd.func35, Tryd.ntmps35
        go_wp2
        all_goals
          go_returns
          refine ⟨?_, rfl⟩
          simp_all <;> omega
      · have hb : (bits .and .i64 n (n - 1) == 0) = false := by
          have h1 := pow_land n (by have := h1.1; omega) (by have := h1.2; omega)
          rw [beq_eq_false_iff_ne, ne_eq, h1]
          exact h3
        obtain ⟨h1, h2⟩ := h1
        clear h h3
        go_enter Tryd.func35, Tryd.ntmps35
        go_wp2
        all_goals
          go_returns
          exact ⟨rfl, rfl⟩
    · have hc : (decide (512 ≤ n) && decide (n ≤ 4096)) = false := by
        rw [Bool.and_eq_false_iff, decide_eq_false_iff_not, decide_eq_false_iff_not]
        omega
      clear h
      go_enter Tryd.func35, Tryd.ntmps35
      go_wp2
      all_goals
        go_returns
        exact ⟨rfl, rfl⟩
def dpak : List UInt8 := [68, 80, 65, 75]
def dfot : List UInt8 := [68, 70, 79, 84]
def headB (id c : Nat) : List UInt8 := edgeB dpak id c
theorem headB_len (id c : Nat) : (headB id c).length = 16 := edgeB_len _ rfl _ _
set_option maxHeartbeats 1000000 in
set_option maxRecDepth 100000 in
theorem p_headOf (id c : Nat) (hi : id < 4294967296) (hc : c ≤ 64) (w : World) (hT : Tab w) : Calls Tryd.prog 36 #[.int .u32 id, .int .i64 c] w fun e w' => e = .returned (.string ⟨(headB id c).toArray⟩) ∧ Same w w' := by
  have g := edge_any dpak rfl id c hi (by omega) w hT
  have G : Hid (Calls Tryd.prog 64 #[.string ⟨#[68, 80, 65, 75]⟩, .int .u32 id, .int .u32 c] w fun e w' => e = .returned (.string ⟨(headB id c).toArray⟩) ∧ Same w w') := hidden g
  have hw : IntKind.u32.wrap (c : Int) = (c : Int) := by rw [IntKind.wrap_u32']; omega
  clear g hT
  go_enter Tryd.func36, Tryd.ntmps36
  go_wp2_with (go_at_call 64; refine (G.out).mono ?_; rintro e w1 ⟨rfl, k1⟩)
  go_returns
  exact ⟨rfl, k1⟩
/-- All chunks with what lies ahead of each. -/
def bodyB : List (List UInt8) → List UInt8
  | [] => []
  | c :: cs => slotB c ++ c ++ bodyB cs
theorem bodyB_append (cs ds : List (List UInt8)) : bodyB (cs ++ ds) = bodyB cs ++ bodyB ds := by
  induction cs with
  | nil => rfl
  | cons c cs ih => simp [bodyB, ih]
/-- Their slots, from a place on. -/
def slotsFrom : Nat → List (List UInt8) → List (Nat × Nat)
  | _, [] => []
  | a, c :: cs => (a + 8, c.length) :: slotsFrom (a + 8 + c.length) cs
theorem slotsFrom_len : ∀ (cs : List (List UInt8)) (a : Nat), (slotsFrom a cs).length = cs.length := by
  intro cs
  induction cs with
  | nil => intro a; rfl
  | cons c cs ih => intro a; simp [slotsFrom, ih]
theorem slotsFrom_append : ∀ (cs ds : List (List UInt8)) (a : Nat), slotsFrom a (cs ++ ds) = slotsFrom a cs ++ slotsFrom (a + (bodyB cs).length) ds := by
  intro cs
  induction cs with
  | nil => intro ds a; rfl
  | cons c cs ih =>
    intro ds a
    rw [List.cons_append, slotsFrom, ih, slotsFrom, bodyB, List.length_append, List.length_append, slotB_len, List.cons_append]
    congr 3
    omega
/-- A container, plainly. -/
structure PSt where
  size : Nat
  sectors : Nat
  id : Nat
  chunks : List (List UInt8)
  shut : Bool
  tslots : Nat
  tend : Nat
  tshut : Bool
def PSt.bs (s : PSt) : List UInt8 := headB s.id s.sectors ++ bodyB s.chunks
def PSt.slots (s : PSt) : List (Nat × Nat) := slotsFrom 16 s.chunks
def slotCells (l : List (Nat × Nat)) : List Value := l.flatMap fun s => [.int .i64 (s.1 : Nat), .int .i64 (s.2 : Nat)]
theorem slotCells_len (l : List (Nat × Nat)) : (slotCells l).length = l.length * 2 := by
  induction l with
  | nil => rfl
  | cons a l ih => rw [slotCells, List.flatMap_cons, List.length_append, show (l.flatMap fun s => [Value.int .i64 (s.1 : Nat), .int .i64 (s.2 : Nat)]).length = l.length * 2 from ih]; simp; omega
theorem slotCells_append (l m : List (Nat × Nat)) : slotCells (l ++ m) = slotCells l ++ slotCells m := by simp [slotCells]
def PCells (s : PSt) (vb vs : Value) : Array Value := #[.int .i64 s.size, .int .i64 s.sectors, vb, vs, .bool s.shut, .int .i64 s.tslots, .int .i64 s.tend, .bool s.tshut]
structure PSt.Ok (s : PSt) : Prop where
  s0 : 512 ≤ s.size
  s1 : s.size ≤ 4096
  c0 : 1 ≤ s.sectors
  c1 : s.sectors ≤ 64
  i : s.id < 4294967296
  b1 : s.bs.length + 16 ≤ s.size * s.sectors
  n : ∀ c ∈ s.chunks, c ≠ []
  t1 : s.tslots ≤ s.chunks.length
theorem PSt.Ok.room {s : PSt} (h : s.Ok) : s.size * s.sectors ≤ 262144 := Nat.mul_le_mul h.s1 h.c1
theorem body_len : ∀ (cs : List (List UInt8)), cs.length * 8 ≤ (bodyB cs).length := by
  intro cs
  induction cs with
  | nil => simp [bodyB]
  | cons c cs ih => rw [bodyB, List.length_append, List.length_append, slotB_len, List.length_cons]; omega
theorem PSt.bs_len (s : PSt) : s.bs.length = 16 + (bodyB s.chunks).length := by rw [PSt.bs, List.length_append, headB_len]
theorem PSt.Ok.many {s : PSt} (h : s.Ok) : s.chunks.length ≤ 32768 := by
  have h1 := h.room
  have h2 := h.b1
  have h3 := body_len s.chunks
  rw [s.bs_len] at h2
  omega
/-- The row that a cell of a block holds. -/
def rowOf (w : World) (g j : Nat) : Option Nat := (w.cell? ⟨g, j, none⟩).bind Value.ownBlock
/-- The blocks that a call of it may write: its own, its rows'. -/
def pS (g : Nat) (w : World) : Nat → Prop := fun k => k = g ∨ rowOf w g 2 = some k ∨ rowOf w g 3 = some k
structure Turns (g : Nat) (w w' : World) : Prop where
  kept : Kept (pS g w) w w'
  row : ∀ k, k < w.heap.size → pS g w' k → pS g w k
theorem Turns.refl (g : Nat) (w : World) : Turns g w w := ⟨Kept.refl _ _, fun k _ h => h⟩
theorem Turns.trans {g : Nat} {a b c : World} (h : Turns g a b) (k : Turns g b c) : Turns g a c :=
  ⟨h.kept.trans' k.kept h.row, fun i hi hr => h.row i hi (k.row i (Nat.lt_of_lt_of_le hi h.kept.size) hr)⟩
theorem rowOf_same {w w' : World} {g j : Nat} (hg : g < w.heap.size) (k : Same w w') : rowOf w' g j = rowOf w g j := by
  unfold rowOf
  rw [World.cell?_of_block (k.block g hg (fun h => h))]
theorem pS_same {w w' : World} {g : Nat} (hg : g < w.heap.size) (k : Same w w') (i : Nat) : pS g w' i ↔ pS g w i := by
  unfold pS
  rw [rowOf_same hg k, rowOf_same hg k]
theorem Turns.same {g : Nat} {w w' : World} (hg : g < w.heap.size) (k : Same w w') : Turns g w w' :=
  ⟨k.mono (fun _ _ h => h.elim), fun i hi hr => (pS_same hg k i).1 hr⟩
/-- Block g holds it. -/
structure PW (g : Nat) (s : PSt) (w : World) : Prop where
  lies : ∃ vb vs, w.heap[g]? = some (.cells (PCells s vb vs) 70 (0, 0)) ∧ OwnM w 5 1 vb s.bs.length (s.bs.map U8) ∧ OwnM w 34 2 vs s.slots.length (slotCells s.slots)
  ok : s.Ok
  nt : ¬ pS g w 0
theorem pS_of {g : Nat} {s : PSt} {w : World} {vb vs : Value} (h : w.heap[g]? = some (.cells (PCells s vb vs) 70 (0, 0))) (i : Nat) : pS g w i ↔ i = g ∨ vb.ownBlock = some i ∨ vs.ownBlock = some i := by
  have h2 : rowOf w g 2 = vb.ownBlock := by unfold rowOf; rw [blk_cell h]; rfl
  have h3 : rowOf w g 3 = vs.ownBlock := by unfold rowOf; rw [blk_cell h]; rfl
  unfold pS
  rw [h2, h3]
theorem PW.kept {S : Nat → Prop} {g : Nat} {s : PSt} {w w' : World} (h : PW g s w) (k : Kept S w w') (hs : ∀ i, pS g w i → ¬ S i) : PW g s w' := by
  obtain ⟨⟨vb, vs, h1, h2, h3⟩, ok, nt⟩ := h
  have hp := pS_of h1
  have hb := blk_kept k (hs g (Or.inl rfl)) h1
  exact ⟨⟨vb, vs, hb, h2.kept k (fun i hi => hs i ((hp i).2 (Or.inr (Or.inl hi)))), h3.kept k (fun i hi => hs i ((hp i).2 (Or.inr (Or.inr hi))))⟩, ok, fun e => nt ((hp _).2 ((pS_of hb _).1 e))⟩
theorem PW.same {g : Nat} {s : PSt} {w w' : World} (h : PW g s w) (k : Same w w') : PW g s w' := h.kept k (fun _ _ h => h)
theorem PW.lt {g : Nat} {s : PSt} {w : World} (h : PW g s w) : g < w.heap.size := by
  obtain ⟨⟨vb, vs, h1, _⟩, _, _⟩ := h
  exact blk_lt h1
set_option maxHeartbeats 1000000 in
set_option maxRecDepth 100000 in
theorem p_made {g : Nat} {s : PSt} {w : World} (h : PW g s w) : Calls Tryd.prog 38 #[.pointer (some ⟨g, 0, none⟩)] w fun e w' => e = .returned (.bool true) ∧ w = w' := by
  obtain ⟨⟨vb, vs, h1, _, _⟩, ok, _⟩ := h
  have c0 : w.cell? ⟨g, 0, none⟩ = some (.int .i64 s.size) := blk_cell h1
  have := ok.s0
  clear h1 ok
  go_enter Tryd.func38, Tryd.ntmps38
  go_wp2
  go_returns
  exact ⟨by simp; omega, rfl⟩
theorem p_madeNil (w : World) : Calls Tryd.prog 38 #[.pointer none] w fun e w' => e = .returned (.bool false) ∧ w = w' := by
  go_enter Tryd.func38, Tryd.ntmps38
  go_wp2
  go_returns
  exact ⟨rfl, rfl⟩
def PSt.left (s : PSt) : Nat := if s.shut then 0 else s.size * s.sectors - 16 - s.bs.length - 8
end Go.Proofs.YtafdkfieajdeiaaDoor
