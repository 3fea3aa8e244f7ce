/- The document's disk: put. -/
import Derived.Test.YteoajgphahobiaaR2
namespace Go.Proofs.Yteoajgphahobiaa
open Go.RowKit
set_option linter.unusedVariables false
/-- A platter: so many bytes at the head of a block. -/
def PR (w : World) (pb L pc : Nat) (bs : List UInt8) : Prop := bs.length = L ∧ w.ownsRow 0 5 1 (.slice (some ⟨pb, 0, none⟩) L pc) L (bs.map U8)
def putL (bs : List UInt8) (off n : Nat) (l : List UInt8) : List UInt8 := bs.take off ++ l ++ bs.drop (off + n)
theorem putL_len {bs l : List UInt8} {off n : Nat} (hl : l.length = n) (h : off + n ≤ bs.length) : (putL bs off n l).length = bs.length := by
  unfold putL
  rw [List.length_append, List.length_append, List.length_take, List.length_drop]
  omega
/-- What copy(platter[off:], b) leaves in the block. -/
def putX (cur : Array Value) (off n : Nat) (l : List UInt8) : Array Value := (cur.toList.take off ++ l.map U8 ++ cur.toList.drop (off + n)).toArray
theorem copy_put (W : World) (ty : TypeId) (pb L pc off n : Nat) (cur : Array Value) (l : List UInt8) (u : Value) (hg : W.heap[pb]? = some (.cells cur 5 (0, 0))) (hs : L ≤ cur.size) (hu : Byt W u l) (hl : l.length = n) (h1 : 1 ≤ n) (ho : off + n ≤ L) :
    (Builtin.copy_ #[22, 22] ty #[.slice (some ⟨pb, off, none⟩) (L - off) (pc - off), u]).run Try.prog W = .ok (goInt n) (W.setRow pb (putX cur off n l)) := by
  obtain ⟨i0, hi, hz0, hz1, hz2⟩ := info_parts info5
  rcases hu with ⟨_, h0⟩ | ⟨a, ac, rfl, hcl⟩
  · rw [h0] at hl; simp at hl; omega
  have h := run_copy_row (P := Try.prog) W 22 22 ty 5 pb off (L - off) (pc - off) a l.length ac _ _ (l.map U8) Try.underlying22 (by rw [hi]; simp [hz1]) hg (by rw [List.length_map]; exact (Nat.min_eq_left (by omega)).symm)
    (fun j x hx => by
      rw [List.getElem?_map, Option.map_eq_some_iff] at hx
      obtain ⟨b, hx, rfl⟩ := hx
      obtain ⟨hj, rfl⟩ := List.getElem?_eq_some_iff.1 hx
      exact hcl j hj) (by rw [List.length_map]; omega) (fun x hx => by
      rw [List.mem_map] at hx
      obtain ⟨b, _, rfl⟩ := hx
      exact U8_one b)
  rw [h, List.length_map, hl]
  unfold putX
  rfl
theorem PR.open {w : World} {pb L pc : Nat} {bs : List UInt8} (h : PR w pb L pc bs) : ∃ cur : Array Value, w.heap[pb]? = some (.cells cur 5 (0, 0)) ∧ L ≤ cur.size ∧ cur.size = pc ∧ pc ≤ maxLen ∧ cur.toList.take L = bs.map U8 := by
  obtain ⟨hbl, hown⟩ := h
  rcases hown.2 with ⟨e, _⟩ | ⟨g, cap, cur, e, hB, hg, hn, hc, hs, ht⟩
  · cases e
  obtain ⟨rfl, rfl⟩ : pb = g ∧ pc = cap := by simpa using e
  rw [Nat.mul_one] at hs ht
  exact ⟨cur, hg, by omega, hs, hc, ht⟩
theorem PR.mk' {w : World} {pb L pc : Nat} {bs : List UInt8} {cur : Array Value} (hl : bs.length = L) (hg : w.heap[pb]? = some (.cells cur 5 (0, 0))) (h1 : L ≤ cur.size) (hs : cur.size = pc) (hc : pc ≤ maxLen) (ht : cur.toList.take L = bs.map U8) : PR w pb L pc bs :=
  ⟨hl, by simpa using hl, Or.inr ⟨pb, pc, cur, rfl, Nat.zero_le _, hg, by omega, hc, by omega, by rw [Nat.mul_one]; exact ht⟩⟩
theorem putX_ok {cur : Array Value} {L off n : Nat} {bs l : List UInt8} (hl : l.length = n) (ho : off + n ≤ L) (hs : L ≤ cur.size) (ht : cur.toList.take L = bs.map U8) : (putX cur off n l).size = cur.size ∧ (putX cur off n l).toList.take L = (putL bs off n l).map U8 := by
  have hcl : cur.toList.length = cur.size := by simp
  constructor
  · unfold putX
    simp only [List.size_toArray, List.length_append, List.length_take, List.length_drop, List.length_map]
    omega
  · unfold putX putL
    rw [List.toList_toArray, List.map_append, List.map_append, List.map_take, List.map_drop, ← ht, List.take_take, Nat.min_eq_left (by omega), List.drop_take, List.take_append, List.take_of_length_le (by simp; omega)]
    congr 2
    simp
    omega
set_option maxHeartbeats 2000000 in
set_option maxRecDepth 100000 in
theorem r_put (n c pb L pc g N off : Nat) (qv : Value) (r wn f : Nat) (lim : Bool) (more : Int) (bs l : List UInt8) (u : Value) (w : World)
    (hb : w.heap[g]? = some (.cells (RC n c pb L pc qv r wn f lim more) 35 (0, 0))) (hp : PR w pb L pc bs) (hu : Byt w u l) (hl : l.length = n) (h1 : 1 ≤ n) (hoff : N * n = off) (ho : off + n ≤ L) (hL : L ≤ 16777216) :
    Calls Try.prog 57 #[.pointer (some ⟨g, 0, none⟩), .agg #[.int .i64 N, u]] w fun e w' => e = .returned (.tuple #[]) ∧ PR w' pb L pc (putL bs off n l) ∧ Kept (fun k => k = pb) w w' := by
  have c0 : w.cell? ⟨g, 0, none⟩ = some (.int .i64 n) := blk_cell hb
  have c2 : w.cell? ⟨g, 2, none⟩ = some (.slice (some ⟨pb, 0, none⟩) L pc) := blk_cell hb
  obtain ⟨cur, hg, hs, hpc, hml, ht⟩ := hp.open
  obtain ⟨x1, x2⟩ := putX_ok hl ho hs ht
  have hgl := blk_lt hb
  have hpl := blk_lt hg
  obtain ⟨a, ac, rfl⟩ : ∃ a ac, u = .slice (some a) n ac := by
    rcases hu with ⟨_, h⟩ | ⟨a, ac, e, _⟩
    · rw [h] at hl; simp at hl; omega
    · exact ⟨a, ac, by rw [← hl]; exact e⟩
  have HCP : Hid (∀ (W : World) ty, Same w W → (Builtin.copy_ #[22, 22] ty #[.slice (some ⟨pb, off, none⟩) (L - off) (pc - off), .slice (some a) n ac]).run Try.prog W = .ok (goInt n) (W.setRow pb (putX cur off n l))) := fun W ty k => copy_put W ty pb L pc off n cur l _ (blk_kept k (fun h => h) hg) hs (hu.same k) hl h1 ho
  have HFIN : Hid (∀ W : World, Same w W → PR (W.setRow pb (putX cur off n l)) pb L pc (putL bs off n l) ∧ Kept (fun k => k = pb) w (W.setRow pb (putX cur off n l))) := fun W k => by
    refine ⟨PR.mk' (by rw [putL_len hl (by rw [hp.1]; exact ho), hp.1]) (setRow_heap _ _ _ _ _ _ (blk_kept k (fun h => h) hg)) (by omega) (by omega) hml x2, ⟨k.os, k.tape, k.output, by have := k.size; simp; omega, fun i hi hs => (setRow_other _ _ _ _ (fun e => hs e)).trans (k.block i hi (fun h => h))⟩⟩
  have e1 : (N : Int) * (n : Int) = (off : Int) := by rw [← hoff]; exact (Int.natCast_mul _ _).symm
  have e2 : IntKind.i64.wrap ((N : Int) * (n : Int)) = (off : Int) := by rw [e1, IntKind.wrap_i64]; omega
  have q1 : (0 : Int) ≤ (off : Int) := Int.natCast_nonneg _
  have q2 : (off : Int) ≤ (L : Int) := by omega
  have q3 : (off : Int) < (L : Int) := by omega
  have hne9 : L - off ≠ 0 := by omega
  have hca0 : ∀ o, (w.alloc o).cell? ⟨g, 0, none⟩ = some (.int .i64 n) := fun o => blk_cell (blk_alloc hb o)
  have hca2 : ∀ o, (w.alloc o).cell? ⟨g, 2, none⟩ = some (.slice (some ⟨pb, 0, none⟩) L pc) := fun o => blk_cell (blk_alloc hb o)
  have hpo : ¬ pc = off := by omega
  have K1 := hidden (same_alloc w (.cells #[.int .i64 (N : Int), .slice (some a) n ac] 58))
  clear hb hp hu hg x1 x2 ht e1 hoff
  go_enter Try.func57, Try.ntmps57
  go_wp2
  go_region_law ((refine step_copy (by rfl) _ _ 22 22 (by rfl) _ _ _ _ (by rfl) (by rfl) (HCP.out _ _ ⟨K1.out.os, K1.out.tape, K1.out.output, K1.out.size, K1.out.block⟩) ?_))
  all_goals
    go_end0
    exact ⟨rfl, HFIN.out _ ⟨K1.out.os, K1.out.tape, K1.out.output, K1.out.size, K1.out.block⟩⟩
end Go.Proofs.Yteoajgphahobiaa
