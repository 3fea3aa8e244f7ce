/- A slice of sectors in memory; what Take tells and leaves (pure). -/
import Derived.Test.YtljbmpnpbjnbkaaDoorJ4
import Derived.Handy
import Derived.Deep.RegionHeld3
import Derived.Deep.RegionLaw
import Derived.Deep.AppendLies
namespace Go.Proofs.YtljbmpnpbjnbkaaDoor
open Go.RowKit
set_option linter.unusedVariables false

theorem infoSec : (Tryd.prog.info? 41).map (fun i => (i.zero, i.size, i.bytes)) = some (some (.agg #[.int .i64 0, .slice none 0 0]), 2, 32) := by kernel_rfl
/-- The cells of sectors that lie one behind the other from a place on. -/
def secCells : Nat → List Value → List Value
  | _, [] => []
  | t, u :: us => .int .i64 t :: u :: secCells (t + 1) us
theorem secCells_snoc (u : Value) : ∀ (us : List Value) (t : Nat), secCells t (us ++ [u]) = secCells t us ++ [.int .i64 ((t + us.length : Nat) : Int), u]
  | [], t => by simp [secCells]
  | x :: us, t => by
    simp only [secCells, List.cons_append, secCells_snoc u us (t + 1), List.length_cons]
    rw [show t + 1 + us.length = t + (us.length + 1) by omega]
theorem secCells_len : ∀ (us : List Value) (t : Nat), (secCells t us).length = us.length * 2
  | [], _ => rfl
  | u :: us, t => by simp only [secCells, List.length_cons, secCells_len us (t + 1)]; omega
theorem secCells_at : ∀ (us : List Value) (t i : Nat) (u : Value), us[i]? = some u → (secCells t us)[2 * i]? = some (.int .i64 ((t + i : Nat) : Int)) ∧ (secCells t us)[2 * i + 1]? = some u
  | [], _, _, _, h => by simp at h
  | x :: us, t, 0, u, h => by simp at h; subst h; simp [secCells]
  | x :: us, t, i + 1, u, h => by
    have := secCells_at us (t + 1) i u (by simpa using h)
    rw [show t + 1 + i = t + (i + 1) by omega] at this
    simp only [secCells, show 2 * (i + 1) = 2 * i + 1 + 1 by omega, List.getElem?_cons_succ]
    exact this
/-- Sectors of these bytes, from a place on; all of it lies in blocks from B on. -/
structure Secs (w : World) (v : Value) (t : Nat) (ls : List (List UInt8)) (B : Nat) : Prop where
  lies : ∃ us : List Value, us.length = ls.length ∧ w.ownsRow B 41 2 v ls.length (secCells t us) ∧ ∀ i (h : i < ls.length) (h' : i < us.length), Own w us[i] ls[i] B
theorem Secs.nil (w : World) (t B : Nat) : Secs w (.slice none 0 0) t [] B := ⟨[], rfl, World.ownsRow_nil _ _ _ _, fun i h => absurd h (by simp)⟩
theorem Own.kept {w w' : World} {v : Value} {l : List UInt8} {B : Nat} {S : Nat → Prop} (h : Own w v l B) (k : Kept S w w') (hs : ∀ i, B ≤ i → w.heap[i]? = some (.cells (l.map U8).toArray 5 (0, 0)) → ¬ S i) : Own w' v l B := by
  obtain ⟨g, hB, e, hb⟩ := h
  exact ⟨g, hB, e, blk_kept k (hs g hB hb) hb⟩
theorem Own.weak {w : World} {v : Value} {l : List UInt8} {B C : Nat} (h : Own w v l B) (hc : C ≤ B) : Own w v l C := by
  obtain ⟨g, hB, e, hb⟩ := h
  exact ⟨g, Nat.le_trans hc hB, e, hb⟩
theorem Secs.kept {w w' : World} {v : Value} {t : Nat} {ls : List (List UInt8)} {B : Nat} {S : Nat → Prop} (h : Secs w v t ls B) (k : Kept S w w') (hs : ∀ i, B ≤ i → i < w.heap.size → ¬ S i) : Secs w' v t ls B := by
  obtain ⟨us, h1, h2, h3⟩ := h
  exact ⟨us, h1, own_kept h2 k (fun i hi => hs i (h2.lt i hi).1 (h2.lt i hi).2), fun i hi hi' => (h3 i hi hi').kept k (fun j hj hb => hs j hj (blk_lt hb))⟩
theorem Secs.same {w w' : World} {v : Value} {t : Nat} {ls : List (List UInt8)} {B : Nat} (h : Secs w v t ls B) (k : Same w w') : Secs w' v t ls B := h.kept k (fun _ _ _ h => h)
/-- One more behind them. -/
theorem Secs.snoc {w w1 : World} {l u v' : Value} {t : Nat} {ls : List (List UInt8)} {b : List UInt8} {B : Nat} {us : List Value} (h1 : us.length = ls.length) (h2 : w.ownsRow B 41 2 l ls.length (secCells t us)) (h3 : ∀ i (h : i < ls.length) (h' : i < us.length), Own w us[i] ls[i] B)
    (hu : Own w u b B) (hg : w.grownBy w1 l.ownBlock) (ho : w1.ownsRow B 41 2 v' (ls.length + 1) (secCells t us ++ [.int .i64 ((t + ls.length : Nat) : Int), u])) : Secs w1 v' t (ls ++ [b]) B := by
  have ha : ∀ i (cs : Array Value), w.heap[i]? = some (.cells cs 5 (0, 0)) → some i ≠ l.ownBlock := fun i cs hb e => own_apart h2 hb (by decide) e.symm
  have hk : ∀ (x : Value) (y : List UInt8), Own w x y B → Own w1 x y B := fun x y ⟨g, hB, e, hb⟩ => ⟨g, hB, e, (hg.block g (blk_lt hb) (ha g _ hb)).trans hb⟩
  refine ⟨us ++ [u], by simp [h1], ?_, ?_⟩
  · rw [secCells_snoc, List.length_append, h1]
    exact ho
  · intro i hi hi'
    by_cases hlt : i < ls.length
    · rw [List.getElem_append_left (by omega), List.getElem_append_left hlt]
      exact hk _ _ (h3 i hlt (by omega))
    · have e : i = ls.length := by simp at hi; omega
      subst e
      rw [List.getElem_append_right (by omega), List.getElem_append_right (by omega)]
      simpa [h1] using hk _ _ hu

/-! ### What Take tells -/
def JSt.room (s : JSt) : Nat := s.size - 24
/-- How many sectors it takes. -/
def JSt.many (s : JSt) : Nat := (s.bs.length + s.room - 1) / s.room
def JSt.sec (s : JSt) (i : Nat) : List UInt8 := jsec s.size s.gen (s.taken + i) ((s.bs.drop (i * s.room)).take s.room)
def JSt.secs (s : JSt) (k : Nat) : List (List UInt8) := (List.range k).map s.sec
def JSt.take (s : JSt) : JSt := { s with taken := s.taken + s.many, bs := [] }
theorem JSt.secs_succ (s : JSt) (k : Nat) : s.secs (k + 1) = s.secs k ++ [s.sec k] := by simp [JSt.secs, List.range_succ]
theorem JSt.secs_len (s : JSt) (k : Nat) : (s.secs k).length = k := by simp [JSt.secs]
theorem JSt.Ok.room {s : JSt} (h : s.Ok) : 488 ≤ s.room ∧ s.room ≤ 4072 := by have := h.s0; have := h.s1; unfold JSt.room; omega
theorem JSt.many_lt {s : JSt} (h : s.Ok) (k : Nat) : k < s.many ↔ k * s.room < s.bs.length := by
  have hr := h.room
  unfold JSt.many
  rw [Nat.lt_iff_add_one_le, Nat.le_div_iff_mul_le (by omega), Nat.add_mul]
  omega
theorem JSt.Ok.many {s : JSt} (h : s.Ok) : s.taken + s.many ≤ s.sectors := by
  have hr := h.room
  have hb := h.b
  have ht := h.t
  have : s.many ≤ s.sectors - s.taken := by
    apply Classical.byContradiction
    intro hc
    have h1 := (JSt.many_lt h (s.sectors - s.taken)).1 (by omega)
    unfold JSt.room at h1
    omega
  omega
theorem JSt.Ok.long {s : JSt} (h : s.Ok) : s.bs.length ≤ s.many * s.room := by
  apply Classical.byContradiction
  intro hc
  have := (JSt.many_lt h s.many).2 (by omega)
  omega
theorem JSt.take_ok {s : JSt} (h : s.Ok) : s.take.Ok := by
  have h1 := h.many
  have h2 := h.long
  have h3 := h.b
  have h4 := h.r
  have h5 := h.t
  refine ⟨h.s0, h.s1, h.n1, h.g, h1, Nat.zero_le _, ?_⟩
  show 4 * s.recs + ((s.sectors - (s.taken + s.many)) * (s.size - 24) - ([] : List UInt8).length) ≤ 16777216
  unfold JSt.free at h4
  unfold JSt.room at h2
  have e : (s.sectors - s.taken) * (s.size - 24) = (s.sectors - (s.taken + s.many)) * (s.size - 24) + s.many * (s.size - 24) := by
    rw [← Nat.add_mul]
    congr 1
    omega
  simp only [List.length_nil, Nat.sub_zero]
  omega
end Go.Proofs.YtljbmpnpbjnbkaaDoor
