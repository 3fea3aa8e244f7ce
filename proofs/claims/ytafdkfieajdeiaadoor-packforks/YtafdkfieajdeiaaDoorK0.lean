/- Bytes in memory, wherever they lie: parts of them, as a text; made, copied. -/
import Derived.Test.YtafdkfieajdeiaaDoorFit
import Derived.Laws.OwnMore
import Derived.Laws.CopyRow
import Derived.Lib.BufferWrite
namespace Go.Proofs.YtafdkfieajdeiaaDoor
open Go.RowKit
set_option linter.unusedVariables false

/-- Bytes in memory. -/
structure Bt (w : World) (v : Value) (l : List UInt8) : Prop where
  ex : ∃ ao cap, v = .slice ao l.length cap ∧ l.length ≤ cap ∧ (0 < l.length → ∃ b off, ao = some ⟨b, off, none⟩ ∧ ∀ j (hj : j < l.length), w.cell? ⟨b, off + j, none⟩ = some (U8 l[j]))
theorem add_none (g i j : Nat) : (⟨g, i, none⟩ : Addr).add j = ⟨g, i + j, none⟩ := by unfold Addr.add; split <;> simp_all
theorem Bt.nil (w : World) : Bt w (.slice none 0 0) [] := ⟨none, 0, rfl, Nat.le_refl _, fun h => by simp at h⟩
theorem Bt.form {w : World} {v : Value} {l : List UInt8} (h : Bt w v l) : ∃ ao cap, v = .slice ao l.length cap ∧ l.length ≤ cap := by
  obtain ⟨ao, cap, h1, h2, _⟩ := h
  exact ⟨ao, cap, h1, h2⟩
theorem Bt.same {w w' : World} {v : Value} {l : List UInt8} (h : Bt w v l) (k : Same w w') : Bt w' v l := by
  obtain ⟨ao, cap, h1, h2, h3⟩ := h
  refine ⟨ao, cap, h1, h2, fun h0 => ?_⟩
  obtain ⟨b, off, e, hc⟩ := h3 h0
  exact ⟨b, off, e, fun j hj => Kept.cell k (fun h => h) (hc j hj)⟩
theorem Bt.cell {w : World} {ao : Option Addr} {n cap : Nat} {l : List UInt8} (h : Bt w (.slice ao n cap) l) (h0 : 0 < l.length) : ∃ b off, ao = some ⟨b, off, none⟩ ∧ ∀ j (hj : j < l.length), w.cell? ⟨b, off + j, none⟩ = some (U8 l[j]) := by
  obtain ⟨ao', cap', h1, h2, h3⟩ := h
  simp only [Value.slice.injEq] at h1
  obtain ⟨rfl, _, _⟩ := h1
  exact h3 h0
theorem Bt.len {w : World} {ao : Option Addr} {n cap : Nat} {l : List UInt8} (h : Bt w (.slice ao n cap) l) : n = l.length ∧ l.length ≤ cap := by
  obtain ⟨ao', cap', h1, h2, h3⟩ := h
  simp only [Value.slice.injEq] at h1
  omega
theorem Bt.text {w : World} {v : Value} {l : List UInt8} (h : Bt w v l) : (convert 32 9 v).run Tryd.prog w = .ok (.string ⟨l.toArray⟩) w := by
  obtain ⟨ao, cap, rfl, h2, h3⟩ := h
  by_cases h0 : 0 < l.length
  · obtain ⟨b, off, rfl, hc⟩ := h3 h0
    exact run_convert_bytes_back w 32 9 5 _ cap l Tryd.underlying32 Tryd.underlying5 Tryd.underlying9 fun j hj => by rw [add_none]; exact hc j hj
  · have hl : l = [] := List.eq_nil_of_length_eq_zero (by omega)
    subst hl
    cases ao with
    | none => exact run_convert_bytes_nil w 32 5 Tryd.underlying32 Tryd.underlying5 _ _ 9 Tryd.underlying9
    | some a => exact run_convert_bytes_back w 32 9 5 a cap [] Tryd.underlying32 Tryd.underlying5 Tryd.underlying9 fun j hj => by simp at hj
theorem elemByte : Tryd.prog.elem 32 = 5 := by kernel_rfl
theorem size_byte (W : World) : (sizeOf (Tryd.prog.elem 32)).run Tryd.prog W = .ok 1 W := by
  obtain ⟨i0, hi, hz0, hz1, hz2⟩ := info_parts info5
  rw [elemByte]
  simp [sizeOf, typeInfo, hi, hz1]
/-- What a part of bytes is. -/
theorem Bt.part {w : World} {ao : Option Addr} {n cap : Nat} {l : List UInt8} (h : Bt w (.slice ao n cap) l) {i j : Nat} (hij : i ≤ j) (hj : j ≤ n) (W : World) (k : Same w W) :
    Bt W (.slice (if cap = i then ao else ao.map (·.add (i * 1))) (j - i) (cap - i)) ((l.take j).drop i) := by
  obtain ⟨e1, e2⟩ := h.len
  have hl : ((l.take j).drop i).length = j - i := by simp; omega
  refine ⟨_, _, by rw [hl], by rw [hl]; omega, fun h0 => ?_⟩
  rw [hl] at h0
  obtain ⟨b, off, rfl, hc⟩ := (h.same k).cell (by omega)
  have hne : ¬ cap = i := by omega
  refine ⟨b, off + i, by simp [hne, add_none], fun q hq => ?_⟩
  rw [hl] at hq
  have := hc (i + q) (by omega)
  rw [Nat.add_assoc, this]
  simp
set_option maxRecDepth 100000 in
theorem Bt.sub {w : World} {ao : Option Addr} {n cap : Nat} {l : List UInt8} (h : Bt w (.slice ao n cap) l) {i j : Nat} (hij : i ≤ j) (hj : j ≤ n) (x y : Int) (hx : x = (i : Int)) (hy : y = (j : Int)) :
    ∃ p, (∀ W, (Instr.sliceAt 32 (.slice ao n cap) (some (.int .i64 x)) (some (.int .i64 y)) none).run Tryd.prog W = .ok (.slice p (j - i) (cap - i)) W) ∧ ∀ W, Same w W → Bt W (.slice p (j - i) (cap - i)) ((l.take j).drop i) := by
  have e2 := h.len.2
  have e1 := h.len.1
  subst hx hy
  refine ⟨(if cap = i then ao else ao.map (·.add (i * 1))), fun W => ?_, fun W k => h.part hij hj W k⟩
  rw [run_sliceAt_slice (h := Tryd.underlying32), run_slice_lh (ht := Tryd.underlying32) (h0 := by omega) (h1 := by omega) (h2 := by omega), size_byte]
  simp [sliced]
set_option maxRecDepth 100000 in
theorem Bt.head {w : World} {ao : Option Addr} {n cap : Nat} {l : List UInt8} (h : Bt w (.slice ao n cap) l) {j : Nat} (hj : j ≤ n) (y : Int) (hy : y = (j : Int)) :
    ∃ p, (∀ W, (Instr.sliceAt 32 (.slice ao n cap) none (some (.int .i64 y)) none).run Tryd.prog W = .ok (.slice p j cap) W) ∧ ∀ W, Same w W → Bt W (.slice p j cap) (l.take j) := by
  have e2 := h.len.2
  have e1 := h.len.1
  subst hy
  refine ⟨(if cap = 0 then ao else ao.map (·.add (0 * 1))), fun W => ?_, fun W k => by simpa using h.part (Nat.zero_le j) hj W k⟩
  rw [run_sliceAt_slice (h := Tryd.underlying32), run_slice_h (ht := Tryd.underlying32) (h0 := by omega) (h2 := by omega), size_byte]
  simp [sliced]
set_option maxRecDepth 100000 in
theorem Bt.tail {w : World} {ao : Option Addr} {n cap : Nat} {l : List UInt8} (h : Bt w (.slice ao n cap) l) {i : Nat} (hi : i ≤ n) (x : Int) (hx : x = (i : Int)) :
    ∃ p, (∀ W, (Instr.sliceAt 32 (.slice ao n cap) (some (.int .i64 x)) none none).run Tryd.prog W = .ok (.slice p (n - i) (cap - i)) W) ∧ ∀ W, Same w W → Bt W (.slice p (n - i) (cap - i)) (l.drop i) := by
  have e2 := h.len.2
  have e1 := h.len.1
  subst hx
  refine ⟨(if cap = i then ao else ao.map (·.add (i * 1))), fun W => ?_, fun W k => ?_⟩
  · rw [run_sliceAt_slice (h := Tryd.underlying32), run_slice_l (ht := Tryd.underlying32) (h0 := by omega) (h1 := by omega), size_byte]
    simp only [sliced, Result.andThen_ok, Int.toNat_natCast]
  · have := h.part (i := i) (j := n) (by omega) (Nat.le_refl _) W k
    rwa [List.take_of_length_le (by omega)] at this
theorem make_bytes (n : Nat) (hn : n ≤ 281474976710656) (W : World) :
    (Instr.makeSlice 32 (.int .i64 (n : Int)) (.int .i64 (n : Int))).run Tryd.prog W = .ok (.slice (some ⟨W.heap.size, 0, none⟩) n n) (W.alloc (.cells (List.replicate n (U8 0)).toArray 5)) := by
  obtain ⟨i0, hi, hz0, hz1, hz2⟩ := info_parts info5
  have h := run_make (P := Tryd.prog) W 32 5 i0 (.int .u8 0) Tryd.underlying32 hi hz0 .i64 .i64 (n : Int) (n : Int) (by omega) (by omega) (by rw [hz2]; omega) (by omega)
  have hM : madeCells (Value.int .u8 0).cells (n * i0.size) = (List.replicate n (U8 0)).toArray := by
    rw [hz1, Nat.mul_one]
    apply Array.ext'
    rw [List.toList_toArray]
    exact toList_madeCells_one _ _
  rw [Int.toNat_natCast, hM] at h
  exact h
theorem same_alloc (w : World) (o : Obj) : Same w (w.alloc o) := (Kept.refl _ _).alloc o
theorem same_setRow {w W : World} (k : Same w W) {g : Nat} (hg : w.heap.size ≤ g) (cs : Array Value) : Same w (W.setRow g cs) := by
  have hz := k.size
  exact ⟨k.os, k.tape, k.output, by simp; omega, fun i hi hs => (setRow_other _ _ _ _ (by omega)).trans (k.block i hi hs)⟩
/-- A row that the call has made is bytes. -/
theorem Bt.own {w : World} {B : Nat} {ao : Option Addr} {n cap : Nat} {l : List UInt8} (h : w.ownsRow B 5 1 (.slice ao n cap) l.length (l.map U8)) : Bt w (.slice ao n cap) l := by
  rcases h.2 with ⟨h1, h2⟩ | ⟨g, cp, cur, h1, hb, hg, h3, h4⟩
  · simp only [Value.slice.injEq] at h1
    obtain ⟨rfl, rfl, rfl⟩ := h1
    have hl : l = [] := List.eq_nil_of_length_eq_zero h2
    subst hl
    exact Bt.nil w
  · simp only [Value.slice.injEq] at h1
    obtain ⟨rfl, rfl, rfl⟩ := h1
    refine ⟨_, _, rfl, h3, fun h0 => ⟨g, 0, rfl, fun j hj => ?_⟩⟩
    have := h.cells (g := g) rfl j (U8 l[j]) (by simp [hj])
    rwa [add_none] at this
end Go.Proofs.YtafdkfieajdeiaaDoor
