/- node: the document's Put of a new key. (Its ground; the walk: N25.) (Made by mkn24.py.) -/
import Derived.Test.YtilnogadopmboaaDoorN23
namespace Go.Proofs.YtilnogadopmboaaDoor
open Go.RowKit
set_option linter.unusedVariables false
set_option linter.unusedSimpArgs false
/-- One text in a block of its own. -/
structure Sgl (v : Value) (x : ByteArray) (W : World) : Prop where
  out : ∃ g, v = .slice (some ⟨g, 0, none⟩) 1 1 ∧ W.heap[g]? = some (.cells #[.string x] 9 (0, 0))
theorem Sgl.same {v : Value} {x : ByteArray} {W W' : World} (h : Sgl v x W) (k : Same W W') : Sgl v x W' := by
  obtain ⟨g, h1, h2⟩ := h.out
  exact ⟨g, h1, blk_kept k (fun h => h) h2⟩
structure Ows (B k : Nat) (L : List ByteArray) (v : Value) (W : World) : Prop where
  out : ∃ a c, v = .slice a k c ∧ W.ownsRow B 9 1 (.slice a k c) k (TS L)
theorem Ows.same {B k : Nat} {L : List ByteArray} {v : Value} {W W' : World} (h : Ows B k L v W) (s : Same W W') : Ows B k L v W' := by
  obtain ⟨a, c, h1, h2⟩ := h.out
  exact ⟨a, c, h1, own_kept h2 s (fun _ _ h => h)⟩
/-- How far 'append(append(append([]string{}, l[:cn]...), x), l[cn:]...)' is. -/
structure InsI (B B0 B2 fld : Nat) (src ph pt : Value) (cn k : Nat) (l : List ByteArray) (x : ByteArray) (d : Nat → Bool) (xs : Nat → Value) (W : World) : Prop where
  v1 : d 1 = true → xs 1 = .pointer (some ⟨B0, fld, none⟩)
  v2 : d 2 = true → xs 2 = src
  v3 : d 3 = true → xs 3 = .int .i64 cn
  v4 : d 4 = true → xs 4 = ph
  v6 : d 6 = true → xs 6 = .string x
  v9 : d 9 = true → xs 9 = .pointer (some ⟨B0, fld, none⟩)
  v10 : d 10 = true → xs 10 = src
  v11 : d 11 = true → xs 11 = .int .i64 cn
  v12 : d 12 = true → xs 12 = pt
  v14 : d 14 = true → xs 14 = .pointer (some ⟨B2, fld, none⟩)
  e0 : d 0 = true → d 5 = false → Emp B 9 (xs 0) W
  o5 : d 5 = true → d 8 = false → Ows B cn (l.take cn) (xs 5) W
  s7 : d 7 = true → d 8 = false → Sgl (xs 7) x W
  o8 : d 8 = true → d 13 = false → Ows B (cn + 1) (l.take cn ++ [x]) (xs 8) W
  o13 : d 13 = true → Ows B (k + 1) (insL l cn x) (xs 13) W
  n5 : d 5 = true → d 0 = true
  n8 : d 8 = true → d 5 = true
  n7 : d 8 = true → d 7 = true
  n13 : d 13 = true → d 8 = true
theorem Row.sub {W : World} {a : Option Addr} {k c : Nat} {xs : List Value} (r : Row W (.slice a k c) xs) {i j : Nat} (hij : i ≤ j) (hj : j ≤ k) : Row W (.slice (if c = i then a else a.map (·.add (i * 1))) (j - i) (c - i)) ((xs.drop i).take (j - i)) := by
  have hl := r.len
  obtain ⟨a', c', e1, e2, e3, e4⟩ := r
  simp only [Value.slice.injEq] at e1
  obtain ⟨rfl, he, rfl⟩ := e1
  have hlen : ((xs.drop i).take (j - i)).length = j - i := by rw [List.length_take, List.length_drop]; omega
  refine ⟨_, c - i, by rw [hlen], by omega, fun hn => ?_, fun hpos => ?_⟩
  · split at hn
    · omega
    · cases a with
      | none => have := e3 rfl; omega
      | some ad => simp at hn
  · rw [hlen] at hpos
    obtain ⟨b, off, rfl, hc⟩ := e4 (by omega)
    refine ⟨b, off + i, ?_, fun t x ht => ?_⟩
    · rw [if_neg (by omega)]
      simp [add_none]
    · have htj : t < j - i := by have := (List.getElem?_eq_some_iff.1 ht).1; omega
      rw [List.getElem?_take, if_pos htj, List.getElem?_drop] at ht
      rw [Nat.add_assoc]
      exact hc _ _ ht
theorem size_str (W : World) : (sizeOf (Tryd.prog.elem 22)).run Tryd.prog W = .ok 1 W := by
  obtain ⟨i0, hii, hz0, hz1, hz2⟩ := info_parts infoS
  have e : Tryd.prog.elem 22 = 9 := by kernel_rfl
  rw [e]
  simp [sizeOf, typeInfo, hii, hz1]
set_option maxRecDepth 100000 in
theorem slice_to {W0 : World} {a : Option Addr} {k c : Nat} {L : List ByteArray} (r : Row W0 (.slice a k c) (TS L)) {cn : Nat} (h : cn ≤ k) :
    ∃ p, (∀ W, (Instr.sliceAt 22 (.slice a k c) none (some (.int .i64 (cn : Int))) none).run Tryd.prog W = .ok (.slice p cn c) W) ∧ ∀ W, Same W0 W → Row W (.slice p cn c) (TS (L.take cn)) := by
  have hlen := r.len
  refine ⟨(if c = 0 then a else a.map (·.add (0 * 1))), fun W => ?_, fun W s => ?_⟩
  · rw [run_sliceAt_slice (h := Tryd.underlying22), run_slice_h (ht := Tryd.underlying22) (h0 := by omega) (h2 := by omega), size_str]
    simp [sliced]
  · have := (r.same s).sub (Nat.zero_le cn) h
    simpa [TS] using this
set_option maxRecDepth 100000 in
theorem slice_from {W0 : World} {a : Option Addr} {k c : Nat} {L : List ByteArray} (r : Row W0 (.slice a k c) (TS L)) {cn : Nat} (h : cn ≤ k) :
    ∃ p, (∀ W, (Instr.sliceAt 22 (.slice a k c) (some (.int .i64 (cn : Int))) none none).run Tryd.prog W = .ok (.slice p (k - cn) (c - cn)) W) ∧ ∀ W, Same W0 W → Row W (.slice p (k - cn) (c - cn)) (TS (L.drop cn)) := by
  have hlen := r.len
  have htl := r.tl
  refine ⟨(if c = cn then a else a.map (·.add (cn * 1))), fun W => ?_, fun W s => ?_⟩
  · rw [run_sliceAt_slice (h := Tryd.underlying22), run_slice_l (ht := Tryd.underlying22) (h0 := by omega) (h1 := by omega), size_str]
    simp [sliced]
  · have := (r.same s).sub h (Nat.le_refl k)
    rw [List.take_of_length_le (by rw [List.length_drop, TS_len]; omega)] at this
    simpa [TS] using this
end Go.Proofs.YtilnogadopmboaaDoor
