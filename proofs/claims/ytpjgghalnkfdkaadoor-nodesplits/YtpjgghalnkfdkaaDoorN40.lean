/- node: how many bytes entries have; entrySize, half. -/
import Derived.Test.YtpjgghalnkfdkaaDoorN9
import Derived.Test.YtpjgghalnkfdkaaDoorN16
import Derived.Test.YtpjgghalnkfdkaaDoorN17
import Derived.StillTailTactics
import Derived.BigQuiet
import Derived.Deep.QuietTactic
namespace Go.Proofs.YtpjgghalnkfdkaaDoor
open Go.RowKit
set_option linter.unusedVariables false
set_option linter.unusedSimpArgs false
theorem Row.subb {W : World} {a : Option Addr} {k c : Nat} {xs : List Value} (r : Row W (.slice a k c) xs) {i j : Nat} (hij : i ≤ j) (hj : j ≤ k) : Row W (.slice (if c = i then a else a.map (·.add (i * 1))) (j - i) (c - i)) ((xs.drop i).take (j - i)) := by
  have hl := r.len
  obtain ⟨a', c', e1, e2, e3, e4⟩ := r
  simp only [Value.slice.injEq] at e1
  obtain ⟨rfl, he, rfl⟩ := e1
  have hlen : ((xs.drop i).take (j - i)).length = j - i := by rw [List.length_take, List.length_drop]; omega
  refine ⟨_, c - i, by rw [hlen], by omega, fun hn => ?_, fun hpos => ?_⟩
  · split at hn
    · omega
    · cases a with
      | none => have := e3 rfl; omega
      | some ad => simp at hn
  · rw [hlen] at hpos
    obtain ⟨b, off, rfl, hc⟩ := e4 (by omega)
    refine ⟨b, off + i, ?_, fun t x ht => ?_⟩
    · rw [if_neg (by omega)]
      simp [add_none]
    · have htj : t < j - i := by have := (List.getElem?_eq_some_iff.1 ht).1; omega
      rw [List.getElem?_take, if_pos htj, List.getElem?_drop] at ht
      rw [Nat.add_assoc]
      exact hc _ _ ht
theorem szS (W : World) : (sizeOf (Tryd.prog.elem 22)).run Tryd.prog W = .ok 1 W := by kernel_rfl
theorem szI (W : World) : (sizeOf (Tryd.prog.elem 23)).run Tryd.prog W = .ok 1 W := by kernel_rfl
theorem unS : Tryd.prog.underlying 22 = some (.slice (Tryd.prog.elem 22)) := by kernel_rfl
theorem unI : Tryd.prog.underlying 23 = some (.slice (Tryd.prog.elem 23)) := by kernel_rfl
/-- A part of a slice: what it is, and that its values lie there. -/
theorem sl_part {T : Nat} (ht : Tryd.prog.underlying T = some (.slice (Tryd.prog.elem T))) (hs : ∀ W, (sizeOf (Tryd.prog.elem T)).run Tryd.prog W = .ok 1 W) (a : Option Addr) (k c lo hi : Nat) (h1 : lo ≤ hi) (h2 : hi ≤ k) (hc : k ≤ c) (W : World) :
    (Instr.sliceAt T (.slice a k c) (some (.int .i64 (lo : Int))) (some (.int .i64 (hi : Int))) none).run Tryd.prog W = .ok (.slice (if c = lo then a else a.map (·.add (lo * 1))) (hi - lo) (c - lo)) W := by
  rw [run_sliceAt_slice (h := ht), run_slice_lh (ht := ht) (h0 := by omega) (h1 := by omega) (h2 := by omega), hs]
  simp [sliced]
theorem sl_first {T : Nat} (ht : Tryd.prog.underlying T = some (.slice (Tryd.prog.elem T))) (hs : ∀ W, (sizeOf (Tryd.prog.elem T)).run Tryd.prog W = .ok 1 W) (a : Option Addr) (k c hi : Nat) (h2 : hi ≤ k) (hc : k ≤ c) (W : World) :
    (Instr.sliceAt T (.slice a k c) none (some (.int .i64 (hi : Int))) none).run Tryd.prog W = .ok (.slice (if c = 0 then a else a.map (·.add (0 * 1))) hi c) W := by
  rw [run_sliceAt_slice (h := ht), run_slice_h (ht := ht) (h0 := by omega) (h2 := by omega), hs]
  simp [sliced]
theorem sl_rest {T : Nat} (ht : Tryd.prog.underlying T = some (.slice (Tryd.prog.elem T))) (hs : ∀ W, (sizeOf (Tryd.prog.elem T)).run Tryd.prog W = .ok 1 W) (a : Option Addr) (k c lo : Nat) (h1 : lo ≤ k) (hc : k ≤ c) (W : World) :
    (Instr.sliceAt T (.slice a k c) (some (.int .i64 (lo : Int))) none none).run Tryd.prog W = .ok (.slice (if c = lo then a else a.map (·.add (lo * 1))) (k - lo) (c - lo)) W := by
  rw [run_sliceAt_slice (h := ht), run_slice_l (ht := ht) (h0 := by omega) (h1 := by omega), hs]
  simp [sliced]
/-- How many bytes the entry i has. -/
def Nd.es (n : Nd) (i : Nat) : Nat := if n.leaf then 2 + (n.keys.getD i ⟨#[]⟩).size + (n.vals.getD i ⟨#[]⟩).size else 5 + (n.keys.getD i ⟨#[]⟩).size
/-- The first k together. -/
def Nd.pre (n : Nd) : Nat → Nat
  | 0 => 0
  | k + 1 => n.pre k + n.es k
/-- What Check takes. -/
structure Nd.Fine (n : Nd) : Prop where
  k : ∀ i (h : i < n.keys.length), 1 ≤ n.keys[i].size ∧ n.keys[i].size ≤ 64
  v : ∀ i (h : i < n.vals.length), n.vals[i].size ≤ 64
  leaf : n.leaf = true → n.vals.length = n.keys.length ∧ n.kids = []
  inner : n.leaf = false → n.vals = [] ∧ n.kids.length = n.keys.length + 1
  kid : n.kids.any noKid = false
  up : rises n.keys = true
theorem fine_part {n : Nd} (h : n.part = 0) : n.Fine := by
  unfold Nd.part at h
  have h1 : n.ents = true := by
    by_cases e : n.ents = true
    · exact e
    · rw [if_neg e] at h; cases h
  rw [if_pos h1] at h
  have h2 : n.shape = true := by
    by_cases e : n.shape = true
    · exact e
    · rw [if_neg e] at h; cases h
  simp only [Nd.shape, Bool.and_eq_true, Bool.not_eq_true'] at h2
  simp only [Nd.ents, Bool.and_eq_true, List.all_eq_true] at h1
  refine ⟨fun i hi => ?_, fun i hi => ?_, fun hl => ?_, fun hl => ?_, h2.1.2, h2.2⟩
  · have := h1.1 _ (List.getElem_mem hi)
    simpa [mayK] using this
  · have := h1.2 _ (List.getElem_mem hi)
    simpa [mayV] using this
  · have := h2.1.1
    simp only [Nd.lists, hl, if_true, Bool.and_eq_true, decide_eq_true_eq] at this
    exact ⟨this.1, List.eq_nil_of_length_eq_zero this.2⟩
  · have := h2.1.1
    rw [Nd.lists, hl] at this
    simp at this
    exact ⟨this.1, this.2⟩
theorem part_fine {n : Nd} (h : n.Fine) : n.part = 0 := by
  have h1 : n.ents = true := by
    simp only [Nd.ents, Bool.and_eq_true, List.all_eq_true]
    refine ⟨fun x hx => ?_, fun x hx => ?_⟩
    · obtain ⟨i, hi, rfl⟩ := List.getElem_of_mem hx
      simpa [mayK] using h.k i hi
    · obtain ⟨i, hi, rfl⟩ := List.getElem_of_mem hx
      simpa [mayV] using h.v i hi
  have h2 : n.shape = true := by
    simp only [Nd.shape, Bool.and_eq_true, Bool.not_eq_true']
    refine ⟨⟨?_, h.kid⟩, h.up⟩
    unfold Nd.lists
    cases hl : n.leaf
    · obtain ⟨a, b⟩ := h.inner hl
      simp [a, b]
    · obtain ⟨a, b⟩ := h.leaf hl
      simp [a, b]
  unfold Nd.part
  rw [if_pos h1, if_pos h2]
theorem chk_part {n : Nd} (h : n.chk = 0) : n.part = 0 ∧ (n.leaf = false → 1 ≤ n.keys.length) := by
  unfold Nd.chk at h
  have h1 : n.ents = true := by
    by_cases e : n.ents = true
    · exact e
    · rw [if_neg e] at h; cases h
  rw [if_pos h1] at h
  have h2 : (n.shape && (n.leaf || decide (n.keys.length ≠ 0))) = true := by
    by_cases e : (n.shape && (n.leaf || decide (n.keys.length ≠ 0))) = true
    · exact e
    · rw [if_neg e] at h; cases h
  simp only [Bool.and_eq_true, Bool.or_eq_true, decide_eq_true_eq] at h2
  refine ⟨by unfold Nd.part; rw [if_pos h1, if_pos h2.1], fun hl => ?_⟩
  rcases h2.2 with e | e
  · rw [hl] at e; cases e
  · omega
theorem Nd.Fine.es_le {n : Nd} (h : n.Fine) {i : Nat} (hi : i < n.keys.length) : 3 ≤ n.es i ∧ n.es i ≤ 130 ∧ (n.leaf = false → n.es i ≤ 69) := by
  have hk := h.k i hi
  unfold Nd.es
  cases hl : n.leaf
  · simp [List.getD_eq_getElem?_getD, hi]; omega
  · have hv := (h.leaf hl).1
    have := h.v i (by omega)
    have hi2 : i < n.vals.length := by omega
    simp [List.getD_eq_getElem?_getD, hi, hi2]; omega
theorem Nd.Fine.pre_le {n : Nd} (h : n.Fine) : ∀ k, k ≤ n.keys.length → n.pre k ≤ 130 * k
  | 0, _ => Nat.le_refl _
  | k + 1, hk => by
    have := h.pre_le k (by omega)
    have := (h.es_le (i := k) (by omega)).2.1
    simp only [Nd.pre]; omega
theorem Nd.pre_mono (n : Nd) (a : Nat) : ∀ b, n.pre a ≤ n.pre (a + b)
  | 0 => Nat.le_refl _
  | b + 1 => by have := n.pre_mono a b; show n.pre a ≤ n.pre (a + b) + n.es (a + b); omega
/-- Where a node is split: how many entries the first half has. -/
structure Nd.At (n : Nd) (most i : Nat) : Prop where
  lo : 1 ≤ i
  hi : i ≤ most
  less : ∀ j, 1 ≤ j → j < i → 2 * n.pre j < n.pre n.keys.length
  stop : i = most ∨ n.pre n.keys.length ≤ 2 * n.pre i
theorem Nd.at_ex (n : Nd) (most : Nat) (hm : 1 ≤ most) : ∃ i, n.At most i := by
  have : ∀ k, k + 1 ≤ most → (∃ i, n.At most i) ∨ ∀ j, 1 ≤ j → j < k + 1 → 2 * n.pre j < n.pre n.keys.length := by
    intro k
    induction k with
    | zero => intro _; exact .inr (fun j h1 h2 => by omega)
    | succ k ih =>
      intro hk
      rcases ih (by omega) with h | h
      · exact .inl h
      · by_cases e : n.pre n.keys.length ≤ 2 * n.pre (k + 1)
        · exact .inl ⟨k + 1, by omega, by omega, h, .inr e⟩
        · exact .inr (fun j h1 h2 => by
            by_cases ej : j = k + 1
            · subst ej; omega
            · exact h j h1 (by omega))
  obtain ⟨m, rfl⟩ : ∃ m, most = m + 1 := ⟨most - 1, by omega⟩
  rcases this m (by omega) with h | h
  · exact h
  · exact ⟨m + 1, by omega, Nat.le_refl _, h, .inl rfl⟩
theorem getD_at {l : List ByteArray} {i : Nat} (h : i < l.length) : l.getD i ⟨#[]⟩ = l[i] := by simp [List.getD_eq_getElem?_getD, h]
set_option maxHeartbeats 1000000 in
set_option maxRecDepth 100000 in
theorem entrySize_any (n : Nd) (a1 a2 a3 : Option Addr) (k1 c1 k2 c2 k3 c3 : Nat) (i : Nat) (w : World) (r1 : Row w (.slice a1 k1 c1) (TS n.keys)) (r2 : Row w (.slice a2 k2 c2) (TS n.vals)) (r3 : Row w (.slice a3 k3 c3) (IS n.kids)) (hF : n.Fine) (hi : i < n.keys.length) :
    Calls Tryd.prog 81 #[.agg #[.bool n.leaf, .slice a1 k1 c1, .slice a2 k2 c2, .slice a3 k3 c3], .int .i64 i] w fun e w' => e = .returned (.int .i64 (n.es i : Nat)) ∧ Same w w' := by
  have e1 := r1.tl
  obtain ⟨b, off, rfl, hc⟩ := r1.text hi
  have hk := hF.k i hi
  have hk1 : (i : Int) < k1 := by omega
  have hb0 : b < w.heap.size := World.block_lt_of_cell? w _ hc
  cases hl : n.leaf
  · have hes : n.es i = 5 + n.keys[i].size := by unfold Nd.es; rw [hl, getD_at hi]; rfl
    rw [hes]
    generalize n.keys[i] = kk at *
    clear hes r1 r2 r3
    go_enter Tryd.func81, Tryd.ntmps81
    go_wp2
    go_ret
    exact ⟨by simp, same_alloc _ _⟩
  · have hvl := (hF.leaf hl).1
    have hiv : i < n.vals.length := by omega
    obtain ⟨b2, off2, rfl, hc2⟩ := r2.text hiv
    have hv := hF.v i hiv
    have e2 := r2.tl
    have hk2 : (i : Int) < k2 := by omega
    have hb2 : b2 < w.heap.size := World.block_lt_of_cell? w _ hc2
    have hes : n.es i = 2 + n.keys[i].size + n.vals[i].size := by unfold Nd.es; rw [hl, getD_at hi, getD_at hiv]; rfl
    rw [hes]
    generalize n.keys[i] = kk at *
    generalize n.vals[i] = vv at *
    clear hes r1 r2 r3
    go_enter Tryd.func81, Tryd.ntmps81
    go_wp2
    go_quiet (fail)
    go_wp2
    go_ret
    exact ⟨by simp, (same_alloc _ _).drewN _⟩
end Go.Proofs.YtpjgghalnkfdkaaDoor
