/- Both made anew; a Fork of the program's Disk, while the document's stays. -/
import Derived.Test.YtfliagokdhopoaaR18
namespace Go.Proofs.Ytfliagokdhopoaa
open Go.RowKit
set_option linter.unusedVariables false
def St.new (n c : Nat) : St := ⟨List.replicate c (List.replicate n 0), [], false, 0, 0, 0, 0⟩
theorem SB.new (n c : Nat) : SB 0 (St.new n c) := ⟨Nat.le_refl _, Nat.le_refl _, Nat.le_refl _, Nat.le_refl _⟩
theorem flat_zero (n c : Nat) : (List.replicate c (List.replicate n (0 : UInt8))).flatten = List.replicate (n * c) 0 := by
  rw [List.flatten_replicate_replicate, Nat.mul_comm]
theorem ZD.weak {A : Nat → Prop} {B B' n c g pb pc rb rc : Nat} {s : St} {w : World} (h : ZD A B n c g pb pc rb rc s w) (hB : B' ≤ B) : ZD A B' n c g pb pc rb rc s w := by
  obtain ⟨qv, qs, ps, rs, h1, h5, h6, h7, h8, h9, h10, h11, h12, h13, h14⟩ := h.ex
  exact ⟨⟨qv, qs, ps, rs, h1, h5, h6, h7, h8, h9, h10, (fun k hk => Nat.le_trans hB (h11 k hk)), h12, h13, h14⟩, h.ok, h.ne, Nat.le_trans hB h.lg, Nat.le_trans hB h.lp, Nat.le_trans hB h.lr, h.n1, h.hn, h.c1, h.hc⟩
theorem ZD.row {A : Nat → Prop} {B n c g pb pc rb rc : Nat} {s : St} {w : World} (h : ZD A B n c g pb pc rb rc s w) (k : Nat) (hk : rowOf w g 3 = some k) : B ≤ k := by
  obtain ⟨qv, qs, ps, rs, h1, h5, h6, h7, h8, h9, h10, h11, h12, h13, h14⟩ := h.ex
  rw [rowOf_dp h1] at hk
  exact h11 k hk
theorem ZD.yd {A : Nat → Prop} {B n c g pb pc rb rc : Nat} {s : St} {w : World} (h : ZD A B n c g pb pc rb rc s w) : YD B n c g pb pc rb rc s w := by
  obtain ⟨qv, qs, ps, rs, h1, h5, h6, h7, h8, h9, h10, h11, h12, h13, h14⟩ := h.ex
  exact ⟨⟨qv, qs, ps, rs, h1, h5, h6, h7, h8, h9, h10, h11, h12, h13⟩, h.ok, h.ne, h.lg, h.lp, h.lr, h.n1, h.hn, h.c1, h.hc⟩
theorem PR.zero {w : World} {xb L : Nat} (hL : L ≤ 16777216) (hb : w.heap[xb]? = some (.cells (List.replicate L (U8 0)).toArray 5 (0, 0))) : PR w xb L L (List.replicate L 0) :=
  ⟨by simp, ⟨by simp, Or.inr ⟨xb, L, _, rfl, Nat.zero_le _, hb, Nat.le_refl _, by unfold maxLen; omega, by simp, by simp [List.map_replicate]⟩⟩⟩
theorem pair_new {B n c g pb pc rb rc x : Nat} {w1 w2 : World} (d : ZD (fun _ => False) B n c g pb pc rb rc (St.new n c) w1) (hB : B ≤ w1.heap.size) (hx : w1.heap.size ≤ x) (hb : w2.heap[x]? = some (.cells (RC n c w1.heap.size (n * c) (n * c) (.slice none 0 0) 0 0 0 false 0) 35 (0, 0))) (hp : w2.heap[w1.heap.size]? = some (.cells (List.replicate (n * c) (U8 0)).toArray 5 (0, 0))) (k : Same w1 w2) :
    Pair (fun i => i = w1.heap.size) B n c g pb pc rb rc x w1.heap.size (n * c) (St.new n c) (St.new n c) w2 := by
  have hle : n * c ≤ 4096 * 4096 := Nat.mul_le_mul d.hn d.hc
  refine ⟨(d.more (A' := fun i => i = w1.heap.size) (fun i hi => Or.inr (by omega))).same k, ⟨⟨_, [], 0, hb, (fun h => by cases h), by simp, World.ownsRow_nil _ _ _ _, (fun k hk => absurd hk (by simp [St.new])), (fun k hk => by cases hk), (fun u hu => by cases hu)⟩, ?_, d.ok, rfl, Nat.le_trans hB hx, hB, d.n1, d.hn, d.c1, d.hc⟩, fun i a b => ?_, fun i hi => by rw [hi]; exact blk_lt hp⟩
  · show PR w2 w1.heap.size (n * c) (n * c) (List.replicate c (List.replicate n 0)).flatten
    rw [flat_zero]
    exact PR.zero (by omega) hp
  · rw [rowOf_rc hb] at b
    cases b
/-- The Disk, its Fork, and the document's. -/
structure Trip (A : Nat → Prop) (B n c g pb pc rb rc g' pb' pc' rb' rc' x xb xc : Nat) (s1 s1' s2 : St) (w : World) : Prop where
  p : Pair A B n c g pb pc rb rc x xb xc s1 s2 w
  q : Pair A B n c g' pb' pc' rb' rc' x xb xc s1' s2 w
  ap : Ap g pb rb g' pb' rb' w
theorem Trip.same {A : Nat → Prop} {B n c g pb pc rb rc g' pb' pc' rb' rc' x xb xc : Nat} {s1 s1' s2 : St} {w w' : World} (h : Trip A B n c g pb pc rb rc g' pb' pc' rb' rc' x xb xc s1 s1' s2 w) (k : Same w w') : Trip A B n c g pb pc rb rc g' pb' pc' rb' rc' x xb xc s1 s1' s2 w' :=
  ⟨h.p.same k, h.q.same k, h.ap.gg, h.ap.pp, h.ap.pr, h.ap.rp, h.ap.rr, fun i a b => h.ap.qq i (by rw [← rowOf_same h.p.d.lt.1 k]; exact a) (by rw [← rowOf_same h.q.d.lt.1 k]; exact b)⟩
theorem Trip.left {A : Nat → Prop} {B C n c g pb pc rb rc g' pb' pc' rb' rc' x xb xc : Nat} {s1 s1' s2 t : St} {w w' : World} (h : Trip A B n c g pb pc rb rc g' pb' pc' rb' rc' x xb xc s1 s1' s2 w) (d : ZD A B n c g pb pc rb rc t w') (kt : KT C w w') (f : DF g pb rb w w') : Trip A B n c g pb pc rb rc g' pb' pc' rb' rc' x xb xc t s1' s2 w' := by
  obtain ⟨x1, x2, x3, x4⟩ := h.ap.out h.p.d.yd h.q.d.yd
  obtain ⟨_, ap⟩ := h.q.d.yd.other h.p.d.yd h.ap kt f
  have p' := h.p.left d f
  have e1 : rowOf w' g' 3 = rowOf w g' 3 := by unfold rowOf; rw [World.cell?_of_block (f.kept.block g' h.q.d.lt.1 x1)]
  have e2 : rowOf w' x 3 = rowOf w x 3 := h.p.rowX f
  exact ⟨p', ⟨h.q.d.kept f.kept x1 x2 x3 x4 (fun i cs hi hs => absurd hs (h.p.outD.2.2.2 i cs hi)), p'.r, fun i a b => h.q.qq i (by rw [← e1]; exact a) (by rw [← e2]; exact b), p'.hA⟩, ap⟩
theorem Pair.fork {A : Nat → Prop} {B n c g pb pc rb rc g' pb' pc' rb' rc' x xb xc : Nat} {s1 s2 : St} {w w' : World} (h : Pair A B n c g pb pc rb rc x xb xc s1 s2 w) (hB : B ≤ w.heap.size) (d : ZD A w.heap.size n c g' pb' pc' rb' rc' s1 w') (k : Same w w') : Trip A B n c g pb pc rb rc g' pb' pc' rb' rc' x xb xc s1 s1 s2 w' := by
  obtain ⟨l1, l2, l3, l4⟩ := h.d.lt
  have lx := h.r.lt
  have a1 := d.lg
  have a2 := d.lp
  have a3 := d.lr
  have p' := h.same k
  refine ⟨p', ⟨d.weak hB, p'.r, fun i a b => ?_, p'.hA⟩, by omega, by omega, by omega, by omega, by omega, fun i a b => ?_⟩
  · rw [rowOf_same lx.1 k] at b
    have := d.row i a
    have := lx.2.2 i b
    omega
  · rw [rowOf_same l1 k] at a
    have := d.row i b
    have := l4 i a
    omega
end Go.Proofs.Ytfliagokdhopoaa
