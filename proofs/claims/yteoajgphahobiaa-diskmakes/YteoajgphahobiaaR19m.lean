/- The law's step, whatever it is; looks; both made anew; a Fork of the program's Disk. (R18 and R19 in one.) -/
import Derived.Test.YteoajgphahobiaaR17
namespace Go.Proofs.Yteoajgphahobiaa
open Go.RowKit
set_option linter.unusedVariables false
/-- What a step of the law makes of a Disk. -/
def St.step (n c : Nat) (s : St) (p : Op5) : St :=
  if p.kind = 1 then (if 0 ≤ p.N ∧ p.N < c ∧ Int.tmod p.more 8 = 0 then s.write p.N.toNat (flTo n p.byte (min n 40)) else s)
  else if p.kind = 2 then (if 0 ≤ p.N ∧ p.N < c then s.read else s)
  else if p.kind = 3 then s.flush
  else if p.kind = 5 then (if mayB s.pend.length 0 p.ks = true then s.crash p.ks else s)
  else if p.kind = 9 then s.stop p.N
  else s
theorem SB.step {M : Nat} {s : St} (h : SB M s) (n c : Nat) (p : Op5) : SB (M + 1) (s.step n c p) := by
  unfold St.step
  have hu := h.up (Nat.le_succ M)
  split
  · split
    · exact h.write _ _
    · exact hu
  split
  · split
    · exact h.read
    · exact hu
  split
  · exact h.flush
  split
  · split
    · exact (h.crash _).up (Nat.le_succ _)
    · exact hu
  split
  · exact (h.stop _).up (Nat.le_succ _)
  · exact hu
theorem step_any {A : Nat → Prop} {B n c g pb pc rb rc x xb xc M : Nat} {s : St} {w : World} (h : Pair A B n c g pb pc rb rc x xb xc s s w) (hM : SB M s) (hm : M ≤ 4398046511102) (hB : B ≤ w.heap.size) (hn5 : 512 ≤ n) (p : Op5) (hp : p.ok w) (hkB : ∀ a k c, p.kv = .slice (some a) k c → 0 < k → a.block < B) :
    Calls Try.prog 26 #[.pointer (some ⟨g, 0, none⟩), .pointer (some ⟨x, 0, none⟩), .agg #[.int .i64 p.kind, .int .i64 p.N, .int .u8 p.byte, .int .i64 p.more, p.kv]] w fun e w' => e = .returned (.bool true) ∧ Pair A B n c g pb pc rb rc x xb xc (s.step n c p) (s.step n c p) w' ∧ KF B g pb rb x xb w w' := by
  unfold St.step
  by_cases h1 : p.kind = 1
  · rw [if_pos h1]
    by_cases hy : 0 ≤ p.N ∧ p.N < c ∧ Int.tmod p.more 8 = 0
    · rw [if_pos hy]
      exact step_1y h hM hm hB hn5 p hp h1 p.N.toNat (by omega) (by omega) hy.2.2
    · rw [if_neg hy]
      have ht := tm8 p.more
      refine step_1n h hM hm hB hn5 p hp h1 ((n : Int) + Int.tmod p.more 8).toNat (by omega) ?_
      by_cases hN : 0 ≤ p.N ∧ p.N < c
      · exact Or.inr (fun e => hy ⟨hN.1, hN.2, by omega⟩)
      · exact Or.inl hN
  rw [if_neg h1]
  by_cases h2 : p.kind = 2
  · rw [if_pos h2]
    by_cases hN : 0 ≤ p.N ∧ p.N < c
    · rw [if_pos hN]
      exact step_2y h hM hm hB p hp h2 p.N.toNat (by omega) (by omega)
    · rw [if_neg hN]
      exact step_2n h hM hm hB p hp h2 hN
  rw [if_neg h2]
  by_cases h3 : p.kind = 3
  · rw [if_pos h3]
    exact step_3 h hM hm hB p hp h3
  rw [if_neg h3]
  by_cases h5 : p.kind = 5
  · rw [if_pos h5]
    cases hy : mayB s.pend.length 0 p.ks
    · rw [if_neg (by simp)]
      exact step_5n h hM hm hB p hp h5 hkB hy
    · rw [if_pos rfl]
      exact step_5y h hM hm hB p hp h5 hkB hy
  rw [if_neg h5]
  by_cases h9 : p.kind = 9
  · rw [if_pos h9]
    exact step_9 h hM hm hB p hp h9
  rw [if_neg h9]
  by_cases h4 : p.kind = 4
  · exact step_4 h hM hm hB p hp h4
  by_cases h6 : p.kind = 6
  · exact step_6 h hM hm hB p hp h6
  by_cases h10 : p.kind = 10
  · exact step_10 h hM hm hB p hp h10
  exact step_7 (M := M) h p hp h1 h2 h3 h4 h5 h6 h9 h10
theorem ok_plain (k : Int) (hk : I64 k) (w : World) : Op5.ok w ⟨k, 0, 0, 0, .slice none 0 0, []⟩ :=
  ⟨by simp, hk, ⟨by simp, by simp⟩, ⟨by simp, by simp⟩, Or.inl ⟨rfl, rfl⟩, by simp, (fun z hz => by cases hz), (fun a k c e => by simp at e)⟩
/-- A step that only looks. -/
theorem step_looks (k : Int) (hk : I64 k) (h1 : k ≠ 1) (h2 : k ≠ 2) (h3 : k ≠ 3) (h5 : k ≠ 5) (h9 : k ≠ 9) {A : Nat → Prop} {B n c g pb pc rb rc x xb xc M : Nat} {s : St} {w : World} (h : Pair A B n c g pb pc rb rc x xb xc s s w) (hM : SB M s) (hm : M ≤ 4398046511102) (hB : B ≤ w.heap.size) (hn5 : 512 ≤ n) :
    Calls Try.prog 26 #[.pointer (some ⟨g, 0, none⟩), .pointer (some ⟨x, 0, none⟩), .agg #[.int .i64 k, .int .i64 0, .int .u8 0, .int .i64 0, .slice none 0 0]] w fun e w' => e = .returned (.bool true) ∧ Pair A B n c g pb pc rb rc x xb xc s s w' ∧ KF B g pb rb x xb w w' := by
  have := step_any h hM hm hB hn5 ⟨k, 0, 0, 0, .slice none 0 0, []⟩ (ok_plain k hk w) (fun a k c e => by simp at e)
  unfold St.step at this
  simp only [if_neg h1, if_neg h2, if_neg h3, if_neg h5, if_neg h9] at this
  exact this
set_option maxHeartbeats 4000000 in
set_option maxRecDepth 100000 in
theorem looks_any {A : Nat → Prop} {B n c g pb pc rb rc x xb xc M : Nat} {s : St} {w : World} (h : Pair A B n c g pb pc rb rc x xb xc s s w) (hM : SB M s) (hm : M ≤ 4398046511102) (hB : B ≤ w.heap.size) (hn5 : 512 ≤ n) :
    Calls Try.prog 27 #[.pointer (some ⟨g, 0, none⟩), .pointer (some ⟨x, 0, none⟩)] w fun e w' => e = .returned (.bool true) ∧ Pair A B n c g pb pc rb rc x xb xc s s w' ∧ KF B g pb rb x xb w w' := by
  have HP := hidden h
  have HM := hidden hM
  clear h hM
  have c4 := fun w (h : Pair A B n c g pb pc rb rc x xb xc s s w) hB => step_looks 4 ⟨by decide, by decide⟩ (by decide) (by decide) (by decide) (by decide) (by decide) h HM.out hm hB hn5
  have c6 := fun w (h : Pair A B n c g pb pc rb rc x xb xc s s w) hB => step_looks 6 ⟨by decide, by decide⟩ (by decide) (by decide) (by decide) (by decide) (by decide) h HM.out hm hB hn5
  have c7 := fun w (h : Pair A B n c g pb pc rb rc x xb xc s s w) hB => step_looks 7 ⟨by decide, by decide⟩ (by decide) (by decide) (by decide) (by decide) (by decide) h HM.out hm hB hn5
  have c10 := fun w (h : Pair A B n c g pb pc rb rc x xb xc s s w) hB => step_looks 10 ⟨by decide, by decide⟩ (by decide) (by decide) (by decide) (by decide) (by decide) h HM.out hm hB hn5
  have C4 := hidden c4
  have C6 := hidden c6
  have C7 := hidden c7
  have C10 := hidden c10
  have tok : True := trivial
  clear c4 c6 c7 c10
  go_enter Try.func27, Try.ntmps27
  go_wp2_with (first
    | (go_at_call 26; have _t := C4; clear C4; refine (_t.out w HP.out hB).mono ?_; rintro e w1 ⟨rfl, p1, k1⟩; have P1 := hidden p1; have K1 := hidden k1; have hB1 := Nat.le_trans hB k1.kb.size; clear p1 k1)
    | (go_at_call 26; have _t := C6; clear C6; refine (_t.out w1 P1.out hB1).mono ?_; rintro e w2 ⟨rfl, p1, k1⟩; have P2 := hidden p1; have K2 := hidden (K1.out.trans k1); have hB2 := Nat.le_trans hB1 k1.kb.size; clear p1 k1)
    | (go_at_call 26; have _t := C7; clear C7; refine (_t.out w2 P2.out hB2).mono ?_; rintro e w3 ⟨rfl, p1, k1⟩; have P3 := hidden p1; have K3 := hidden (K2.out.trans k1); have hB3 := Nat.le_trans hB2 k1.kb.size; clear p1 k1)
    | (go_at_call 26; have _t := C10; clear C10; refine (_t.out w3 P3.out hB3).mono ?_; rintro e w4 ⟨rfl, p1, k1⟩; have P4 := hidden p1; have K4 := hidden (K3.out.trans k1); clear p1 k1))
  go_returns
  exact ⟨rfl, P4.out, K4.out⟩
def St.new (n c : Nat) : St := ⟨List.replicate c (List.replicate n 0), [], false, 0, 0, 0, 0⟩
theorem SB.new (n c : Nat) : SB 0 (St.new n c) := ⟨Nat.le_refl _, Nat.le_refl _, Nat.le_refl _, Nat.le_refl _⟩
theorem flat_zero (n c : Nat) : (List.replicate c (List.replicate n (0 : UInt8))).flatten = List.replicate (n * c) 0 := by
  rw [List.flatten_replicate_replicate, Nat.mul_comm]
theorem ZD.weak {A : Nat → Prop} {B B' n c g pb pc rb rc : Nat} {s : St} {w : World} (h : ZD A B n c g pb pc rb rc s w) (hB : B' ≤ B) : ZD A B' n c g pb pc rb rc s w := by
  obtain ⟨qv, qs, ps, rs, h1, h5, h6, h7, h8, h9, h10, h11, h12, h13, h14⟩ := h.ex
  exact ⟨⟨qv, qs, ps, rs, h1, h5, h6, h7, h8, h9, h10, (fun k hk => Nat.le_trans hB (h11 k hk)), h12, h13, h14⟩, h.ok, h.ne, Nat.le_trans hB h.lg, Nat.le_trans hB h.lp, Nat.le_trans hB h.lr, h.n1, h.hn, h.c1, h.hc⟩
theorem ZD.row {A : Nat → Prop} {B n c g pb pc rb rc : Nat} {s : St} {w : World} (h : ZD A B n c g pb pc rb rc s w) (k : Nat) (hk : rowOf w g 3 = some k) : B ≤ k := by
  obtain ⟨qv, qs, ps, rs, h1, h5, h6, h7, h8, h9, h10, h11, h12, h13, h14⟩ := h.ex
  rw [rowOf_dp h1] at hk
  exact h11 k hk
theorem ZD.yd {A : Nat → Prop} {B n c g pb pc rb rc : Nat} {s : St} {w : World} (h : ZD A B n c g pb pc rb rc s w) : YD B n c g pb pc rb rc s w := by
  obtain ⟨qv, qs, ps, rs, h1, h5, h6, h7, h8, h9, h10, h11, h12, h13, h14⟩ := h.ex
  exact ⟨⟨qv, qs, ps, rs, h1, h5, h6, h7, h8, h9, h10, h11, h12, h13⟩, h.ok, h.ne, h.lg, h.lp, h.lr, h.n1, h.hn, h.c1, h.hc⟩
theorem PR.zero {w : World} {xb L : Nat} (hL : L ≤ 16777216) (hb : w.heap[xb]? = some (.cells (List.replicate L (U8 0)).toArray 5 (0, 0))) : PR w xb L L (List.replicate L 0) :=
  ⟨by simp, ⟨by simp, Or.inr ⟨xb, L, _, rfl, Nat.zero_le _, hb, Nat.le_refl _, by unfold maxLen; omega, by simp, by simp [List.map_replicate]⟩⟩⟩
theorem pair_new {B n c g pb pc rb rc x : Nat} {w1 w2 : World} (d : ZD (fun _ => False) B n c g pb pc rb rc (St.new n c) w1) (hB : B ≤ w1.heap.size) (hx : w1.heap.size ≤ x) (hb : w2.heap[x]? = some (.cells (RC n c w1.heap.size (n * c) (n * c) (.slice none 0 0) 0 0 0 false 0) 35 (0, 0))) (hp : w2.heap[w1.heap.size]? = some (.cells (List.replicate (n * c) (U8 0)).toArray 5 (0, 0))) (k : Same w1 w2) :
    Pair (fun i => i = w1.heap.size) B n c g pb pc rb rc x w1.heap.size (n * c) (St.new n c) (St.new n c) w2 := by
  have hle : n * c ≤ 4096 * 4096 := Nat.mul_le_mul d.hn d.hc
  refine ⟨(d.more (A' := fun i => i = w1.heap.size) (fun i hi => Or.inr (by omega))).same k, ⟨⟨_, [], 0, hb, (fun h => by cases h), by simp, World.ownsRow_nil _ _ _ _, (fun k hk => absurd hk (by simp [St.new])), (fun k hk => by cases hk), (fun u hu => by cases hu)⟩, ?_, d.ok, rfl, Nat.le_trans hB hx, hB, d.n1, d.hn, d.c1, d.hc⟩, fun i a b => ?_, fun i hi => by rw [hi]; exact blk_lt hp⟩
  · show PR w2 w1.heap.size (n * c) (n * c) (List.replicate c (List.replicate n 0)).flatten
    rw [flat_zero]
    exact PR.zero (by omega) hp
  · rw [rowOf_rc hb] at b
    cases b
/-- The Disk, its Fork, and the document's. -/
structure Trip (A : Nat → Prop) (B n c g pb pc rb rc g' pb' pc' rb' rc' x xb xc : Nat) (s1 s1' s2 : St) (w : World) : Prop where
  p : Pair A B n c g pb pc rb rc x xb xc s1 s2 w
  q : Pair A B n c g' pb' pc' rb' rc' x xb xc s1' s2 w
  ap : Ap g pb rb g' pb' rb' w
theorem Trip.same {A : Nat → Prop} {B n c g pb pc rb rc g' pb' pc' rb' rc' x xb xc : Nat} {s1 s1' s2 : St} {w w' : World} (h : Trip A B n c g pb pc rb rc g' pb' pc' rb' rc' x xb xc s1 s1' s2 w) (k : Same w w') : Trip A B n c g pb pc rb rc g' pb' pc' rb' rc' x xb xc s1 s1' s2 w' :=
  ⟨h.p.same k, h.q.same k, h.ap.gg, h.ap.pp, h.ap.pr, h.ap.rp, h.ap.rr, fun i a b => h.ap.qq i (by rw [← rowOf_same h.p.d.lt.1 k]; exact a) (by rw [← rowOf_same h.q.d.lt.1 k]; exact b)⟩
theorem Trip.left {A : Nat → Prop} {B C n c g pb pc rb rc g' pb' pc' rb' rc' x xb xc : Nat} {s1 s1' s2 t : St} {w w' : World} (h : Trip A B n c g pb pc rb rc g' pb' pc' rb' rc' x xb xc s1 s1' s2 w) (d : ZD A B n c g pb pc rb rc t w') (kt : KT C w w') (f : DF g pb rb w w') : Trip A B n c g pb pc rb rc g' pb' pc' rb' rc' x xb xc t s1' s2 w' := by
  obtain ⟨x1, x2, x3, x4⟩ := h.ap.out h.p.d.yd h.q.d.yd
  obtain ⟨_, ap⟩ := h.q.d.yd.other h.p.d.yd h.ap kt f
  have p' := h.p.left d f
  have e1 : rowOf w' g' 3 = rowOf w g' 3 := by unfold rowOf; rw [World.cell?_of_block (f.kept.block g' h.q.d.lt.1 x1)]
  have e2 : rowOf w' x 3 = rowOf w x 3 := h.p.rowX f
  exact ⟨p', ⟨h.q.d.kept f.kept x1 x2 x3 x4 (fun i cs hi hs => absurd hs (h.p.outD.2.2.2 i cs hi)), p'.r, fun i a b => h.q.qq i (by rw [← e1]; exact a) (by rw [← e2]; exact b), p'.hA⟩, ap⟩
theorem Pair.fork {A : Nat → Prop} {B n c g pb pc rb rc g' pb' pc' rb' rc' x xb xc : Nat} {s1 s2 : St} {w w' : World} (h : Pair A B n c g pb pc rb rc x xb xc s1 s2 w) (hB : B ≤ w.heap.size) (d : ZD A w.heap.size n c g' pb' pc' rb' rc' s1 w') (k : Same w w') : Trip A B n c g pb pc rb rc g' pb' pc' rb' rc' x xb xc s1 s1 s2 w' := by
  obtain ⟨l1, l2, l3, l4⟩ := h.d.lt
  have lx := h.r.lt
  have a1 := d.lg
  have a2 := d.lp
  have a3 := d.lr
  have p' := h.same k
  refine ⟨p', ⟨d.weak hB, p'.r, fun i a b => ?_, p'.hA⟩, by omega, by omega, by omega, by omega, by omega, fun i a b => ?_⟩
  · rw [rowOf_same lx.1 k] at b
    have := d.row i a
    have := lx.2.2 i b
    omega
  · rw [rowOf_same l1 k] at a
    have := d.row i b
    have := l4 i a
    omega
end Go.Proofs.Yteoajgphahobiaa
