/- The law's step, walked: Flush, Off, Stop, Crash, Image. -/
import Derived.Test.YteoajgphahobiaaR10
import Derived.Test.YteoajgphahobiaaR11
import Derived.Test.YteoajgphahobiaaY7
namespace Go.Proofs.Yteoajgphahobiaa
open Go.RowKit
set_option linter.unusedVariables false
/-- Blocks below B are as they were. -/
abbrev KB (B : Nat) (w w' : World) : Prop := Kept (fun k => B ≤ k) w w'
theorem KB.ofSame {B : Nat} {w w' : World} (k : Same w w') : KB B w w' := k.mono (fun _ _ h => h.elim)
theorem Pair.kbD {A : Nat → Prop} {B n c g pb pc rb rc x xb xc : Nat} {s1 s2 : St} {w w' : World} (h : Pair A B n c g pb pc rb rc x xb xc s1 s2 w) (f : DF g pb rb w w') : KB B w w' := f.kept.mono fun k _ hs => by
  obtain ⟨qv, qs, ps, rs, h1, h5, h6, h7, h8, h9, h10, h11, _⟩ := h.d.ex
  rcases hs with e | e | e | e
  · rw [e]; exact h.d.lg
  · rw [e]; exact h.d.lp
  · rw [e]; exact h.d.lr
  · rw [rowOf_dp h1] at e; exact h11 k e
theorem Pair.kbR {A : Nat → Prop} {B n c g pb pc rb rc x xb xc : Nat} {s1 s2 : St} {w w' : World} (h : Pair A B n c g pb pc rb rc x xb xc s1 s2 w) (f : RF x xb w w') : KB B w w' := f.kept.mono fun k _ hs => by
  obtain ⟨rv, rq, more, i1, i2, i3, i4, i5, i6, i7⟩ := h.r.ex
  rcases hs with e | e | e
  · rw [e]; exact h.r.lg
  · rw [e]; exact h.r.lp
  · rw [rowOf_rc i1] at e; exact i6 k e
/-- What a step may write: the blocks of both Disks, and new ones. -/
structure KF (B g pb rb x xb : Nat) (w w' : World) : Prop where
  kb : KB B w w'
  kept : Kept (fun k => dS g pb rb w k ∨ rS x xb w k) w w'
  rowd : ∀ k, k < w.heap.size → rowOf w' g 3 = some k → rowOf w g 3 = some k
  rowx : ∀ k, k < w.heap.size → rowOf w' x 3 = some k → rowOf w x 3 = some k
theorem KF.trans {B g pb rb x xb : Nat} {a b c : World} (h : KF B g pb rb x xb a b) (k : KF B g pb rb x xb b c) : KF B g pb rb x xb a c := by
  refine ⟨h.kb.trans k.kb, h.kept.trans' k.kept (fun i hi hs => ?_), fun i hi e => h.rowd i hi (k.rowd i (Nat.lt_of_lt_of_le hi h.kb.size) e), fun i hi e => h.rowx i hi (k.rowx i (Nat.lt_of_lt_of_le hi h.kb.size) e)⟩
  rcases hs with (e | e | e | e) | (e | e | e)
  · exact Or.inl (Or.inl e)
  · exact Or.inl (Or.inr (Or.inl e))
  · exact Or.inl (Or.inr (Or.inr (Or.inl e)))
  · exact Or.inl (Or.inr (Or.inr (Or.inr (h.rowd i hi e))))
  · exact Or.inr (Or.inl e)
  · exact Or.inr (Or.inr (Or.inl e))
  · exact Or.inr (Or.inr (Or.inr (h.rowx i hi e)))
theorem Pair.kfS {A : Nat → Prop} {B n c g pb pc rb rc x xb xc : Nat} {s1 s2 : St} {w w' : World} (h : Pair A B n c g pb pc rb rc x xb xc s1 s2 w) (k : Same w w') : KF B g pb rb x xb w w' :=
  ⟨KB.ofSame k, k.mono (fun _ _ h => h.elim), fun i _ e => by rw [← rowOf_same h.d.lt.1 k]; exact e, fun i _ e => by rw [← rowOf_same h.r.lt.1 k]; exact e⟩
theorem Pair.kfD {A : Nat → Prop} {B n c g pb pc rb rc x xb xc : Nat} {s1 s2 : St} {w w' : World} (h : Pair A B n c g pb pc rb rc x xb xc s1 s2 w) (f : DF g pb rb w w') : KF B g pb rb x xb w w' :=
  ⟨h.kbD f, f.kept.mono (fun _ _ h => Or.inl h), f.row, fun i _ e => by
    have e2 : rowOf w' x 3 = rowOf w x 3 := by unfold rowOf; rw [World.cell?_of_block (f.kept.block x h.r.lt.1 h.outD.1)]
    rw [← e2]; exact e⟩
theorem Pair.kfR {A : Nat → Prop} {B n c g pb pc rb rc x xb xc : Nat} {s1 s2 : St} {w w' : World} (h : Pair A B n c g pb pc rb rc x xb xc s1 s2 w) (f : RF x xb w w') : KF B g pb rb x xb w w' :=
  ⟨h.kbR f, f.kept.mono (fun _ _ h => Or.inr h), fun i _ e => by
    have e2 : rowOf w' g 3 = rowOf w g 3 := by unfold rowOf; rw [World.cell?_of_block (f.kept.block g h.d.lt.1 h.outR.1)]
    rw [← e2]; exact e, f.row⟩
theorem Pair.kfB {A : Nat → Prop} {B n c g pb pc rb rc x xb xc q : Nat} {s1 s2 : St} {w w1 w' : World} (h : Pair A B n c g pb pc rb rc x xb xc s1 s2 w) (k1 : KF B g pb rb x xb w w1) (k : Kept (fun i => i = q) w1 w') (hq : w.heap.size ≤ q) (hB : B ≤ q) : KF B g pb rb x xb w w' := by
  have l1 := h.d.lt.1
  have l2 := h.r.lt.1
  have e1 : rowOf w' g 3 = rowOf w1 g 3 := by unfold rowOf; rw [World.cell?_of_block (k.block g (Nat.lt_of_lt_of_le l1 k1.kb.size) (by omega))]
  have e2 : rowOf w' x 3 = rowOf w1 x 3 := by unfold rowOf; rw [World.cell?_of_block (k.block x (Nat.lt_of_lt_of_le l2 k1.kb.size) (by omega))]
  exact ⟨k1.kb.trans (k.mono (fun i _ e => by rw [e]; exact hB)), k1.kept.trans' k (fun i hi e => by omega), fun i hi e => k1.rowd i hi (by rw [← e1]; exact e), fun i hi e => k1.rowx i hi (by rw [← e2]; exact e)⟩
theorem Pair.boxD {A : Nat → Prop} {B n c g pb pc rb rc x xb xc : Nat} {s1 s2 : St} {w w2 : World} {cs : Array Value} {t : TypeId} (h : Pair A B n c g pb pc rb rc x xb xc s1 s2 w) (f : DF g pb rb (w.alloc (.cells cs t)) w2) : w2.heap[w.heap.size]? = some (.cells cs t (0, 0)) := by
  obtain ⟨l1, l2, l3, l4⟩ := h.d.lt
  refine blk_kept f.kept (fun hs => ?_) (heap_alloc_new w _)
  rcases hs with e | e | e | e
  · omega
  · omega
  · omega
  · rw [rowOf_same l1 (same_alloc w _)] at e
    have := l4 _ e
    omega
set_option maxHeartbeats 4000000 in
set_option maxRecDepth 100000 in
theorem step_3 {A : Nat → Prop} {B n c g pb pc rb rc x xb xc M : Nat} {s : St} {w : World} (h : Pair A B n c g pb pc rb rc x xb xc s s w) (hM : SB M s) (hm : M ≤ 4398046511102) (hB : B ≤ w.heap.size) (p : Op5) (hp : p.ok w) (hk : p.kind = 3) :
    Calls Try.prog 26 #[.pointer (some ⟨g, 0, none⟩), .pointer (some ⟨x, 0, none⟩), .agg #[.int .i64 p.kind, .int .i64 p.N, .int .u8 p.byte, .int .i64 p.more, p.kv]] w fun e w' => e = .returned (.bool true) ∧ Pair A B n c g pb pc rb rc x xb xc s.flush s.flush w' ∧ KF B g pb rb x xb w w' := by
  rw [hk]
  obtain ⟨kd, N, yb, mo, kv, ks⟩ := p
  have HOK := hidden hp
  obtain ⟨ka, kc, hkv⟩ := hp.ints.form
  simp only at hkv
  subst hkv
  have hPs : ∀ w', Same w w' → Pair A B n c g pb pc rb rc x xb xc s s w' := fun w' k => h.same k
  have HP := hidden h
  have HPS := hidden hPs
  have HM := hidden hM
  clear hp hk h hPs hM
  go_enter Try.func26, Try.ntmps26
  go_wp2_with (first
    | (go_at_call 25; refine (zd_flush (HPS.out _ (same_alloc w _)).d HM.out (by omega)).mono ?_; rintro e w2 ⟨rfl, d2, k2, f2⟩; have P2 := hidden ((HPS.out _ (same_alloc w _)).left d2 f2); have K2 := hidden ((HP.out.kfS (same_alloc w _)).trans ((HPS.out _ (same_alloc w _)).kfD f2)); clear d2 k2 f2)
    | (go_at_call 47; refine (rd_flush P2.out.r HM.out (by omega)).mono ?_; rintro e w3 ⟨rfl, r3, f3⟩; have P3 := hidden (P2.out.right r3 f3); have K3 := hidden (K2.out.trans (P2.out.kfR f3)); clear r3 f3))
  go_returns
  exact ⟨by first | rfl | simp, P3.out, K3.out⟩
set_option maxHeartbeats 4000000 in
set_option maxRecDepth 100000 in
theorem step_10 {A : Nat → Prop} {B n c g pb pc rb rc x xb xc M : Nat} {s : St} {w : World} (h : Pair A B n c g pb pc rb rc x xb xc s s w) (hM : SB M s) (hm : M ≤ 4398046511102) (hB : B ≤ w.heap.size) (p : Op5) (hp : p.ok w) (hk : p.kind = 10) :
    Calls Try.prog 26 #[.pointer (some ⟨g, 0, none⟩), .pointer (some ⟨x, 0, none⟩), .agg #[.int .i64 p.kind, .int .i64 p.N, .int .u8 p.byte, .int .i64 p.more, p.kv]] w fun e w' => e = .returned (.bool true) ∧ Pair A B n c g pb pc rb rc x xb xc s s w' ∧ KF B g pb rb x xb w w' := by
  rw [hk]
  obtain ⟨kd, N, yb, mo, kv, ks⟩ := p
  have HOK := hidden hp
  obtain ⟨ka, kc, hkv⟩ := hp.ints.form
  simp only at hkv
  subst hkv
  have hPs : ∀ w', Same w w' → Pair A B n c g pb pc rb rc x xb xc s s w' := fun w' k => h.same k
  have HP := hidden h
  have HPS := hidden hPs
  have HM := hidden hM
  clear hp hk h hPs hM
  go_enter Try.func26, Try.ntmps26
  go_wp2_with (first
    | (go_at_call 30; refine (zd_off (HPS.out _ (same_alloc w _)).d).mono ?_; rintro e w2 ⟨rfl, rfl⟩)
    | (go_at_call 51; refine (rd_off (HPS.out _ (same_alloc w _)).r).mono ?_; rintro e w3 ⟨rfl, rfl⟩))
  go_returns
  exact ⟨by first | rfl | simp, HPS.out _ (same_alloc w _), (HPS.out _ (Kept.refl _ _)).kfS (same_alloc w _)⟩
set_option maxHeartbeats 4000000 in
set_option maxRecDepth 100000 in
theorem step_9 {A : Nat → Prop} {B n c g pb pc rb rc x xb xc M : Nat} {s : St} {w : World} (h : Pair A B n c g pb pc rb rc x xb xc s s w) (hM : SB M s) (hm : M ≤ 4398046511102) (hB : B ≤ w.heap.size) (p : Op5) (hp : p.ok w) (hk : p.kind = 9) :
    Calls Try.prog 26 #[.pointer (some ⟨g, 0, none⟩), .pointer (some ⟨x, 0, none⟩), .agg #[.int .i64 p.kind, .int .i64 p.N, .int .u8 p.byte, .int .i64 p.more, p.kv]] w fun e w' => e = .returned (.bool true) ∧ Pair A B n c g pb pc rb rc x xb xc (s.stop p.N) (s.stop p.N) w' ∧ KF B g pb rb x xb w w' := by
  rw [hk]
  obtain ⟨kd, N, yb, mo, kv, ks⟩ := p
  have HOK := hidden hp
  obtain ⟨ka, kc, hkv⟩ := hp.ints.form
  simp only at hkv
  subst hkv
  have hPs : ∀ w', Same w w' → Pair A B n c g pb pc rb rc x xb xc s s w' := fun w' k => h.same k
  have HP := hidden h
  have HPS := hidden hPs
  have HM := hidden hM
  clear hp hk h hPs hM
  go_enter Try.func26, Try.ntmps26
  go_wp2_with (first
    | (go_at_call 22; refine (zd_stop (HPS.out _ (same_alloc w _)).d N HOK.out.N.2).mono ?_; rintro e w2 ⟨rfl, d2, k2, f2⟩; have P2 := hidden ((HPS.out _ (same_alloc w _)).left d2 f2); have K2 := hidden ((HP.out.kfS (same_alloc w _)).trans ((HPS.out _ (same_alloc w _)).kfD f2)); have c1 : w2.cell? ⟨w.heap.size, 1, none⟩ = some (.int .i64 N) := blk_cell (HP.out.boxD f2); clear d2 k2 f2)
    | (go_at_call 50; refine (rd_stop P2.out.r N HOK.out.N.2).mono ?_; rintro e w3 ⟨rfl, r3, f3⟩; have P3 := hidden (P2.out.right r3 f3); have K3 := hidden (K2.out.trans (P2.out.kfR f3)); clear r3 f3))
  go_returns
  exact ⟨by first | rfl | simp, P3.out, K3.out⟩
theorem Pair.boxD' {A : Nat → Prop} {B n c g pb pc rb rc x xb xc : Nat} {s1 s2 : St} {w w0 w2 : World} {o : Obj} (h : Pair A B n c g pb pc rb rc x xb xc s1 s2 w) (k : Same w w0) (hb : w0.heap[w.heap.size]? = some o) (f : DF g pb rb w0 w2) : w2.heap[w.heap.size]? = some o := by
  obtain ⟨l1, l2, l3, l4⟩ := h.d.lt
  refine blk_kept f.kept (fun hs => ?_) hb
  rcases hs with e | e | e | e
  · omega
  · omega
  · omega
  · rw [rowOf_same l1 k] at e
    have := l4 _ e
    omega
theorem Pair.boxR' {A : Nat → Prop} {B n c g pb pc rb rc x xb xc : Nat} {s1 s2 s1' : St} {w w1 w2 : World} {o : Obj} (h : Pair A B n c g pb pc rb rc x xb xc s1' s2 w1) (hw : Pair A B n c g pb pc rb rc x xb xc s1 s2 w) (e : rowOf w1 x 3 = rowOf w x 3) (hb : w1.heap[w.heap.size]? = some o) (f : RF x xb w1 w2) : w2.heap[w.heap.size]? = some o := by
  obtain ⟨l1, l2, l4⟩ := hw.r.lt
  refine blk_kept f.kept (fun hs => ?_) hb
  rcases hs with e' | e' | e'
  · omega
  · omega
  · rw [e] at e'
    have := l4 _ e'
    omega
theorem Pair.rowX {A : Nat → Prop} {B n c g pb pc rb rc x xb xc : Nat} {s1 s2 : St} {w w2 : World} (h : Pair A B n c g pb pc rb rc x xb xc s1 s2 w) (f : DF g pb rb w w2) : rowOf w2 x 3 = rowOf w x 3 := by
  unfold rowOf
  rw [World.cell?_of_block (f.kept.block x h.r.lt.1 h.outD.1)]
theorem Ints.kb {B : Nat} {w w' : World} {v : Value} {l : List Int} (h : Ints w v l) (k : KB B w w') (hb : ∀ a k c, v = .slice (some a) k c → 0 < k → a.block < B) : Ints w' v l := by
  rcases h with h | ⟨a, cap, e, hc⟩
  · exact Or.inl h
  · exact Or.inr ⟨a, cap, e, fun j hj => Kept.cell k (by rw [add_block]; have := hb a _ _ e (by omega); omega) (hc j hj)⟩
set_option maxHeartbeats 4000000 in
set_option maxRecDepth 100000 in
theorem step_5y {A : Nat → Prop} {B n c g pb pc rb rc x xb xc M : Nat} {s : St} {w : World} (h : Pair A B n c g pb pc rb rc x xb xc s s w) (hM : SB M s) (hm : M ≤ 4398046511102) (hB : B ≤ w.heap.size) (p : Op5) (hp : p.ok w) (hk : p.kind = 5) (hkB : ∀ a k c, p.kv = .slice (some a) k c → 0 < k → a.block < B) (hy : mayB s.pend.length 0 p.ks = true) :
    Calls Try.prog 26 #[.pointer (some ⟨g, 0, none⟩), .pointer (some ⟨x, 0, none⟩), .agg #[.int .i64 p.kind, .int .i64 p.N, .int .u8 p.byte, .int .i64 p.more, p.kv]] w fun e w' => e = .returned (.bool true) ∧ Pair A B n c g pb pc rb rc x xb xc (s.crash p.ks) (s.crash p.ks) w' ∧ KF B g pb rb x xb w w' := by
  rw [hk]
  obtain ⟨kd, N, yb, mo, kv, ks⟩ := p
  have HOK := hidden hp
  obtain ⟨ka, kc, hkv⟩ := hp.ints.form
  simp only at hkv
  subst hkv
  have hPs : ∀ w', Same w w' → Pair A B n c g pb pc rb rc x xb xc s s w' := fun w' k => h.same k
  have HP := hidden h
  have HPS := hidden hPs
  have HM := hidden hM
  clear hp hk h hPs hM
  have HKB := hidden hkB
  have HY := hidden hy
  have hle := HOK.out.len
  have hlp := HP.out.d.lp
  have hxp := HP.out.r.lp
  have hxg := HP.out.r.lg
  have HBX : Hid (∀ cs t, ((w.alloc (.cells cs t)).drew).heap[w.heap.size]? = some (.cells cs t (0, 0))) := fun cs t => heap_alloc_new w _
  clear hkB hy
  go_enter Try.func26, Try.ntmps26
  go_wp2
  go_region_held3 (fun w' => w'.cell? ⟨w.heap.size, 4, none⟩ = some (.slice ka ks.length kc))
    (first | go_keep | (go_split_ands; assumption) | assumption)
    ((first
      | (go_at_call 28; refine (zd_crashYes (HPS.out _ (same_alloc w _).drew).d HM.out (by omega) _ ks (HOK.out.ints.same' (same_alloc w _).drew) (fun a k c e h he => by have := HKB.out a k c e h; omega) (by omega) HY.out).mono ?_; rintro e w2 ⟨rfl, d2, k2, f2⟩; have P2 := hidden ((HPS.out _ (same_alloc w _).drew).left d2 f2); have K2 := hidden ((HP.out.kfS (same_alloc w _).drew).trans ((HPS.out _ (same_alloc w _).drew).kfD f2)); have b2 := HP.out.boxD' (same_alloc w _).drew (HBX.out _ _) f2; have B2 := hidden b2; have EX := hidden (((HPS.out _ (same_alloc w _).drew).rowX f2).trans (rowOf_same HP.out.r.lt.1 (same_alloc w _).drew)); have c4 : w2.cell? ⟨w.heap.size, 4, none⟩ = some (.slice ka ks.length kc) := blk_cell b2; clear d2 k2 f2 b2)
      | (go_at_call 49; refine (rd_crashYes P2.out.r HM.out (by omega) _ ks (HOK.out.ints.kb K2.out.kb HKB.out) (fun a k c e h => by have := HKB.out a k c e h; exact ⟨by omega, by omega⟩) (by omega) HY.out).mono ?_; rintro e w3 ⟨rfl, r3, f3⟩; have P3 := hidden (P2.out.right r3 f3); have K3 := hidden (K2.out.trans (P2.out.kfR f3)); have b3 := P2.out.boxR' HP.out EX.out B2.out f3; have c4' : w3.cell? ⟨w.heap.size, 4, none⟩ = some (.slice ka ks.length kc) := blk_cell b3; clear r3 f3 b3)))
  all_goals
    go_wp2
    go_returns
    exact ⟨by first | rfl | simp, P3.out, K3.out⟩
set_option maxHeartbeats 4000000 in
set_option maxRecDepth 100000 in
theorem step_5n {A : Nat → Prop} {B n c g pb pc rb rc x xb xc M : Nat} {s : St} {w : World} (h : Pair A B n c g pb pc rb rc x xb xc s s w) (hM : SB M s) (hm : M ≤ 4398046511102) (hB : B ≤ w.heap.size) (p : Op5) (hp : p.ok w) (hk : p.kind = 5) (hkB : ∀ a k c, p.kv = .slice (some a) k c → 0 < k → a.block < B) (hy : mayB s.pend.length 0 p.ks = false) :
    Calls Try.prog 26 #[.pointer (some ⟨g, 0, none⟩), .pointer (some ⟨x, 0, none⟩), .agg #[.int .i64 p.kind, .int .i64 p.N, .int .u8 p.byte, .int .i64 p.more, p.kv]] w fun e w' => e = .returned (.bool true) ∧ Pair A B n c g pb pc rb rc x xb xc s s w' ∧ KF B g pb rb x xb w w' := by
  rw [hk]
  obtain ⟨kd, N, yb, mo, kv, ks⟩ := p
  have HOK := hidden hp
  obtain ⟨ka, kc, hkv⟩ := hp.ints.form
  simp only at hkv
  subst hkv
  have hPs : ∀ w', Same w w' → Pair A B n c g pb pc rb rc x xb xc s s w' := fun w' k => h.same k
  have HP := hidden h
  have HPS := hidden hPs
  have HM := hidden hM
  clear hp hk h hPs hM
  have HKB := hidden hkB
  have HY := hidden hy
  have hle := HOK.out.len
  have hlp := HP.out.d.lp
  have hxp := HP.out.r.lp
  have hxg := HP.out.r.lg
  have HBX : Hid (∀ cs t, ((w.alloc (.cells cs t)).drew).heap[w.heap.size]? = some (.cells cs t (0, 0))) := fun cs t => heap_alloc_new w _
  clear hkB hy
  go_enter Try.func26, Try.ntmps26
  go_wp2
  go_region_held3 (fun w' => w'.cell? ⟨w.heap.size, 4, none⟩ = some (.slice ka ks.length kc))
    (first | go_keep | (go_split_ands; assumption) | assumption)
    ((first
      | (go_at_call 28; refine (zd_crashNo (HPS.out _ (same_alloc w _).drew).d HM.out (by omega) _ ks (HOK.out.ints.same' (same_alloc w _).drew) (by omega) HY.out).mono ?_; rintro e w2 ⟨rfl, rfl⟩)
      | (go_at_call 49; refine (rd_crashNo (HPS.out _ (same_alloc w _).drew).r HM.out (by omega) _ ks (HOK.out.ints.same' (same_alloc w _).drew) HOK.out.each (by omega) HY.out).mono ?_; rintro e w3 ⟨rfl, k3⟩; have S3 := hidden (Kept.trans (same_alloc w _).drew k3); have P3 := hidden (HPS.out _ S3.out); have K3 := hidden (HP.out.kfS S3.out); have c4' : w3.cell? ⟨w.heap.size, 4, none⟩ = some (.slice ka ks.length kc) := blk_cell (blk_kept k3 (fun h => h) (HBX.out _ _)); clear k3)))
  all_goals
    go_wp2
    go_returns
    exact ⟨by first | rfl | simp, P3.out, K3.out⟩
theorem PR.byt {w : World} {pb L pc : Nat} {bs : List UInt8} (h : PR w pb L pc bs) : Byt w (.slice (some ⟨pb, 0, none⟩) L pc) bs :=
  Or.inr ⟨⟨pb, 0, none⟩, pc, by rw [h.1], fun j hj => h.2.cells (g := pb) rfl j _ (by rw [List.getElem?_map, List.getElem?_eq_getElem hj]; rfl)⟩
set_option maxHeartbeats 4000000 in
set_option maxRecDepth 100000 in
theorem step_6 {A : Nat → Prop} {B n c g pb pc rb rc x xb xc M : Nat} {s : St} {w : World} (h : Pair A B n c g pb pc rb rc x xb xc s s w) (hM : SB M s) (hm : M ≤ 4398046511102) (hB : B ≤ w.heap.size) (p : Op5) (hp : p.ok w) (hk : p.kind = 6) :
    Calls Try.prog 26 #[.pointer (some ⟨g, 0, none⟩), .pointer (some ⟨x, 0, none⟩), .agg #[.int .i64 p.kind, .int .i64 p.N, .int .u8 p.byte, .int .i64 p.more, p.kv]] w fun e w' => e = .returned (.bool true) ∧ Pair A B n c g pb pc rb rc x xb xc s s w' ∧ KF B g pb rb x xb w w' := by
  rw [hk]
  obtain ⟨kd, N, yb, mo, kv, ks⟩ := p
  have HOK := hidden hp
  obtain ⟨ka, kc, hkv⟩ := hp.ints.form
  simp only at hkv
  subst hkv
  have hPs : ∀ w', Same w w' → Pair A B n c g pb pc rb rc x xb xc s s w' := fun w' k => h.same k
  have HP := hidden h
  have HPS := hidden hPs
  have HM := hidden hM
  clear hp hk h hPs hM
  have hfl : Hid (s.pl.flatten.length = n * c) := by rw [Hid, flat_len HP.out.d.ok.pn, HP.out.d.ok.len, Nat.mul_comm]
  have hle : n * c ≤ 4096 * 4096 := Nat.mul_le_mul HP.out.d.hn HP.out.d.hc
  have hx2 : ∀ w', Same w w' → w'.cell? ⟨x, 2, none⟩ = some (.slice (some ⟨xb, 0, none⟩) (n * c) xc) := fun w' k => by
    obtain ⟨rv, rq, more, i1, _⟩ := (HPS.out w' k).r.ex
    exact blk_cell i1
  have HX2 := hidden hx2
  have hx0 : (w.alloc (.cells #[.int .i64 (6 : Int), .int .i64 N, .int .u8 yb, .int .i64 mo, .slice ka ks.length kc] 44)).cell? ⟨x, 2, none⟩ = some (.slice (some ⟨xb, 0, none⟩) (n * c) xc) := hx2 _ (same_alloc _ _)
  clear hx2
  go_enter Try.func26, Try.ntmps26
  go_wp2
  go_region_held3 (fun w' => w'.cell? ⟨x, 2, none⟩ = some (.slice (some ⟨xb, 0, none⟩) (n * c) xc))
    (first | go_keep | (go_split_ands; assumption) | assumption)
    ((first
      | (go_at_call 15; refine (zd_image (HPS.out _ (same_alloc w _).drew).d).mono ?_; rintro e w2 ⟨u2, rfl, o2, k2⟩; have S2 := hidden (Kept.trans (same_alloc w _).drew k2); have O2 := hidden o2; obtain ⟨ua, uc, hue⟩ := o2.byt.form; rw [hfl.out] at hue; subst hue; have c2 := HX2.out _ S2.out; clear o2 k2)
      | (go_at_call 14; refine (same_eq _ _ s.pl.flatten _ O2.out.byt (HPS.out _ S2.out).r.pr.byt (by rw [hfl.out]; omega)).mono ?_; rintro e w3 ⟨rfl, k3⟩; have S3 := hidden (Kept.trans S2.out k3); have c3 := HX2.out _ S3.out; clear k3)))
  all_goals
    go_wp2
    go_returns
    exact ⟨by first | rfl | simp, HPS.out _ S3.out, (HPS.out _ (Kept.refl _ _)).kfS S3.out⟩
end Go.Proofs.Yteoajgphahobiaa
