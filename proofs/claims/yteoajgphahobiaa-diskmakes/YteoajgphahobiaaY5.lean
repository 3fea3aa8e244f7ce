/- disk's Fork. -/
import Derived.Test.YteoajgphahobiaaY1
namespace Go.Proofs.Yteoajgphahobiaa
open Go.RowKit
set_option linter.unusedVariables false
set_option maxHeartbeats 1000000 in
set_option maxRecDepth 100000 in
theorem y_cloneR (g c cap0 : Nat) (xs : List Value) (w : World) (hc : c ≤ 4096) (h1 : 1 ≤ c) (hb : w.ownsRow 0 22 1 (.slice (some ⟨g, 0, none⟩) c cap0) c xs) (ho : ∀ u ∈ xs, u.oneCell' = true) :
    Calls Try.prog 41 #[.slice (some ⟨g, 0, none⟩) c cap0] w fun e w' => ∃ r cap, e = .returned (.slice (some ⟨r, 0, none⟩) c cap) ∧ w.heap.size ≤ r ∧ w'.ownsRow 0 22 1 (.slice (some ⟨r, 0, none⟩) c cap) c xs ∧ Same w w' := by
  obtain ⟨i0, hi, hz0, hz1, hz2⟩ := info_parts infoB
  have hxl : xs.length = c := by simpa using hb.1
  have hn : ∀ o, ∀ j u, xs[j]? = some u → (w.alloc o).cell? ((⟨g, 0, none⟩ : Addr).add j) = some u := fun o j u hu => by
    have := (own_cell (hb.alloc o) u hu).1
    rw [add_none, Nat.zero_add]
    exact this
  have HN := hidden hn
  have HO := hidden ho
  have m1 : Hid (0 + c ≤ maxLen) := by rw [Hid]; unfold maxLen; omega
  have m2 : Hid ((0 + c) * 24 ≤ 140737488355328) := by rw [Hid]; omega
  have hnil : ∀ W : World, (binOp .eql 52 (.slice (some ⟨g, 0, none⟩) c cap0) (.slice none 0 0)).run Try.prog W = .ok (.bool false) W := fun W => by
    first | rfl | simp [binOp, go_sem]
  clear hn ho hb
  go_enter Try.func41, Try.ntmps41
  go_wp2_with (at_builtin; go_must (refine wpList_append_lies _ (by rfl) _ _ 52 (by rfl) w.heap.size 22 i0 _ 1 24 Try.underlying52 hi hz0 hz1 hz2 rfl (by decide) _ _ _ (by rfl) (World.ownsRow_made w #[] 0 (Nat.le_refl _) (by decide) (by decide)) ⟨g, 0, none⟩ c cap0 xs (by rfl) (by omega) (HN.out _) HO.out (by omega) m1.out m2.out (by simp) (w.heap.size + 1) (by simp) ?_); intro g' cap' w1 hown' hgrow hat hlt')
  go_returns
  rw [Nat.zero_add, List.nil_append] at hown'
  have hg' : w.heap.size ≤ g' := by
    rcases hat with h | h
    · simp [Value.ownBlock] at h; omega
    · omega
  refine ⟨g', cap', rfl, hg', own_base hown', ?_⟩
  exact ((Kept.refl (fun _ => False) w).alloc _).grown hgrow (fun k hk hl => by simp [Value.ownBlock] at hk; omega)
set_option maxHeartbeats 1000000 in
set_option maxRecDepth 100000 in
theorem y_cloneS (m : Nat) (qv : Value) (qs : List Value) (w : World) (hm : m ≤ 4398046511104) (hb : w.ownsRow 0 58 2 qv m qs) (ho : ∀ u ∈ qs, u.oneCell' = true) (h0 : m = 0 → qv = .slice none 0 0) :
    Calls Try.prog 42 #[qv] w fun e w' => ∃ v, e = .returned v ∧ (∀ k, v.ownBlock = some k → w.heap.size ≤ k) ∧ w'.ownsRow 0 58 2 v m qs ∧ (m = 0 → v = .slice none 0 0) ∧ Same w w' := by
  by_cases hm0 : m = 0
  · have hq := h0 hm0
    subst hm0
    have HB := hidden hb
    subst hq
    have hnil : ∀ W : World, (binOp .eql 33 (.slice none 0 0) (.slice none 0 0)).run Try.prog W = .ok (.bool true) W := fun W => by
      first | rfl | simp [binOp, go_sem]
    clear hb ho
    go_enter Try.func42, Try.ntmps42
    go_wp2
    go_returns
    exact ⟨.slice none 0 0, rfl, (fun k hk => by cases hk), HB.out, by first | exact (fun _ => rfl) | rfl, Kept.refl _ _⟩
  · obtain ⟨g, cap0, rfl⟩ : ∃ g cap0, qv = .slice (some ⟨g, 0, none⟩) m cap0 := by
      rcases hb.2 with ⟨_, h⟩ | ⟨g, cap, cur, h, _⟩
      · exact absurd h hm0
      · exact ⟨g, cap, h⟩
    obtain ⟨i0, hi, hz0, hz1, hz2⟩ := info_parts infoSec
    have hxl : qs.length = m * 2 := hb.1
    have hn : ∀ o, ∀ j u, qs[j]? = some u → (w.alloc o).cell? ((⟨g, 0, none⟩ : Addr).add j) = some u := fun o j u hu => (hb.alloc o).cells (g := g) rfl j u hu
    have HN := hidden hn
    have HO := hidden ho
    have m1 : Hid (0 + m ≤ maxLen) := by rw [Hid]; unfold maxLen; omega
    have m2 : Hid ((0 + m) * 32 ≤ 140737488355328) := by rw [Hid]; omega
    have hnil : ∀ W : World, (binOp .eql 33 (.slice (some ⟨g, 0, none⟩) m cap0) (.slice none 0 0)).run Try.prog W = .ok (.bool false) W := fun W => by
      first | rfl | simp [binOp, go_sem]
    clear hn ho hb h0
    go_enter Try.func42, Try.ntmps42
    go_wp2_with (at_builtin; go_must (refine wpList_append_lies _ (by rfl) _ _ 33 (by rfl) w.heap.size 58 i0 _ 2 32 Try.underlying33 hi hz0 hz1 hz2 rfl (by decide) _ _ _ (by rfl) (World.ownsRow_made w #[] 0 (Nat.le_refl _) (by decide) (by decide)) ⟨g, 0, none⟩ m cap0 qs (by rfl) (by omega) (HN.out _) HO.out (by omega) m1.out m2.out (by simp) (w.heap.size + 1) (by simp) ?_); intro g' cap' w1 hown' hgrow hat hlt')
    go_returns
    rw [Nat.zero_add, List.nil_append] at hown'
    have hg' : w.heap.size ≤ g' := by
      rcases hat with h | h
      · simp [Value.ownBlock] at h; omega
      · omega
    refine ⟨_, rfl, (fun k hk => by simp [Value.ownBlock] at hk; omega), own_base hown', (fun h => absurd h hm0), ?_⟩
    exact ((Kept.refl (fun _ => False) w).alloc _).grown hgrow (fun k hk hl => by simp [Value.ownBlock] at hk; omega)
/-- What Fork leaves. -/
structure Forked (n c m : Nat) (lim : Bool) (lf : Int) (r wn f g' : Nat) (ps rs qs : List Value) (w w' : World) : Prop where
  ex : ∃ pb pc rb rc qv, w'.heap[g']? = some (.cells (DP n pb c pc rb rc qv lim lf r wn f) 74 (0, 0)) ∧ w'.ownsRow 0 22 1 (.slice (some ⟨pb, 0, none⟩) c pc) c ps ∧ w'.ownsRow 0 22 1 (.slice (some ⟨rb, 0, none⟩) c rc) c rs ∧
    w'.ownsRow 0 58 2 qv m qs ∧ (m = 0 → qv = .slice none 0 0) ∧ pb ≠ rb ∧ w.heap.size ≤ g' ∧ w.heap.size ≤ pb ∧ w.heap.size ≤ rb ∧ (∀ k, qv.ownBlock = some k → w.heap.size ≤ k) ∧ Same w w'
set_option maxHeartbeats 1000000 in
set_option maxRecDepth 100000 in
theorem y_fork (n pb c pc rb rc g m : Nat) (qv : Value) (lim : Bool) (lf : Int) (r wn f : Nat) (ps rs qs : List Value) (w : World) (hc : c ≤ 4096) (hc1 : 1 ≤ c) (hm : m ≤ 4398046511104)
    (hb : w.heap[g]? = some (.cells (DP n pb c pc rb rc qv lim lf r wn f) 74 (0, 0))) (hp : w.ownsRow 0 22 1 (.slice (some ⟨pb, 0, none⟩) c pc) c ps) (hr : w.ownsRow 0 22 1 (.slice (some ⟨rb, 0, none⟩) c rc) c rs)
    (hq : w.ownsRow 0 58 2 qv m qs) (h0 : m = 0 → qv = .slice none 0 0) (hp1 : ∀ u ∈ ps, u.oneCell' = true) (hr1 : ∀ u ∈ rs, u.oneCell' = true) (hq1 : ∀ u ∈ qs, u.oneCell' = true) :
    Calls Try.prog 21 #[.pointer (some ⟨g, 0, none⟩)] w fun e w' => ∃ g', e = .returned (.pointer (some ⟨g', 0, none⟩)) ∧ Forked n c m lim lf r wn f g' ps rs qs w w' := by
  have A := hidden (fun W hW => y_cloneR pb c pc ps W hc hc1 hW hp1)
  have A2 := hidden (fun W hW => y_cloneR rb c rc rs W hc hc1 hW hr1)
  have C := hidden (fun W hW => y_cloneS m qv qs W hm hW hq1 h0)
  have HB := hidden hb
  have HP := hidden hp
  have HR := hidden hr
  have HQ := hidden hq
  obtain ⟨qa, qc, rfl⟩ := own_form hq
  have hne := World.new_ne w ⟨g, 0, none⟩ (blk_cell hb : _ = some (.int .i64 n))
  have c0 : w.cell? ⟨g, 0, none⟩ = some (.int .i64 n) := blk_cell hb
  have c1 : w.cell? ⟨g, 1, none⟩ = some (.slice (some ⟨pb, 0, none⟩) c pc) := blk_cell hb
  have c2 : w.cell? ⟨g, 2, none⟩ = some (.slice (some ⟨rb, 0, none⟩) c rc) := blk_cell hb
  have c3 : w.cell? ⟨g, 3, none⟩ = some (.slice qa m qc) := blk_cell hb
  have c4 : w.cell? ⟨g, 4, none⟩ = some (.bool lim) := blk_cell hb
  have c5 : w.cell? ⟨g, 5, none⟩ = some (.int .i64 lf) := blk_cell hb
  have c6 : w.cell? ⟨g, 6, none⟩ = some (.int .i64 r) := blk_cell hb
  have c7 : w.cell? ⟨g, 7, none⟩ = some (.int .i64 wn) := blk_cell hb
  have c8 : w.cell? ⟨g, 8, none⟩ = some (.int .i64 f) := blk_cell hb
  have hgl := blk_lt hb
  have HPK : Hid (∀ W, Same w W → W.ownsRow 0 22 1 (.slice (some ⟨pb, 0, none⟩) c pc) c ps) := fun W k => own_kept hp k (fun _ _ h => h)
  have HRK : Hid (∀ W, Same w W → W.ownsRow 0 22 1 (.slice (some ⟨rb, 0, none⟩) c rc) c rs) := fun W k => own_kept hr k (fun _ _ h => h)
  have HQK : Hid (∀ W, Same w W → W.ownsRow 0 58 2 (.slice qa m qc) m qs) := fun W k => own_kept hq k (fun _ _ h => h)
  have HBK : Hid (∀ W, Same w W → W.heap[g]? = some (.cells (DP n pb c pc rb rc (.slice qa m qc) lim lf r wn f) 74 (0, 0))) := fun W k => blk_kept k (fun h => h) hb
  have hne2 : g ≠ w.heap.size := Nat.ne_of_lt hgl
  have hne3 : w.heap.size ≠ g := hne2.symm
  have t1 : True := trivial
  clear hp hr hq hp1 hr1 hq1 h0 HP HR HQ hb HB
  go_enter Try.func21, Try.ntmps21
  go_wp2_with (first
    | (go_at_call 41; have _t := t1; refine (A.out _ (HPK.out _ (same_alloc _ _))).mono ?_; rintro e w1 ⟨p', pc', rfl, lp, o1, k1⟩; have b1 : w1.heap[w.heap.size]? = some (.cells (DP n pb c pc rb rc (.slice qa m qc) lim lf r wn f) 74 (0, 0)) := blk_kept k1 (fun h => h) (heap_alloc_new w _); have S1 := hidden (Kept.trans (same_alloc w _) k1); have O1 := hidden o1; have K1 := hidden k1; have lp' : w.heap.size < p' := (by simp at lp; omega); have B1 := hidden b1; have d2 : w1.cell? ⟨g, 2, none⟩ = some (.slice (some ⟨rb, 0, none⟩) c rc) := blk_cell (HBK.out _ S1.out); have x1 : w1.cell? ⟨w.heap.size, 1, none⟩ = some (.slice (some ⟨pb, 0, none⟩) c pc) := blk_cell b1; have y1 : w1.frozen? ⟨w.heap.size, 1, none⟩ = false := blk_free b1; clear t1 b1 o1 k1 lp)
    | (go_at_call 41; refine (A2.out _ (HRK.out _ (S1.out.setNew (p := ⟨w.heap.size, 1, none⟩) (Nat.le_refl _) _))).mono ?_; rintro e w2 ⟨r', rc', rfl, lr, o2, k2⟩; have b2 : w2.heap[w.heap.size]? = some (.cells (DP n p' c pc' rb rc (.slice qa m qc) lim lf r wn f) 74 (0, 0)) := blk_kept k2 (fun h => h) (blk_set (j := 1) B1.out _); have S2 := hidden (Kept.trans (S1.out.setNew (p := ⟨w.heap.size, 1, none⟩) (Nat.le_refl _) _) k2); have O2 := hidden o2; have K2 := hidden k2; have hl1 := blk_lt B1.out; have lr' : w.heap.size < r' := (by simp [World.setCell] at lr; omega); have hpr : p' ≠ r' := (fun e => by have := (O1.out.lt p' rfl).2; simp [World.setCell] at lr; omega); have B2 := hidden b2; have d3 : w2.cell? ⟨g, 3, none⟩ = some (.slice qa m qc) := blk_cell (HBK.out _ S2.out); have x2 : w2.cell? ⟨w.heap.size, 2, none⟩ = some (.slice (some ⟨rb, 0, none⟩) c rc) := blk_cell b2; have y2 : w2.frozen? ⟨w.heap.size, 2, none⟩ = false := blk_free b2; clear b2 o2 k2 lr)
    | (go_at_call 42; refine (C.out _ (HQK.out _ (S2.out.setNew (p := ⟨w.heap.size, 2, none⟩) (Nat.le_refl _) _))).mono ?_; rintro e w3 ⟨v3, rfl, lq, o3, h3, k3⟩; obtain ⟨va3, vc3, hv3⟩ := own_form o3; subst hv3; have b3 : w3.heap[w.heap.size]? = some (.cells (DP n p' c pc' r' rc' (.slice qa m qc) lim lf r wn f) 74 (0, 0)) := blk_kept k3 (fun h => h) (blk_set (j := 2) B2.out _); have S3 := hidden (Kept.trans (S2.out.setNew (p := ⟨w.heap.size, 2, none⟩) (Nat.le_refl _) _) k3); have O3 := hidden o3; have K3 := hidden k3; have B3 := hidden b3; have hl2 := blk_lt B2.out; have lq' : ∀ k, (Value.slice va3 m vc3).ownBlock = some k → w.heap.size < k := (fun k hk => by have := lq k hk; simp [World.setCell] at this; omega); have x3 : w3.cell? ⟨w.heap.size, 3, none⟩ = some (.slice qa m qc) := blk_cell b3; have y3 : w3.frozen? ⟨w.heap.size, 3, none⟩ = false := blk_free b3; have LQ := hidden lq'; have H3 := hidden h3; clear b3 o3 k3 lq lq' h3))
  go_returns
  have Z1 : ∀ W j u, Kept (fun k => k = w.heap.size) W (W.setCell ⟨w.heap.size, j, none⟩ u) := fun W j u => (Kept.refl (fun k => k = w.heap.size) W).setCell (p := ⟨w.heap.size, j, none⟩) rfl u
  refine ⟨w.heap.size, rfl, ⟨p', pc', r', rc', .slice va3 m vc3, blk_set (j := 3) B3.out _, ?_, ?_, ?_, H3.out, hpr, Nat.le_refl _, by omega, by omega, fun k hk => Nat.le_of_lt (LQ.out k hk), S3.out.setNew (p := ⟨w.heap.size, 3, none⟩) (Nat.le_refl _) _⟩⟩
  · have z : ∀ k, (Value.slice (some ⟨p', 0, none⟩) c pc').ownBlock = some k → ¬ k = w.heap.size := fun k hk => by simp [Value.ownBlock] at hk; omega
    exact own_kept (own_kept (own_kept (own_kept (own_kept O1.out (Z1 _ _ _) z) K2.out (fun _ _ h => h)) (Z1 _ _ _) z) K3.out (fun _ _ h => h)) (Z1 _ _ _) z
  · have z : ∀ k, (Value.slice (some ⟨r', 0, none⟩) c rc').ownBlock = some k → ¬ k = w.heap.size := fun k hk => by simp [Value.ownBlock] at hk; omega
    exact own_kept (own_kept (own_kept O2.out (Z1 _ _ _) z) K3.out (fun _ _ h => h)) (Z1 _ _ _) z
  · exact own_kept O3.out (Z1 _ _ _) (fun k hk e => by have := LQ.out k hk; omega)
end Go.Proofs.Yteoajgphahobiaa
