/- node: slices.Clone of texts and of ints; clone. -/
import Derived.Test.YtmkjmdiliaaepaaDoorN3
namespace Go.Proofs.YtmkjmdiliaaepaaDoor
open Go.RowKit
set_option linter.unusedVariables false
theorem infoS : (Tryd.prog.info? 9).map (fun i => (i.zero, i.size, i.bytes)) = some (some (.string ⟨#[]⟩), 1, 16) := by kernel_rfl
theorem infoI : (Tryd.prog.info? 3).map (fun i => (i.zero, i.size, i.bytes)) = some (some (.int .i64 0), 1, 8) := by kernel_rfl
set_option maxHeartbeats 1000000 in
set_option maxRecDepth 100000 in
theorem cloneS (l : List ByteArray) (a : Option Addr) (k c : Nat) (w : World) (r : Row w (.slice a k c) (TS l)) (hb : l.length ≤ 8796093022208) :
    Calls Tryd.prog 76 #[.slice a k c] w fun e w' => ∃ u, e = .returned u ∧ ∃ a' c', u = .slice a' k c' ∧ w'.ownsRow w.heap.size 9 1 (.slice a' k c') k (TS l) ∧ Same w w' := by
  obtain ⟨i0, hi, hz0, hz1, hz2⟩ := info_parts infoS
  have e1 := r.tl
  rw [e1] at hb
  cases a with
  | none =>
    have hk : k = 0 := by
      rcases Nat.eq_zero_or_pos k with h | h
      · exact h
      · obtain ⟨b, off, e, _⟩ := r.at (by rw [TS_len]; omega)
        cases e
    subst hk
    obtain rfl : l = [] := List.eq_nil_of_length_eq_zero e1
    have hnil : ∀ W : World, (binOp .eql 22 (.slice none 0 c) (.slice none 0 0)).run Tryd.prog W = .ok (.bool true) W := fun W => by
      first | rfl | simp [binOp, go_sem]
    clear r e1
    go_enter Tryd.func76, Tryd.ntmps76
    go_wp2
    go_returns
    exact ⟨_, rfl, none, 0, rfl, World.ownsRow_nil _ _ _ _, Kept.refl _ _⟩
  | some a =>
    have hnil : ∀ W : World, (binOp .eql 22 (.slice (some a) k c) (.slice none 0 0)).run Tryd.prog W = .ok (.bool false) W := fun W => by
      first | rfl | simp [binOp, go_sem]
    have HB := hidden r
    have m1 : Hid (0 + k ≤ maxLen) := by rw [Hid]; unfold maxLen; omega
    have m2 : Hid ((0 + k) * 16 ≤ 140737488355328) := by rw [Hid]; omega
    have E1 : Hid ((TS l).length = k * 1) := by rw [Hid, TS_len, e1, Nat.mul_one]
    clear r e1
    go_enter Tryd.func76, Tryd.ntmps76
    go_wp2_with (refine wpList_append_any rfl _ _ 22 rfl w.heap.size 9 i0 (.string ⟨#[]⟩) 1 16 Tryd.underlying22 hi hz0 hz1 hz2 rfl (by decide) _ 0 0 [] rfl (World.ownsRow_made w #[] 0 (Nat.le_refl _) (by decide) (by decide)) (some a) k c (TS l) rfl E1.out ((HB.out.same (same_alloc _ _)).lies) (TS_one l) m1.out m2.out (by simp) ?_; intro a1 c1 w1 ho1 hg1)
    rw [Nat.zero_add, List.nil_append] at ho1
    go_returns
    exact ⟨_, rfl, a1, c1, by simp, ho1, ((Kept.refl (fun _ => False) w).alloc _).grown hg1 (fun k hk hl => by simp [Value.ownBlock] at hk; omega)⟩
set_option maxHeartbeats 1000000 in
set_option maxRecDepth 100000 in
theorem cloneI (l : List Int) (a : Option Addr) (k c : Nat) (w : World) (r : Row w (.slice a k c) (IS l)) (hb : l.length ≤ 17592186044416) :
    Calls Tryd.prog 77 #[.slice a k c] w fun e w' => ∃ u, e = .returned u ∧ ∃ a' c', u = .slice a' k c' ∧ w'.ownsRow w.heap.size 3 1 (.slice a' k c') k (IS l) ∧ Same w w' := by
  obtain ⟨i0, hi, hz0, hz1, hz2⟩ := info_parts infoI
  have e1 := r.il
  rw [e1] at hb
  cases a with
  | none =>
    have hk : k = 0 := by
      rcases Nat.eq_zero_or_pos k with h | h
      · exact h
      · obtain ⟨b, off, e, _⟩ := r.at (by rw [IS_len]; omega)
        cases e
    subst hk
    obtain rfl : l = [] := List.eq_nil_of_length_eq_zero e1
    have hnil : ∀ W : World, (binOp .eql 23 (.slice none 0 c) (.slice none 0 0)).run Tryd.prog W = .ok (.bool true) W := fun W => by
      first | rfl | simp [binOp, go_sem]
    clear r e1
    go_enter Tryd.func77, Tryd.ntmps77
    go_wp2
    go_returns
    exact ⟨_, rfl, none, 0, rfl, World.ownsRow_nil _ _ _ _, Kept.refl _ _⟩
  | some a =>
    have hnil : ∀ W : World, (binOp .eql 23 (.slice (some a) k c) (.slice none 0 0)).run Tryd.prog W = .ok (.bool false) W := fun W => by
      first | rfl | simp [binOp, go_sem]
    have HB := hidden r
    have m1 : Hid (0 + k ≤ maxLen) := by rw [Hid]; unfold maxLen; omega
    have m2 : Hid ((0 + k) * 8 ≤ 140737488355328) := by rw [Hid]; omega
    have E1 : Hid ((IS l).length = k * 1) := by rw [Hid, IS_len, e1, Nat.mul_one]
    clear r e1
    go_enter Tryd.func77, Tryd.ntmps77
    go_wp2_with (refine wpList_append_any rfl _ _ 23 rfl w.heap.size 3 i0 (.int .i64 0) 1 8 Tryd.underlying23 hi hz0 hz1 hz2 rfl (by decide) _ 0 0 [] rfl (World.ownsRow_made w #[] 0 (Nat.le_refl _) (by decide) (by decide)) (some a) k c (IS l) rfl E1.out ((HB.out.same (same_alloc _ _)).lies) (IS_one l) m1.out m2.out (by simp) ?_; intro a1 c1 w1 ho1 hg1)
    rw [Nat.zero_add, List.nil_append] at ho1
    go_returns
    exact ⟨_, rfl, a1, c1, by simp, ho1, ((Kept.refl (fun _ => False) w).alloc _).grown hg1 (fun k hk hl => by simp [Value.ownBlock] at hk; omega)⟩
theorem own_geN {w : World} {b : Nat} {e : TypeId} {size : Nat} {v : Value} {n : Nat} {xs : List Value} (h : w.ownsRow b e size v n xs) (k : Nat) (hk : v.ownBlock = some k) : b ≤ k := by
  rcases h.2 with ⟨h1, h2⟩ | ⟨g, cap, cur, h1, h2, hh, _⟩
  · rw [h1] at hk; simp [Value.ownBlock] at hk
  · rw [h1] at hk
    have : g = k := by simpa [Value.ownBlock] using hk
    omega
theorem own_ltN {w : World} {b : Nat} {e : TypeId} {size : Nat} {v : Value} {n : Nat} {xs : List Value} (h : w.ownsRow b e size v n xs) (k : Nat) (hk : v.ownBlock = some k) : k < w.heap.size := by
  rcases h.2 with ⟨h1, h2⟩ | ⟨g, cap, cur, h1, h2, hh, _⟩
  · rw [h1] at hk; simp [Value.ownBlock] at hk
  · rw [h1] at hk
    have : g = k := by simpa [Value.ownBlock] using hk
    subst this
    exact blk_lt hh
/-- A block of four cells, and what it is when all are written. -/
theorem fill4 {W : World} {g : Nat} {t : TypeId} {z0 z1 z2 z3 : Value} (h : W.heap[g]? = some (.cells #[z0, z1, z2, z3] t (0, 0))) (v0 v1 v2 v3 : Value) :
    ((((W.setCell ⟨g, 0, none⟩ v0).setCell ⟨g, 1, none⟩ v1).setCell ⟨g, 2, none⟩ v2).setCell ⟨g, 3, none⟩ v3).heap[g]? = some (.cells #[v0, v1, v2, v3] t (0, 0)) := by
  have h1 : (W.setCell ⟨g, 0, none⟩ v0).heap[g]? = some (.cells #[v0, z1, z2, z3] t (0, 0)) := blk_set h v0
  have h2 : ((W.setCell ⟨g, 0, none⟩ v0).setCell ⟨g, 1, none⟩ v1).heap[g]? = some (.cells #[v0, v1, z2, z3] t (0, 0)) := blk_set h1 v1
  have h3 : (((W.setCell ⟨g, 0, none⟩ v0).setCell ⟨g, 1, none⟩ v1).setCell ⟨g, 2, none⟩ v2).heap[g]? = some (.cells #[v0, v1, v2, z3] t (0, 0)) := blk_set h2 v2
  exact blk_set h3 v3
theorem same_fill4 {w W : World} (k : Same w W) {g : Nat} (hg : w.heap.size ≤ g) (v0 v1 v2 v3 : Value) : Same w ((((W.setCell ⟨g, 0, none⟩ v0).setCell ⟨g, 1, none⟩ v1).setCell ⟨g, 2, none⟩ v2).setCell ⟨g, 3, none⟩ v3) :=
  (((k.setNew (p := ⟨g, 0, none⟩) hg v0).setNew (p := ⟨g, 1, none⟩) hg v1).setNew (p := ⟨g, 2, none⟩) hg v2).setNew (p := ⟨g, 3, none⟩) hg v3
theorem kept_fill4 {W : World} {g : Nat} (v0 v1 v2 v3 : Value) : Kept (only g) W ((((W.setCell ⟨g, 0, none⟩ v0).setCell ⟨g, 1, none⟩ v1).setCell ⟨g, 2, none⟩ v2).setCell ⟨g, 3, none⟩ v3) :=
  ((((Kept.refl (only g) W).setCell (p := ⟨g, 0, none⟩) rfl v0).setCell (p := ⟨g, 1, none⟩) rfl v1).setCell (p := ⟨g, 2, none⟩) rfl v2).setCell (p := ⟨g, 3, none⟩) rfl v3
theorem own_typesN {w : World} {b b' : Nat} {e e' : TypeId} {size size' : Nat} {v v' : Value} {n n' : Nat} {xs xs' : List Value} (h : w.ownsRow b e size v n xs) (h' : w.ownsRow b' e' size' v' n' xs') (hne : e ≠ e') (k : Nat) (hk : v.ownBlock = some k) : v'.ownBlock ≠ some k := by
  rcases h.2 with ⟨h1, h2⟩ | ⟨g, cap, cur, h1, h2, hh, _⟩
  · rw [h1] at hk; simp [Value.ownBlock] at hk
  · rw [h1] at hk
    have : g = k := by simpa [Value.ownBlock] using hk
    subst this
    rcases h'.2 with ⟨h1', _⟩ | ⟨g', cap', cur', h1', _, hh', _⟩
    · rw [h1']; simp [Value.ownBlock]
    · rw [h1']
      simp only [Value.ownBlock, ne_eq, Option.some.injEq]
      rintro rfl
      rw [hh] at hh'
      simp at hh'
      exact hne hh'.2
/-- A node in rows of its own. -/
structure NF (B : Nat) (w : World) (u : Value) (n : Nd) : Prop where
  out : ∃ a1 a2 a3 c1 c2 c3, u = .agg #[.bool n.leaf, .slice a1 n.keys.length c1, .slice a2 n.vals.length c2, .slice a3 n.kids.length c3] ∧
    w.ownsRow B 9 1 (.slice a1 n.keys.length c1) n.keys.length (TS n.keys) ∧ w.ownsRow B 9 1 (.slice a2 n.vals.length c2) n.vals.length (TS n.vals) ∧ w.ownsRow B 3 1 (.slice a3 n.kids.length c3) n.kids.length (IS n.kids) ∧ (∀ k, (Value.slice a1 n.keys.length c1).ownBlock = some k → (Value.slice a2 n.vals.length c2).ownBlock ≠ some k)
set_option maxHeartbeats 2000000 in
set_option maxRecDepth 100000 in
theorem clone_any (n : Nd) (a1 a2 a3 : Option Addr) (k1 c1 k2 c2 k3 c3 : Nat) (w : World) (r1 : Row w (.slice a1 k1 c1) (TS n.keys)) (r2 : Row w (.slice a2 k2 c2) (TS n.vals)) (r3 : Row w (.slice a3 k3 c3) (IS n.kids)) (h1 : n.keys.length ≤ 8796093022208) (h2 : n.vals.length ≤ 8796093022208) (h3 : n.kids.length ≤ 17592186044416) :
    Calls Tryd.prog 49 #[.agg #[.bool n.leaf, .slice a1 k1 c1, .slice a2 k2 c2, .slice a3 k3 c3]] w fun e w' => ∃ u, e = .returned u ∧ NF w.heap.size w' u n ∧ Same w w' := by
  have HS1 := hidden (fun W (k : Same w W) => cloneS n.keys a1 k1 c1 W (r1.same k) h1)
  have HS2 := hidden (fun W (k : Same w W) => cloneS n.vals a2 k2 c2 W (r2.same k) h2)
  have HS3 := hidden (fun W (k : Same w W) => cloneI n.kids a3 k3 c3 W (r3.same k) h3)
  have E1 := hidden r1.tl
  have E2 := hidden r2.tl
  have E3 := hidden r3.il
  have K0 : Hid (Same w ((w.alloc (.cells #[.bool n.leaf, .slice a1 k1 c1, .slice a2 k2 c2, .slice a3 k3 c3] 25)).alloc (.cells #[.bool false, .slice none 0 0, .slice none 0 0, .slice none 0 0] 25))) := hidden (((Kept.refl _ w).alloc _).alloc _)
  have t1 : True := trivial
  clear r1 r2 r3 h1 h2 h3
  go_enter Tryd.func49, Tryd.ntmps49
  go_wp2_with (first
    | (go_at_call 76; have _t := t1; refine (HS1.out _ K0.out).mono ?_; rintro e w1 ⟨u, rfl, b1, d1, rfl, o1, q1⟩; clear t1
       have g0 : w1.heap[w.heap.size]? = some (.cells #[.bool n.leaf, .slice a1 k1 c1, .slice a2 k2 c2, .slice a3 k3 c3] 25 (0, 0)) := blk_kept q1 (fun h => h) (blk_alloc (blk_new _ _) _)
       have g1 : w1.heap[w.heap.size + 1]? = some (.cells #[.bool false, .slice none 0 0, .slice none 0 0, .slice none 0 0] 25 (0, 0)) := blk_kept q1 (fun h => h) (by have := blk_new (w.alloc (.cells #[.bool n.leaf, .slice a1 k1 c1, .slice a2 k2 c2, .slice a3 k3 c3] 25)) (.cells #[.bool false, .slice none 0 0, .slice none 0 0, .slice none 0 0] 25); simpa using this)
       have x1 : w1.cell? ⟨w.heap.size, 1, none⟩ = some (.slice a1 k1 c1) := blk_cell g0
       have y1 : w1.frozen? ⟨w.heap.size, 1, none⟩ = false := blk_free g0
       have g0' : (w1.setCell ⟨w.heap.size, 1, none⟩ (.slice b1 k1 d1)).heap[w.heap.size]? = some (.cells #[.bool n.leaf, .slice b1 k1 d1, .slice a2 k2 c2, .slice a3 k3 c3] 25 (0, 0)) := blk_set g0 _
       have x2 : (w1.setCell ⟨w.heap.size, 1, none⟩ (.slice b1 k1 d1)).cell? ⟨w.heap.size, 2, none⟩ = some (.slice a2 k2 c2) := blk_cell g0'
       have s1 : Kept (only w.heap.size) w1 (w1.setCell ⟨w.heap.size, 1, none⟩ (.slice b1 k1 d1)) := (Kept.refl (only w.heap.size) w1).setCell (p := ⟨w.heap.size, 1, none⟩) rfl _
       have AP := hidden (fun k hk => own_ltN (own_kept o1 s1 (fun k hk hs => by have h1 := own_geN o1 k hk; have h2 : k = w.heap.size := hs; simp at h1; omega)) k hk)
       have O1 := hidden (own_kept o1 s1 (fun k hk hs => by have h1 := own_geN o1 k hk; have h2 : k = w.heap.size := hs; simp at h1; omega))
       have G0 := hidden g0'
       have G1 := hidden (blk_kept s1 (by show ¬ w.heap.size + 1 = w.heap.size; omega) g1)
       have K1 := hidden ((K0.out.trans q1).setNew (p := ⟨w.heap.size, 1, none⟩) (Nat.le_refl _) (.slice b1 k1 d1))
       have t2 : True := trivial
       clear o1 q1 g0 g1 g0' s1)
    | (go_at_call 76; have _t := t2; refine (HS2.out _ K1.out).mono ?_; rintro e w2 ⟨u, rfl, b2, d2, rfl, o2, q2⟩; clear t2
       have g0 := blk_kept q2 (fun h => h) G0.out
       have x3 : w2.cell? ⟨w.heap.size, 2, none⟩ = some (.slice a2 k2 c2) := blk_cell g0
       have y3 : w2.frozen? ⟨w.heap.size, 2, none⟩ = false := blk_free g0
       have g0' : (w2.setCell ⟨w.heap.size, 2, none⟩ (.slice b2 k2 d2)).heap[w.heap.size]? = some (.cells #[.bool n.leaf, .slice b1 k1 d1, .slice b2 k2 d2, .slice a3 k3 c3] 25 (0, 0)) := blk_set g0 _
       have x4 : (w2.setCell ⟨w.heap.size, 2, none⟩ (.slice b2 k2 d2)).cell? ⟨w.heap.size, 3, none⟩ = some (.slice a3 k3 c3) := blk_cell g0'
       have s1 : Kept (only w.heap.size) w2 (w2.setCell ⟨w.heap.size, 2, none⟩ (.slice b2 k2 d2)) := (Kept.refl (only w.heap.size) w2).setCell (p := ⟨w.heap.size, 2, none⟩) rfl _
       have hz := K1.out.size
       have O2 := hidden (own_kept o2 s1 (fun k hk hs => by have h1 := own_geN o2 k hk; have h2 : k = w.heap.size := hs; have h3 := blk_lt G1.out; omega))
       have P1 := hidden (own_kept (own_kept O1.out q2 (fun _ _ h => h)) s1 (fun k hk hs => by have h1 := own_geN O1.out k hk; have h2 : k = w.heap.size := hs; simp at h1; omega))
       have G0b := hidden g0'
       have G1b := hidden (blk_kept s1 (by show ¬ w.heap.size + 1 = w.heap.size; omega) (blk_kept q2 (fun h => h) G1.out))
       have K2 := hidden ((K1.out.trans q2).setNew (p := ⟨w.heap.size, 2, none⟩) (Nat.le_refl _) (.slice b2 k2 d2))
       clear o2 q2 g0 g0' s1 O1 hz)
    | (go_at_call 77; refine (HS3.out _ K2.out).mono ?_; rintro e w3 ⟨u, rfl, b3, d3, rfl, o3, q3⟩
       have g0 := blk_kept q3 (fun h => h) G0b.out
       have x5 : w3.cell? ⟨w.heap.size, 3, none⟩ = some (.slice a3 k3 c3) := blk_cell g0
       have y5 : w3.frozen? ⟨w.heap.size, 3, none⟩ = false := blk_free g0
       have g0' : (w3.setCell ⟨w.heap.size, 3, none⟩ (.slice b3 k3 d3)).heap[w.heap.size]? = some (.cells #[.bool n.leaf, .slice b1 k1 d1, .slice b2 k2 d2, .slice b3 k3 d3] 25 (0, 0)) := blk_set g0 _
       have s1 : Kept (only w.heap.size) w3 (w3.setCell ⟨w.heap.size, 3, none⟩ (.slice b3 k3 d3)) := (Kept.refl (only w.heap.size) w3).setCell (p := ⟨w.heap.size, 3, none⟩) rfl _
       have hB := blk_lt G1b.out
       have O3 := hidden (own_kept o3 s1 (fun k hk hs => by have h1 := own_geN o3 k hk; have h2 : k = w.heap.size := hs; omega))
       have P2 := hidden (own_kept (own_kept O2.out q3 (fun _ _ h => h)) s1 (fun k hk hs => by have h1 := own_geN O2.out k hk; have h2 : k = w.heap.size := hs; have h3 := K1.out.size; have h4 := blk_lt G1.out; omega))
       have Q1 := hidden (own_kept (own_kept P1.out q3 (fun _ _ h => h)) s1 (fun k hk hs => by have h1 := own_geN P1.out k hk; have h2 : k = w.heap.size := hs; simp at h1; omega))
       have g1c := blk_kept s1 (by show ¬ w.heap.size + 1 = w.heap.size; omega) (blk_kept q3 (fun h => h) G1b.out)
       have K3 := hidden ((K2.out.trans q3).setNew (p := ⟨w.heap.size, 3, none⟩) (Nat.le_refl _) (.slice b3 k3 d3))
       have z0 : (w3.setCell ⟨w.heap.size, 3, none⟩ (.slice b3 k3 d3)).cell? ⟨w.heap.size, 0, none⟩ = some (.bool n.leaf) := blk_cell g0'
       have z1 : (w3.setCell ⟨w.heap.size, 3, none⟩ (.slice b3 k3 d3)).cell? ⟨w.heap.size, 1, none⟩ = some (.slice b1 k1 d1) := blk_cell g0'
       have z2 : (w3.setCell ⟨w.heap.size, 3, none⟩ (.slice b3 k3 d3)).cell? ⟨w.heap.size, 2, none⟩ = some (.slice b2 k2 d2) := blk_cell g0'
       have z3 : (w3.setCell ⟨w.heap.size, 3, none⟩ (.slice b3 k3 d3)).cell? ⟨w.heap.size, 3, none⟩ = some (.slice b3 k3 d3) := blk_cell g0'
       have s0' : (w3.setCell ⟨w.heap.size, 3, none⟩ (.slice b3 k3 d3)).cell? ⟨w.heap.size + 1, 0, none⟩ = some (.bool false) := blk_cell g1c
       have f0' : (w3.setCell ⟨w.heap.size, 3, none⟩ (.slice b3 k3 d3)).frozen? ⟨w.heap.size + 1, 0, none⟩ = false := blk_free g1c
       have s1' : (w3.setCell ⟨w.heap.size, 3, none⟩ (.slice b3 k3 d3)).cell? ⟨w.heap.size + 1, 1, none⟩ = some (.slice none 0 0) := blk_cell g1c
       have f1' : (w3.setCell ⟨w.heap.size, 3, none⟩ (.slice b3 k3 d3)).frozen? ⟨w.heap.size + 1, 1, none⟩ = false := blk_free g1c
       have s2' : (w3.setCell ⟨w.heap.size, 3, none⟩ (.slice b3 k3 d3)).cell? ⟨w.heap.size + 1, 2, none⟩ = some (.slice none 0 0) := blk_cell g1c
       have f2' : (w3.setCell ⟨w.heap.size, 3, none⟩ (.slice b3 k3 d3)).frozen? ⟨w.heap.size + 1, 2, none⟩ = false := blk_free g1c
       have s3' : (w3.setCell ⟨w.heap.size, 3, none⟩ (.slice b3 k3 d3)).cell? ⟨w.heap.size + 1, 3, none⟩ = some (.slice none 0 0) := blk_cell g1c
       have f3' : (w3.setCell ⟨w.heap.size, 3, none⟩ (.slice b3 k3 d3)).frozen? ⟨w.heap.size + 1, 3, none⟩ = false := blk_free g1c
       have GC := hidden g1c
       clear o3 q3 g0 g0' g1c s1))
  generalize w3.setCell ⟨w.heap.size, 3, none⟩ (.slice b3 k3 d3) = W at *
  have gf := fill4 GC.out (.bool n.leaf) (.slice b1 k1 d1) (.slice b2 k2 d2) (.slice b3 k3 d3)
  have kf := kept_fill4 (W := W) (g := w.heap.size + 1) (.bool n.leaf) (.slice b1 k1 d1) (.slice b2 k2 d2) (.slice b3 k3 d3)
  have sf := same_fill4 K3.out (g := w.heap.size + 1) (by omega) (.bool n.leaf) (.slice b1 k1 d1) (.slice b2 k2 d2) (.slice b3 k3 d3)
  generalize (((W.setCell ⟨w.heap.size + 1, 0, none⟩ (.bool n.leaf)).setCell ⟨w.heap.size + 1, 1, none⟩ (.slice b1 k1 d1)).setCell ⟨w.heap.size + 1, 2, none⟩ (.slice b2 k2 d2)).setCell ⟨w.heap.size + 1, 3, none⟩ (.slice b3 k3 d3) = WF at gf kf sf ⊢
  have q0 : WF.cell? ⟨w.heap.size + 1, 0, none⟩ = some (.bool n.leaf) := blk_cell gf
  have q1 : WF.cell? ⟨w.heap.size + 1, 1, none⟩ = some (.slice b1 k1 d1) := blk_cell gf
  have q2 : WF.cell? ⟨w.heap.size + 1, 2, none⟩ = some (.slice b2 k2 d2) := blk_cell gf
  have q3 : WF.cell? ⟨w.heap.size + 1, 3, none⟩ = some (.slice b3 k3 d3) := blk_cell gf
  have e1 := E1.out
  have e2 := E2.out
  have e3 := E3.out
  subst e1 e2 e3
  refine bodyPost_ret (v := .agg #[.bool n.leaf, .slice b1 n.keys.length d1, .slice b2 n.vals.length d2, .slice b3 n.kids.length d3]) (by simp [results, Tryd.results49, go_sem, q0, q1, q2, q3]; try rfl) rfl ⟨_, rfl, ⟨⟨b1, b2, b3, d1, d2, d3, rfl, ?_, ?_, ?_, fun k hk1 hk2 => by have h1 := AP.out k hk1; have h2 := own_geN P2.out k hk2; omega⟩⟩, sf⟩
  · exact own_mono (own_kept Q1.out kf (fun k hk hs => by have h1 := own_geN Q1.out k hk; have h2 : k = w.heap.size + 1 := hs; simp at h1; omega)) (by simp; omega)
  · exact own_mono (own_kept P2.out kf (fun k hk hs => by have h1 := own_geN P2.out k hk; have h2 : k = w.heap.size + 1 := hs; have h4 := blk_lt G1.out; omega)) K1.out.size
  · exact own_mono (own_kept O3.out kf (fun k hk hs => by have h1 := own_geN O3.out k hk; have h2 : k = w.heap.size + 1 := hs; omega)) K2.out.size
end Go.Proofs.YtmkjmdiliaaepaaDoor
