/- The document's disk: Write. -/
import Derived.Test.YteoajgphahobiaaR1
namespace Go.Proofs.Yteoajgphahobiaa
open Go.RowKit
set_option linter.unusedVariables false
/-- A row of bytes of one's own. -/
def RB (w : World) (u : Value) (l : List UInt8) : Prop := w.ownsRow 0 5 1 u l.length (l.map U8)
theorem RB.byt {w : World} {u : Value} {l : List UInt8} (h : RB w u l) : Byt w u l := by
  rcases h.2 with ⟨e, h0⟩ | ⟨g, cap, cur, e, _⟩
  · exact Or.inl ⟨e, List.length_eq_zero_iff.1 h0⟩
  · refine Or.inr ⟨⟨g, 0, none⟩, cap, e, fun j hj => ?_⟩
    exact h.cells (g := g) (by rw [e]; rfl) j _ (by rw [List.getElem?_map, List.getElem?_eq_getElem hj]; rfl)
theorem RB.kept {w w' : World} {u : Value} {l : List UInt8} {S : Nat → Prop} (h : RB w u l) (k : Kept S w w') (hs : ∀ i, u.ownBlock = some i → ¬ S i) : RB w' u l := own_kept h k hs
/-- append([]byte{}, b...) of a world. -/
theorem byt_cells {w : World} {a : Addr} {l : List UInt8} {cap : Nat} (h : Byt w (.slice (some a) l.length cap) l) : ∀ j u, (l.map U8)[j]? = some u → w.cell? (a.add j) = some u := by
  intro j u hu
  rw [List.getElem?_map, Option.map_eq_some_iff] at hu
  obtain ⟨b, hb, rfl⟩ := hu
  obtain ⟨hj, rfl⟩ := List.getElem?_eq_some_iff.1 hb
  rcases h with ⟨e, _⟩ | ⟨a', c', e, hc⟩
  · cases e
  · obtain ⟨rfl, _⟩ : a = a' ∧ cap = c' := by simpa using e
    exact hc j hj
theorem ownsRow_heap' {w w' : World} (h : w'.heap = w.heap) {base : Nat} {e : TypeId} {size : Nat} {v : Value} {n : Nat} {xs : List Value} (ho : w.ownsRow base e size v n xs) : w'.ownsRow base e size v n xs := by
  refine ⟨ho.1, ?_⟩
  rcases ho.2 with h1 | ⟨g, cap, cur, h1, h2, hh, h3⟩
  · exact Or.inl h1
  · exact Or.inr ⟨g, cap, cur, h1, h2, by rw [h]; exact hh, h3⟩
theorem grown_heap' {w w' w2 : World} {row : Option Nat} (h : w'.heap = w.heap) (h1 : w'.os = w.os) (h2 : w'.tape = w.tape) (h3 : w'.output = w.output) (hg : w'.grownBy w2 row) : w.grownBy w2 row :=
  ⟨hg.os.trans h1, hg.tape.trans h2, hg.output.trans h3, by rw [← h]; exact hg.size, fun k hk hr => by rw [← h]; exact hg.block k (by rw [h]; exact hk) hr⟩
structure RWrote (n c pb L pc g i m : Nat) (qv : Value) (qs : List Value) (lim : Bool) (more : Int) (r wn f : Nat) (l : List UInt8) (w w' : World) : Prop where
  ex : ∃ u gq qc, RB w' u l ∧ (∀ k, u.ownBlock = some k → w.heap.size ≤ k) ∧ w'.heap[g]? = some (.cells (RC n c pb L pc (.slice (some ⟨gq, 0, none⟩) (m + 1) qc) r (wn + 1) f lim (spL lim more)) 35 (0, 0)) ∧
    w'.ownsRow 0 58 2 (.slice (some ⟨gq, 0, none⟩) (m + 1) qc) (m + 1) (qs ++ [.int .i64 i, u]) ∧ Kept (fun k => k = g ∨ qv.ownBlock = some k) w w' ∧ (qv.ownBlock = some gq ∨ w.heap.size ≤ gq)
set_option maxHeartbeats 2000000 in
set_option maxRecDepth 100000 in
theorem r_write (n c pb L pc g i m : Nat) (qv : Value) (qs : List Value) (lim : Bool) (more : Int) (hng : ¬ (lim = true ∧ more = 0)) (h0 : lim = true → 0 ≤ more) (h1 : more ≤ 9223372036854775807) (r wn f : Nat) (v : Value) (l : List UInt8) (w : World)
    (hb : w.heap[g]? = some (.cells (RC n c pb L pc qv r wn f lim more) 35 (0, 0))) (hq : w.ownsRow 0 58 2 qv m qs) (hv : Byt w v l) (hvn : ∀ a k cap, v = .slice (some a) k cap → a.block ≠ g) (hl : l.length = n) (hn0 : 1 ≤ n) (hn : n ≤ 4096) (hi : i < c) (hm : m ≤ 4398046511102) (hw : wn ≤ 4398046511104) :
    Calls Try.prog 45 #[.pointer (some ⟨g, 0, none⟩), .int .i64 i, v] w fun e w' => e = .returned (.int .i64 0) ∧ RWrote n c pb L pc g i m qv qs lim more r wn f l w w' := by
  subst hl
  have c0 : w.cell? ⟨g, 0, none⟩ = some (.int .i64 l.length) := blk_cell hb
  have c1 : w.cell? ⟨g, 1, none⟩ = some (.int .i64 c) := blk_cell hb
  have G := hidden (r_goneNo l.length c pb L pc g qv r wn f lim more hng h0 h1 w hb)
  have hvk : ∀ w1, Kept (fun k => k = g) w w1 → Byt w1 v l := fun w1 k => hv.kept' k hvn
  obtain ⟨a, cap, rfl⟩ : ∃ a cap, v = .slice (some a) l.length cap := by
    rcases hv with ⟨_, h⟩ | ⟨a, cap, e, _⟩
    · rw [h] at hn0; simp at hn0
    · exact ⟨a, cap, e⟩
  have HV := hidden hvk
  obtain ⟨i0, hi0, hz0, hz1, hz2⟩ := info_parts infoSec
  obtain ⟨i5, hi5, hx0, hx1, hx2⟩ := info_parts info5
  have HQ0 := hidden hq
  have ngq := hidden (own_apart hq hb (by decide))
  have hql : ∀ k, qv.ownBlock = some k → k < w.heap.size := fun k hk => (hq.lt k hk).2
  have HQL := hidden hql
  have hgl : g < w.heap.size := blk_lt hb
  have m1 : Hid (m + 1 ≤ maxLen) := by rw [Hid]; unfold maxLen; omega
  have m2 : Hid ((m + 1) * 32 ≤ 140737488355328) := by rw [Hid]; omega
  have m3 : Hid (0 + l.length ≤ maxLen) := by rw [Hid]; unfold maxLen; omega
  have m4 : Hid ((0 + l.length) * 1 ≤ 140737488355328) := by rw [Hid]; omega
  have q0 : ¬ (i : Int) < 0 := by omega
  have q1 : ¬ (c : Int) ≤ (i : Int) := by omega
  have q2 : (i : Int) < (c : Int) := by omega
  have t1 : True := trivial
  clear hql hb hq hv hvk hvn hng h0 h1
  go_enter Try.func45, Try.ntmps45
  go_wp2_with (
    (go_at_call 56; refine (G.out).mono ?_; rintro e w1 ⟨rfl, b1, k1⟩; have HB := hidden b1; have HQ := hidden (own_kept HQ0.out k1 (fun k hk e => ngq.out (by rw [hk, e]))); have hbc := hidden (fun o => byt_cells ((HV.out w1 k1).same (same_alloc w1 o))); have d3 : w1.cell? ⟨g, 3, none⟩ = some qv := blk_cell b1; have d3a : ∀ o, (w1.alloc o).cell? ⟨g, 3, none⟩ = some qv := (fun o => blk_cell (blk_alloc HB.out o)); have KK := hidden k1; have hsz := k1.size; clear b1 k1 G))
  go_region_law ((first
      | (have _t := t1; refine step_append_lies _ (by rfl) _ _ 22 (by rfl) w1.heap.size 5 i5 _ 1 1 Try.underlying22 hi5 hx0 hx1 hx2 rfl (by decide) _ _ _ (by rfl) (ownsRow_drew (World.ownsRow_made w1 #[] 0 (Nat.le_refl _) (by decide) (by decide))) a l.length cap (l.map U8) (by rfl) (by simp) (fun j u hu => hbc.out _ j u hu) (by intro u hu; obtain ⟨b, _, rfl⟩ := List.mem_map.1 hu; exact U8_one b) (by omega) m3.out m4.out (by simp) (w1.heap.size + 1) (by simp) ?_; intro gu cu w2 hown2 hgrow2 hat2 hlt2; rw [Nat.zero_add, List.nil_append] at hown2; have k2 : Same w1 w2 := ((Kept.refl (fun _ => False) w1).alloc _).drew.grown hgrow2 (fun k hk hl => by simp [Value.ownBlock] at hk; omega); have hgu : w1.heap.size ≤ gu := hat2.elim (fun h => by simp [Value.ownBlock] at h; omega) (fun h => by omega); have b2 := blk_kept k2 (fun h => h) HB.out; have B2' := hidden b2; have e3 : w2.cell? ⟨g, 3, none⟩ = some qv := blk_cell b2; have e3a : ∀ o, (w2.alloc o).cell? ⟨g, 3, none⟩ = some qv := (fun o => blk_cell (blk_alloc B2'.out o)); have O2 := hidden hown2; have B2 := hidden b2; have K2 := hidden k2; clear t1 hown2 hgrow2 hat2 b2 k2)
      | (refine step_append_lies _ (by rfl) _ _ 33 (by rfl) 0 58 i0 _ 2 32 Try.underlying33 hi0 hz0 hz1 hz2 rfl (by decide) _ _ _ (by rfl) (ownsRow_drew ((own_kept HQ.out K2.out (fun _ _ h => h)).alloc _)) ⟨w2.heap.size, 0, none⟩ 1 1 _ (by rfl) (by rfl) (World.news_of_block (show _ = _ from heap_alloc_new w2 (.cells #[.int .i64 (i : Int), .slice (some ⟨gu, 0, none⟩) l.length cu] 58))) (by simp [Value.oneCell']) (by decide) m1.out m2.out (Nat.zero_le _) (w2.heap.size + 1) (by simp) ?_; intro gq qc w5 hown5 hgrow5 hat5 hlt5; have ng := own_apart (own_kept HQ.out K2.out (fun _ _ h => h)) B2.out (by decide); have b5 : w5.heap[g]? = _ := (hgrow5.block g (by have := blk_lt B2.out; simp; omega) (Ne.symm ng)).trans (blk_alloc B2.out _); have g3 : w5.cell? ⟨g, 3, none⟩ = some qv := blk_cell b5; have g5 : w5.cell? ⟨g, 5, none⟩ = some (.int .i64 wn) := blk_cell b5; have f3 : w5.frozen? ⟨g, 3, none⟩ = false := blk_free b5; have f5 : w5.frozen? ⟨g, 5, none⟩ = false := blk_free b5; have B5 := hidden b5; clear b5 ng)))
  all_goals
    have K5 : Kept (fun k => k = g ∨ qv.ownBlock = some k) w2 w5 := ((Kept.refl (fun k => k = g ∨ qv.ownBlock = some k) w2).alloc _).grown hgrow5 (fun k hk _ => Or.inr hk)
    have KH := hidden K5
    have OH := hidden hown5
    have AH := hidden hat5
    clear K5 hown5 hgrow5 hat5 d3a e3a
    go_wp2
    go_returns
    have K8 := (KH.out.setCell (p := ⟨g, 3, none⟩) (Or.inl rfl) (.slice (some ⟨gq, 0, none⟩) (m + 1) qc)).setCell (p := ⟨g, 5, none⟩) (Or.inl rfl) (.int .i64 ((wn : Int) + 1))
    have Z1 : ∀ W j u, Kept (fun k => k = g) W (W.setCell ⟨g, j, none⟩ u) := fun W j u => (Kept.refl (fun k => k = g) W).setCell (p := ⟨g, j, none⟩) rfl u
    have ng : gq ≠ g := fun e => own_apart OH.out B5.out (by decide) (by rw [← e]; rfl)
    have k1s := KK.out.size
    have k2s := K2.out.size
    refine ⟨rfl, ⟨.slice (some ⟨gu, 0, none⟩) l.length cu, gq, qc, ?_, fun k hk => by simp [Value.ownBlock] at hk; omega, ?_, ?_, ?_, AH.out.imp id (fun h => by omega)⟩⟩
    · refine own_kept (own_base O2.out) K8 (fun k hk hs => ?_)
      simp [Value.ownBlock] at hk
      subst hk
      rcases hs with hs | hs
      · omega
      · have := HQL.out _ hs; omega
    · exact blk_set (j := 5) (blk_set (j := 3) B5.out _) _
    · exact own_kept (own_kept OH.out (Z1 _ _ _) (fun k hk e => by simp [Value.ownBlock] at hk; omega)) (Z1 _ _ _) (fun k hk e => by simp [Value.ownBlock] at hk; omega)
    · exact (KK.out.mono (fun _ _ h => Or.inl h)).trans' ((K2.out.mono (fun _ _ h => h.elim)).trans' K8 (fun _ _ h => h)) (fun _ _ h => h)
set_option maxHeartbeats 1000000 in
set_option maxRecDepth 100000 in
theorem r_writeOff (n c pb L pc g i : Nat) (qv : Value) (r wn f : Nat) (v : Value) (l : List UInt8) (w : World)
    (hb : w.heap[g]? = some (.cells (RC n c pb L pc qv r wn f true 0) 35 (0, 0))) (hv : Byt w v l) (hl : l.length = n) (hi : i < c) :
    Calls Try.prog 45 #[.pointer (some ⟨g, 0, none⟩), .int .i64 i, v] w fun e w' => e = .returned (.int .i64 0) ∧ w = w' := by
  subst hl
  have c0 : w.cell? ⟨g, 0, none⟩ = some (.int .i64 l.length) := blk_cell hb
  have c1 : w.cell? ⟨g, 1, none⟩ = some (.int .i64 c) := blk_cell hb
  have G := hidden (r_goneYes g w (blk_cell hb) (blk_cell hb))
  obtain ⟨a, cap, rfl⟩ := hv.form
  have q0 : ¬ (i : Int) < 0 := by omega
  have q1 : ¬ (c : Int) ≤ (i : Int) := by omega
  have q2 : (i : Int) < (c : Int) := by omega
  clear hb hv
  go_enter Try.func45, Try.ntmps45
  go_wp2_with (go_at_call 56; refine (G.out).mono ?_; rintro e w1 ⟨rfl, rfl⟩)
  go_returns
  exact ⟨rfl, rfl⟩
set_option maxHeartbeats 1000000 in
set_option maxRecDepth 100000 in
theorem r_writeLen (n c pb L pc g i : Nat) (qv : Value) (lim : Bool) (more : Int) (r wn f : Nat) (v : Value) (l : List UInt8) (w : World)
    (hb : w.heap[g]? = some (.cells (RC n c pb L pc qv r wn f lim more) 35 (0, 0))) (hv : Byt w v l) (hl : l.length ≠ n) (hi : i < c) :
    Calls Try.prog 45 #[.pointer (some ⟨g, 0, none⟩), .int .i64 i, v] w fun e w' => e = .returned (.int .i64 30) ∧ w = w' := by
  have c0 : w.cell? ⟨g, 0, none⟩ = some (.int .i64 n) := blk_cell hb
  have c1 : w.cell? ⟨g, 1, none⟩ = some (.int .i64 c) := blk_cell hb
  obtain ⟨a, cap, rfl⟩ := hv.form
  have q0 : ¬ (i : Int) < 0 := by omega
  have q1 : ¬ (c : Int) ≤ (i : Int) := by omega
  have q2 : (i : Int) < (c : Int) := by omega
  have hne : (l.length : Int) ≠ (n : Int) := by omega
  have hnb : ((l.length : Int) == (n : Int)) = false := by simp; omega
  clear hb hv
  go_enter Try.func45, Try.ntmps45
  go_wp2
  go_returns
  exact ⟨rfl, rfl⟩
set_option maxHeartbeats 1000000 in
set_option maxRecDepth 100000 in
theorem r_writeNo (n c pb L pc g : Nat) (i : Int) (qv : Value) (lim : Bool) (more : Int) (r wn f : Nat) (v : Value) (w : World)
    (hb : w.heap[g]? = some (.cells (RC n c pb L pc qv r wn f lim more) 35 (0, 0))) (hi : ¬ (0 ≤ i ∧ i < c)) :
    Calls Try.prog 45 #[.pointer (some ⟨g, 0, none⟩), .int .i64 i, v] w fun e w' => e = .returned (.int .i64 30) ∧ w = w' := by
  have c1 : w.cell? ⟨g, 1, none⟩ = some (.int .i64 c) := blk_cell hb
  clear hb
  by_cases h0 : i < 0
  · go_enter Try.func45, Try.ntmps45
    go_wp2
    go_returns
    exact ⟨rfl, rfl⟩
  · have h1 : (c : Int) ≤ i := by omega
    have h2 : ¬ i < (c : Int) := by omega
    go_enter Try.func45, Try.ntmps45
    go_wp2
    go_returns
    exact ⟨rfl, rfl⟩
end Go.Proofs.Yteoajgphahobiaa
