/- A Disk whatever its power is: spend, Stop, Off, Write. -/
import Derived.Test.YteoajgphahobiaaE5
namespace Go.Proofs.Yteoajgphahobiaa
open Go.RowKit
set_option linter.unusedVariables false

/-- The cells of a Disk. -/
def DP (n pb c pc rb rc : Nat) (qv : Value) (lim : Bool) (lf : Int) (r wn f : Nat) : Array Value :=
  #[.int .i64 n, .slice (some ⟨pb, 0, none⟩) c pc, .slice (some ⟨rb, 0, none⟩) c rc, qv, .bool lim, .int .i64 lf, .int .i64 r, .int .i64 wn, .int .i64 f]
/-- What power is left behind one more. -/
def spL (lim : Bool) (lf : Int) : Int := if lim then lf - 1 else lf
theorem Byt.kept' {w w' : World} {v : Value} {l : List UInt8} {S : Nat → Prop} (h : Byt w v l) (k : Kept S w w') (hs : ∀ a k cap, v = .slice (some a) k cap → ¬ S a.block) : Byt w' v l := by
  rcases h with h | ⟨a, cap, e, hc⟩
  · exact Or.inl h
  · exact Or.inr ⟨a, cap, e, fun j hj => Kept.cell k (by rw [add_block]; exact hs _ _ _ e) (hc j hj)⟩
set_option maxHeartbeats 1000000 in
set_option maxRecDepth 100000 in
theorem y_gone (g : Nat) (lim : Bool) (lf : Int) (w : World) (h4 : w.cell? ⟨g, 4, none⟩ = some (.bool lim)) (h5 : w.cell? ⟨g, 5, none⟩ = some (.int .i64 lf)) : Calls Try.prog 53 #[.pointer (some ⟨g, 4, none⟩)] w fun e w' => e = .returned (.bool (lim && (lf == 0))) ∧ w = w' := by
  cases lim
  · go_enter Try.func53, Try.ntmps53
    go_wp2
    go_returns
    exact ⟨rfl, rfl⟩
  · go_enter Try.func53, Try.ntmps53
    go_wp2
    go_returns
    exact ⟨by first | rfl | simp, rfl⟩
set_option maxHeartbeats 1000000 in
set_option maxRecDepth 100000 in
theorem y_spend (n pb c pc rb rc g : Nat) (qv : Value) (lim : Bool) (lf : Int) (hng : ¬ (lim = true ∧ lf = 0)) (hf0 : 0 ≤ lf) (hf1 : lf ≤ 9223372036854775807) (r wn f : Nat) (w : World) (hb : w.heap[g]? = some (.cells (DP n pb c pc rb rc qv lim lf r wn f) 74 (0, 0))) :
    Calls Try.prog 44 #[.pointer (some ⟨g, 4, none⟩)] w fun e w' => e = .returned (.bool true) ∧ w'.heap[g]? = some (.cells (DP n pb c pc rb rc qv lim (spL lim lf) r wn f) 74 (0, 0)) ∧ Kept (fun k => k = g) w w' := by
  have h4 : w.cell? ⟨g, 4, none⟩ = some (.bool lim) := blk_cell hb
  have h5 : w.cell? ⟨g, 5, none⟩ = some (.int .i64 lf) := blk_cell hb
  have f5 : w.frozen? ⟨g, 5, none⟩ = false := blk_free hb
  have hgo := y_gone g lim lf w h4 h5
  have he : (lim && (lf == 0)) = false := by
    cases lim
    · rfl
    · simpa using hng
  rw [he] at hgo
  have G := hidden hgo
  have HB := hidden hb
  clear hgo he hng hb
  cases lim
  · go_enter Try.func44, Try.ntmps44
    go_wp2_with (go_at_call 53; refine (G.out).mono ?_; rintro e w1 ⟨rfl, rfl⟩)
    go_returns
    exact ⟨rfl, HB.out, Kept.refl _ _⟩
  · have hw : IntKind.i64.wrap (lf - 1) = lf - 1 := by rw [IntKind.wrap_i64]; omega
    go_enter Try.func44, Try.ntmps44
    go_wp2_with (go_at_call 53; refine (G.out).mono ?_; rintro e w1 ⟨rfl, rfl⟩)
    go_returns
    exact ⟨rfl, blk_set (j := 5) HB.out _, (Kept.refl (fun k => k = g) w).setCell (p := ⟨g, 5, none⟩) rfl _⟩
set_option maxHeartbeats 1000000 in
set_option maxRecDepth 100000 in
theorem y_spendNo (g : Nat) (w : World) (h4 : w.cell? ⟨g, 4, none⟩ = some (.bool true)) (h5 : w.cell? ⟨g, 5, none⟩ = some (.int .i64 0)) : Calls Try.prog 44 #[.pointer (some ⟨g, 4, none⟩)] w fun e w' => e = .returned (.bool false) ∧ w = w' := by
  have G := hidden (y_gone g true 0 w h4 h5)
  go_enter Try.func44, Try.ntmps44
  go_wp2_with (go_at_call 53; refine (G.out).mono ?_; rintro e w1 ⟨rfl, rfl⟩)
  go_returns
  exact ⟨rfl, rfl⟩
set_option maxHeartbeats 1000000 in
set_option maxRecDepth 100000 in
theorem y_off (g : Nat) (lim : Bool) (lf : Int) (w : World) (h4 : w.cell? ⟨g, 4, none⟩ = some (.bool lim)) (h5 : w.cell? ⟨g, 5, none⟩ = some (.int .i64 lf)) : Calls Try.prog 30 #[.pointer (some ⟨g, 0, none⟩)] w fun e w' => e = .returned (.bool (lim && (lf == 0))) ∧ w = w' := by
  have G := hidden (y_gone g lim lf w h4 h5)
  generalize (lim && (lf == 0)) = b at G ⊢
  go_enter Try.func30, Try.ntmps30
  go_wp2_with (go_at_call 53; refine (G.out).mono ?_; rintro e w1 ⟨rfl, rfl⟩)
  go_returns
  exact ⟨rfl, rfl⟩
set_option maxHeartbeats 1000000 in
set_option maxRecDepth 100000 in
theorem y_stop (n pb c pc rb rc g : Nat) (qv : Value) (lim : Bool) (lf z : Int) (r wn f : Nat) (w : World) (hb : w.heap[g]? = some (.cells (DP n pb c pc rb rc qv lim lf r wn f) 74 (0, 0))) :
    Calls Try.prog 22 #[.pointer (some ⟨g, 0, none⟩), .int .i64 z] w fun e w' => e = .returned (.tuple #[]) ∧ w'.heap[g]? = some (.cells (DP n pb c pc rb rc qv (decide (0 ≤ z)) (if 0 ≤ z then z else 0) r wn f) 74 (0, 0)) ∧ Kept (fun k => k = g) w w' := by
  have h4 : w.cell? ⟨g, 4, none⟩ = some (.bool lim) := blk_cell hb
  have h5 : w.cell? ⟨g, 5, none⟩ = some (.int .i64 lf) := blk_cell hb
  have f4 : w.frozen? ⟨g, 4, none⟩ = false := blk_free hb
  have f5 : w.frozen? ⟨g, 5, none⟩ = false := blk_free hb
  have HB := hidden hb
  clear hb
  by_cases hz : 0 ≤ z
  · rw [decide_eq_true hz, if_pos hz]
    go_enter Try.func22, Try.ntmps22
    go_wp2
    go_returns
    refine ⟨rfl, ?_, ((((Kept.refl (fun k => k = g) w).setCell (p := ⟨g, 4, none⟩) rfl _).setCell (p := ⟨g, 5, none⟩) rfl _).setCell (p := ⟨g, 4, none⟩) rfl _).setCell (p := ⟨g, 5, none⟩) rfl _⟩
    exact blk_set (j := 5) (blk_set (j := 4) (blk_set (j := 5) (blk_set (j := 4) HB.out _) _) _) _
  · rw [decide_eq_false hz, if_neg hz]
    go_enter Try.func22, Try.ntmps22
    go_wp2
    go_returns
    refine ⟨rfl, ?_, ((Kept.refl (fun k => k = g) w).setCell (p := ⟨g, 4, none⟩) rfl _).setCell (p := ⟨g, 5, none⟩) rfl _⟩
    exact blk_set (j := 5) (blk_set (j := 4) HB.out _) _
/-- What a Write leaves. -/
structure WroteY (n pb c pc rb rc g i m : Nat) (qv : Value) (qs xs : List Value) (lim : Bool) (lf : Int) (r wn f : Nat) (l : List UInt8) (w w' : World) : Prop where
  ex : ∃ u gq qc, Own w' u l w.heap.size ∧ w'.heap[g]? = some (.cells (DP n pb c pc rb rc (.slice (some ⟨gq, 0, none⟩) (m + 1) qc) lim (spL lim lf) r (wn + 1) f) 74 (0, 0)) ∧
      w'.ownsRow 0 22 1 (.slice (some ⟨rb, 0, none⟩) c rc) c (xs.set i u) ∧ w'.ownsRow 0 58 2 (.slice (some ⟨gq, 0, none⟩) (m + 1) qc) (m + 1) (qs ++ [.int .i64 i, u]) ∧ Kept (fun k => k = g ∨ k = rb ∨ qv.ownBlock = some k) w w' ∧ (qv.ownBlock = some gq ∨ w.heap.size ≤ gq)
set_option maxHeartbeats 1000000 in
set_option maxRecDepth 100000 in
theorem y_write (n pb c pc rb rc g i m : Nat) (qv : Value) (qs xs : List Value) (lim : Bool) (lf : Int) (hng : ¬ (lim = true ∧ lf = 0)) (hf0 : 0 ≤ lf) (hf1 : lf ≤ 9223372036854775807) (r wn f : Nat) (v : Value) (l : List UInt8) (w : World)
    (hb : w.heap[g]? = some (.cells (DP n pb c pc rb rc qv lim lf r wn f) 74 (0, 0))) (ho : w.ownsRow 0 22 1 (.slice (some ⟨rb, 0, none⟩) c rc) c xs) (hq : w.ownsRow 0 58 2 qv m qs)
    (hv : Byt w v l) (hvn : ∀ a k cap, v = .slice (some a) k cap → a.block ≠ g) (hl : l.length = n) (hi : i < c) (hn : n ≤ 4096) (hm : m ≤ 4398046511102) (hw : wn ≤ 4398046511104) :
    Calls Try.prog 23 #[.pointer (some ⟨g, 0, none⟩), .int .i64 i, v] w fun e w' => e = .returned (.int .i64 0) ∧ WroteY n pb c pc rb rc g i m qv qs xs lim lf r wn f l w w' := by
  subst hl
  have c0 : w.cell? ⟨g, 0, none⟩ = some (.int .i64 l.length) := blk_cell hb
  have c1 : w.cell? ⟨g, 1, none⟩ = some (.slice (some ⟨pb, 0, none⟩) c pc) := blk_cell hb
  have A := hidden (d_has g pb c pc i w c1 hi)
  have B := hidden (y_spend _ pb c pc rb rc g qv lim lf hng hf0 hf1 r wn f w hb)
  have hvk : ∀ w1, Kept (fun k => k = g) w w1 → Byt w1 v l := fun w1 k => hv.kept' k hvn
  obtain ⟨a, cap, rfl⟩ := hv.form
  have HV := hidden hvk
  obtain ⟨i0, hi0, hz0, hz1, hz2⟩ := info_parts infoSec
  have HO0 := hidden ho
  have HQ0 := hidden hq
  have ngq := hidden (own_apart hq hb (by decide))
  have m1 : Hid (m + 1 ≤ maxLen) := by rw [Hid]; unfold maxLen; omega
  have m2 : Hid ((m + 1) * 32 ≤ 140737488355328) := by rw [Hid]; omega
  have hxl : xs.length = c := by simpa using ho.1
  have hgl : g < w.heap.size := blk_lt hb
  have hrl : rb < w.heap.size := (ho.lt rb rfl).2
  have hne : rb ≠ g := fun e => own_apart ho hb (by decide) (by rw [← e]; rfl)
  have hne2 : g ≠ rb := hne.symm
  have hql : ∀ k, qv.ownBlock = some k → k < w.heap.size := fun k hk => (hq.lt k hk).2
  obtain ⟨x, hx⟩ : ∃ x, xs[i]? = some x := ⟨xs[i], List.getElem?_eq_getElem (by omega)⟩
  have q0 : (0 : Int) ≤ (i : Int) := Int.natCast_nonneg _
  have q1 : (i : Int) < (c : Int) := by omega
  have HQL := hidden hql
  clear hql
  clear hb ho hq hv hvk hvn
  go_enter Try.func23, Try.ntmps23
  go_wp2_with (first
    | (go_at_call 43; refine (A.out).mono ?_; rintro e w1 ⟨rfl, rfl⟩)
    | (go_at_call 44; refine (B.out).mono ?_; rintro e w1 ⟨rfl, b1, k1⟩; have HB := hidden b1; have HO := hidden (own_kept HO0.out k1 (fun k hk e => by simp [Value.ownBlock] at hk; omega)); have HQ := hidden (own_kept HQ0.out k1 (fun k hk e => ngq.out (by rw [hk, e]))); have C := hidden (d_sectorOf _ l w1 (HV.out w1 k1) (by omega)); have KK := hidden k1; have hsz := k1.size; clear b1 k1 B)
    | (go_at_call 40; refine (C.out).mono ?_; rintro e w2 ⟨u, rfl, hu, k2⟩; have HU := hidden hu; obtain ⟨ua, uc, hue⟩ := hu.byt.form; subst hue; clear hu; have b2 := blk_kept k2 (fun h => h) HB.out; have d3 : w2.cell? ⟨g, 3, none⟩ = some qv := blk_cell b2; have d7 : w2.cell? ⟨g, 7, none⟩ = some (.int .i64 wn) := blk_cell b2; have B2 := hidden b2; clear b2)
    | (at_builtin; go_must (refine wpList_append_lies _ (by rfl) _ _ 33 (by rfl) 0 58 i0 _ 2 32 Try.underlying33 hi0 hz0 hz1 hz2 rfl (by decide) _ _ _ (by rfl) ((own_kept HQ.out k2 (fun _ _ h => h)).alloc _) ⟨w2.heap.size, 0, none⟩ 1 1 _ (by rfl) (by rfl) (World.news_of_block (heap_alloc_new w2 _)) (by simp [Value.oneCell']) (by decide) m1.out m2.out (Nat.zero_le _) (w2.heap.size + 1) (by simp) ?_); intro gq qc w5 hown5 hgrow5 hat5 hlt5; have ng := own_apart (own_kept HQ.out k2 (fun _ _ h => h)) B2.out (by decide); have b5 : w5.heap[g]? = _ := (hgrow5.block g (by have := blk_lt B2.out; simp; omega) (Ne.symm ng)).trans (blk_alloc B2.out _); have e2 : w5.cell? ⟨g, 2, none⟩ = some (.slice (some ⟨rb, 0, none⟩) c rc) := blk_cell b5; have e7 : w5.cell? ⟨g, 7, none⟩ = some (.int .i64 wn) := blk_cell b5; have f3 : w5.frozen? ⟨g, 3, none⟩ = false := blk_free b5; have e3 : w5.cell? ⟨g, 3, none⟩ = some qv := blk_cell b5; have f7 : w5.frozen? ⟨g, 7, none⟩ = false := blk_free b5; have B5 := hidden b5; clear b5; have o5 := hidden (((own_kept HO.out k2 (fun _ _ h => h)).alloc (.cells #[.int .i64 (i : Int), .slice ua l.length uc] 58)).kept hgrow5 (own_rows (own_kept HO.out k2 (fun _ _ h => h)) (own_kept HQ.out k2 (fun _ _ h => h)) (by decide))); have ox := (own_cell o5.out x hx).1; have of := (own_cell o5.out x hx).2))
  go_returns
  have K5 : Kept (fun k => k = g ∨ k = rb ∨ qv.ownBlock = some k) w2 w5 := ((Kept.refl (fun k => k = g ∨ k = rb ∨ qv.ownBlock = some k) w2).alloc _).grown hgrow5 (fun k hk _ => Or.inr (Or.inr hk))
  have K8 := ((K5.setCell (p := ⟨g, 3, none⟩) (Or.inl rfl) (.slice (some ⟨gq, 0, none⟩) (m + 1) qc)).setCell (p := ⟨rb, i, none⟩) (Or.inr (Or.inl rfl)) (.slice ua l.length uc)).setCell (p := ⟨g, 7, none⟩) (Or.inl rfl) (.int .i64 ((wn : Int) + 1))
  have n1 : ∀ (j : Nat) (c : Value) (W : World), W.heap[rb]? = ((W.setCell ⟨g, j, none⟩ c).heap[rb]?) := fun j c W => (Below.heap_setCell _ _ _ _ hne).symm
  have ng : gq ≠ g ∧ gq ≠ rb := ⟨fun e => own_apart hown5 B5.out (by decide) (by rw [← e]; rfl), fun e => by
    rcases own_rows hown5 o5.out (by decide) with h | h
    · cases h
    · exact h (by rw [e]; rfl)⟩
  refine ⟨rfl, ⟨.slice ua l.length uc, gq, qc, (HU.out.kept K8 (fun j cs hj hb hs => ?_)).weak hsz, ?_, ?_, ?_, (KK.out.mono (fun _ _ h => Or.inl h)).trans' ((k2.mono (fun _ _ h => h.elim)).trans' K8 (fun _ _ h => h)) (fun _ _ h => h), hat5.imp id (fun h => by have := k2.size; omega)⟩⟩
  · rcases hs with rfl | rfl | hs
    · omega
    · omega
    · have := HQL.out j hs; omega
  · have b6 : (w5.setCell ⟨g, 3, none⟩ (.slice (some ⟨gq, 0, none⟩) (m + 1) qc)).heap[g]? = _ := blk_set (j := 3) B5.out _
    have b7 : ((w5.setCell ⟨g, 3, none⟩ (.slice (some ⟨gq, 0, none⟩) (m + 1) qc)).setCell ⟨rb, i, none⟩ (.slice ua l.length uc)).heap[g]? = _ := (Below.heap_setCell _ _ _ _ hne2).trans b6
    exact blk_set (j := 7) b7 _
  · refine own_kept (S := fun k => k = g) (own_set (own_kept (S := fun k => k = g) o5.out ((Kept.refl (fun k => k = g) _).setCell (p := ⟨g, 3, none⟩) rfl _) (fun k hk e => ?_)) hi _) ((Kept.refl (fun k => k = g) _).setCell (p := ⟨g, 7, none⟩) rfl _) (fun k hk e => ?_)
    · simp [Value.ownBlock] at hk; omega
    · simp [Value.ownBlock] at hk; omega
  · refine own_kept (S := fun k => k = g ∨ k = rb) hown5 ((((Kept.refl (fun k => k = g ∨ k = rb) w5).setCell (p := ⟨g, 3, none⟩) (Or.inl rfl) _).setCell (p := ⟨rb, i, none⟩) (Or.inr rfl) _).setCell (p := ⟨g, 7, none⟩) (Or.inl rfl) _) (fun k hk e => ?_)
    simp [Value.ownBlock] at hk
    have := ng.1; have := ng.2
    omega
set_option maxHeartbeats 1000000 in
set_option maxRecDepth 100000 in
theorem y_writeOff (n pb c pc rb rc g i : Nat) (qv : Value) (r wn f : Nat) (v : Value) (l : List UInt8) (w : World)
    (hb : w.heap[g]? = some (.cells (DP n pb c pc rb rc qv true 0 r wn f) 74 (0, 0))) (hv : Byt w v l) (hl : l.length = n) (hi : i < c) :
    Calls Try.prog 23 #[.pointer (some ⟨g, 0, none⟩), .int .i64 i, v] w fun e w' => e = .returned (.int .i64 0) ∧ w = w' := by
  subst hl
  have c0 : w.cell? ⟨g, 0, none⟩ = some (.int .i64 l.length) := blk_cell hb
  have c1 : w.cell? ⟨g, 1, none⟩ = some (.slice (some ⟨pb, 0, none⟩) c pc) := blk_cell hb
  have A := hidden (d_has g pb c pc i w c1 hi)
  have B := hidden (y_spendNo g w (blk_cell hb) (blk_cell hb))
  obtain ⟨a, cap, rfl⟩ := hv.form
  clear hb hv
  go_enter Try.func23, Try.ntmps23
  go_wp2_with (first
    | (go_at_call 43; refine (A.out).mono ?_; rintro e w1 ⟨rfl, rfl⟩)
    | (go_at_call 44; refine (B.out).mono ?_; rintro e w1 ⟨rfl, rfl⟩))
  go_returns
  exact ⟨rfl, rfl⟩
set_option maxHeartbeats 1000000 in
set_option maxRecDepth 100000 in
theorem y_writeLen (n pb c pc rb rc g i : Nat) (qv : Value) (lim : Bool) (lf : Int) (r wn f : Nat) (v : Value) (l : List UInt8) (w : World)
    (hb : w.heap[g]? = some (.cells (DP n pb c pc rb rc qv lim lf r wn f) 74 (0, 0))) (hv : Byt w v l) (hl : l.length ≠ n) (hi : i < c) :
    Calls Try.prog 23 #[.pointer (some ⟨g, 0, none⟩), .int .i64 i, v] w fun e w' => e = .returned (.int .i64 30) ∧ w = w' := by
  have c0 : w.cell? ⟨g, 0, none⟩ = some (.int .i64 n) := blk_cell hb
  have c1 : w.cell? ⟨g, 1, none⟩ = some (.slice (some ⟨pb, 0, none⟩) c pc) := blk_cell hb
  have A := hidden (d_has g pb c pc i w c1 hi)
  obtain ⟨a, cap, rfl⟩ := hv.form
  have hne : (l.length : Int) ≠ (n : Int) := by omega
  have hnb : ((l.length : Int) == (n : Int)) = false := by simp; omega
  clear hb hv
  go_enter Try.func23, Try.ntmps23
  go_wp2_with (go_at_call 43; refine (A.out).mono ?_; rintro e w1 ⟨rfl, rfl⟩)
  go_returns
  exact ⟨rfl, rfl⟩
end Go.Proofs.Yteoajgphahobiaa
