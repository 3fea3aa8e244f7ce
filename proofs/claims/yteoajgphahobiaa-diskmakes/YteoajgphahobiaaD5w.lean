/- disk: D5w of a Disk whose power lasts. -/
import Derived.Test.YteoajgphahobiaaD4
namespace Go.Proofs.Yteoajgphahobiaa
open Go.RowKit
set_option linter.unusedVariables false

/-- What a Write leaves. -/
structure Wrote (n pb c pc rb rc g i m : Nat) (qv : Value) (qs xs : List Value) (r wn f : Nat) (l : List UInt8) (w w' : World) : Prop where
  ex : ∃ u gq qc, Own w' u l w.heap.size ∧ w'.heap[g]? = some (.cells (DC n pb c pc rb rc (.slice (some ⟨gq, 0, none⟩) (m + 1) qc) r (wn + 1) f) 74 (0, 0)) ∧
      w'.ownsRow 0 22 1 (.slice (some ⟨rb, 0, none⟩) c rc) c (xs.set i u) ∧ w'.ownsRow 0 58 2 (.slice (some ⟨gq, 0, none⟩) (m + 1) qc) (m + 1) (qs ++ [.int .i64 i, u]) ∧ Kept (fun k => k = g ∨ k = rb ∨ qv.ownBlock = some k) w w' ∧ (qv.ownBlock = some gq ∨ w.heap.size ≤ gq)
set_option maxHeartbeats 1000000 in
set_option maxRecDepth 100000 in
theorem d_write (n pb c pc rb rc g i m : Nat) (qv : Value) (qs xs : List Value) (r wn f : Nat) (v : Value) (l : List UInt8) (w : World)
    (hb : w.heap[g]? = some (.cells (DC n pb c pc rb rc qv r wn f) 74 (0, 0))) (ho : w.ownsRow 0 22 1 (.slice (some ⟨rb, 0, none⟩) c rc) c xs) (hq : w.ownsRow 0 58 2 qv m qs)
    (hv : Byt w v l) (hl : l.length = n) (hi : i < c) (hn : n ≤ 4096) (hm : m ≤ 4398046511102) (hw : wn ≤ 4398046511104) :
    Calls Try.prog 23 #[.pointer (some ⟨g, 0, none⟩), .int .i64 i, v] w fun e w' => e = .returned (.int .i64 0) ∧ Wrote n pb c pc rb rc g i m qv qs xs r wn f l w w' := by
  subst hl
  have c0 : w.cell? ⟨g, 0, none⟩ = some (.int .i64 l.length) := blk_cell hb
  have c1 : w.cell? ⟨g, 1, none⟩ = some (.slice (some ⟨pb, 0, none⟩) c pc) := blk_cell hb
  have c4 : w.cell? ⟨g, 4, none⟩ = some (.bool false) := blk_cell hb
  have A := hidden (d_has g pb c pc i w c1 hi)
  have B := hidden (d_spend g w c4)
  have C := hidden (d_sectorOf v l w hv (by omega))
  obtain ⟨a, cap, rfl⟩ := hv.form
  obtain ⟨i0, hi0, hz0, hz1, hz2⟩ := info_parts infoSec
  have HB := hidden hb
  have HO := hidden ho
  have HQ := hidden hq
  have m1 : Hid (m + 1 ≤ maxLen) := by rw [Hid]; unfold maxLen; omega
  have m2 : Hid ((m + 1) * 32 ≤ 140737488355328) := by rw [Hid]; omega
  have hxl : xs.length = c := by simpa using ho.1
  have hgl : g < w.heap.size := blk_lt hb
  have hrl : rb < w.heap.size := (ho.lt rb rfl).2
  have hne : rb ≠ g := fun e => own_apart ho hb (by decide) (by rw [← e]; rfl)
  have hne2 : g ≠ rb := hne.symm
  have hql : ∀ k, qv.ownBlock = some k → k < w.heap.size := fun k hk => (hq.lt k hk).2
  obtain ⟨x, hx⟩ : ∃ x, xs[i]? = some x := ⟨xs[i], List.getElem?_eq_getElem (by omega)⟩
  have q0 : (0 : Int) ≤ (i : Int) := Int.natCast_nonneg _
  have q1 : (i : Int) < (c : Int) := by omega
  have HQL := hidden hql
  clear hql
  clear hb ho hq hv
  go_enter Try.func23, Try.ntmps23
  go_wp2_with (first
    | (go_at_call 43; refine (A.out).mono ?_; rintro e w1 ⟨rfl, rfl⟩)
    | (go_at_call 44; refine (B.out).mono ?_; rintro e w1 ⟨rfl, rfl⟩)
    | (go_at_call 40; refine (C.out).mono ?_; rintro e w2 ⟨u, rfl, hu, k2⟩; have HU := hidden hu; obtain ⟨ua, uc, hue⟩ := hu.byt.form; subst hue; clear hu; have b2 := blk_kept k2 (fun h => h) HB.out; have d3 : w2.cell? ⟨g, 3, none⟩ = some qv := blk_cell b2; have d7 : w2.cell? ⟨g, 7, none⟩ = some (.int .i64 wn) := blk_cell b2; have B2 := hidden b2; clear b2)
    | (at_builtin; go_must (refine wpList_append_lies _ (by rfl) _ _ 33 (by rfl) 0 58 i0 _ 2 32 Try.underlying33 hi0 hz0 hz1 hz2 rfl (by decide) _ _ _ (by rfl) ((own_kept HQ.out k2 (fun _ _ h => h)).alloc _) ⟨w2.heap.size, 0, none⟩ 1 1 _ (by rfl) (by rfl) (World.news_of_block (heap_alloc_new w2 _)) (by simp [Value.oneCell']) (by decide) m1.out m2.out (Nat.zero_le _) (w2.heap.size + 1) (by simp) ?_); intro gq qc w5 hown5 hgrow5 hat5 hlt5; have ng := own_apart (own_kept HQ.out k2 (fun _ _ h => h)) B2.out (by decide); have b5 : w5.heap[g]? = _ := (hgrow5.block g (by have := blk_lt B2.out; simp; omega) (Ne.symm ng)).trans (blk_alloc B2.out _); have e2 : w5.cell? ⟨g, 2, none⟩ = some (.slice (some ⟨rb, 0, none⟩) c rc) := blk_cell b5; have e7 : w5.cell? ⟨g, 7, none⟩ = some (.int .i64 wn) := blk_cell b5; have f3 : w5.frozen? ⟨g, 3, none⟩ = false := blk_free b5; have e3 : w5.cell? ⟨g, 3, none⟩ = some qv := blk_cell b5; have f7 : w5.frozen? ⟨g, 7, none⟩ = false := blk_free b5; have B5 := hidden b5; clear b5; have o5 := hidden (((own_kept HO.out k2 (fun _ _ h => h)).alloc (.cells #[.int .i64 (i : Int), .slice ua l.length uc] 58)).kept hgrow5 (own_rows (own_kept HO.out k2 (fun _ _ h => h)) (own_kept HQ.out k2 (fun _ _ h => h)) (by decide))); have ox := (own_cell o5.out x hx).1; have of := (own_cell o5.out x hx).2))
  go_returns
  have K5 : Kept (fun k => k = g ∨ k = rb ∨ qv.ownBlock = some k) w2 w5 := ((Kept.refl (fun k => k = g ∨ k = rb ∨ qv.ownBlock = some k) w2).alloc _).grown hgrow5 (fun k hk _ => Or.inr (Or.inr hk))
  have K8 := ((K5.setCell (p := ⟨g, 3, none⟩) (Or.inl rfl) (.slice (some ⟨gq, 0, none⟩) (m + 1) qc)).setCell (p := ⟨rb, i, none⟩) (Or.inr (Or.inl rfl)) (.slice ua l.length uc)).setCell (p := ⟨g, 7, none⟩) (Or.inl rfl) (.int .i64 ((wn : Int) + 1))
  have n1 : ∀ (j : Nat) (c : Value) (W : World), W.heap[rb]? = ((W.setCell ⟨g, j, none⟩ c).heap[rb]?) := fun j c W => (Below.heap_setCell _ _ _ _ hne).symm
  have ng : gq ≠ g ∧ gq ≠ rb := ⟨fun e => own_apart hown5 B5.out (by decide) (by rw [← e]; rfl), fun e => by
    rcases own_rows hown5 o5.out (by decide) with h | h
    · cases h
    · exact h (by rw [e]; rfl)⟩
  refine ⟨rfl, ⟨.slice ua l.length uc, gq, qc, HU.out.kept K8 (fun j cs hj hb hs => ?_), ?_, ?_, ?_, (k2.mono (fun _ _ h => h.elim)).trans' K8 (fun _ _ h => h), hat5.imp id (fun h => by have := k2.size; omega)⟩⟩
  · rcases hs with rfl | rfl | hs
    · omega
    · omega
    · have := HQL.out j hs; omega
  · have b6 : (w5.setCell ⟨g, 3, none⟩ (.slice (some ⟨gq, 0, none⟩) (m + 1) qc)).heap[g]? = _ := blk_set (j := 3) B5.out _
    have b7 : ((w5.setCell ⟨g, 3, none⟩ (.slice (some ⟨gq, 0, none⟩) (m + 1) qc)).setCell ⟨rb, i, none⟩ (.slice ua l.length uc)).heap[g]? = _ := (Below.heap_setCell _ _ _ _ hne2).trans b6
    exact blk_set (j := 7) b7 _
  · refine own_kept (S := fun k => k = g) (own_set (own_kept (S := fun k => k = g) o5.out ((Kept.refl (fun k => k = g) _).setCell (p := ⟨g, 3, none⟩) rfl _) (fun k hk e => ?_)) hi _) ((Kept.refl (fun k => k = g) _).setCell (p := ⟨g, 7, none⟩) rfl _) (fun k hk e => ?_)
    · simp [Value.ownBlock] at hk; omega
    · simp [Value.ownBlock] at hk; omega
  · refine own_kept (S := fun k => k = g ∨ k = rb) hown5 ((((Kept.refl (fun k => k = g ∨ k = rb) w5).setCell (p := ⟨g, 3, none⟩) (Or.inl rfl) _).setCell (p := ⟨rb, i, none⟩) (Or.inr rfl) _).setCell (p := ⟨g, 7, none⟩) (Or.inl rfl) _) (fun k hk e => ?_)
    simp [Value.ownBlock] at hk
    have := ng.1; have := ng.2
    omega
end Go.Proofs.Yteoajgphahobiaa
