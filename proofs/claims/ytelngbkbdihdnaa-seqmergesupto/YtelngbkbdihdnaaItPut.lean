/- The document's Put. -/
import Derived.Test.YtelngbkbdihdnaaItP
namespace Go.Proofs.Ytelngbkbdihdnaa
open Go.RowKit
set_option linter.unusedVariables false
theorem alloc_size1 (w : World) (o : Obj) : (w.alloc o).heap.size = w.heap.size + 1 := by simp
theorem two_set {W : World} {g : Nat} {a b : Value} {t : TypeId} (h : W.heap[g]? = some (.cells #[a, b] t (0, 0))) (x y : Value) :
    ((W.setCell ⟨g, 0, none⟩ x).setCell ⟨g, 1, none⟩ y).cell? ⟨g, 0, none⟩ = some x ∧ ((W.setCell ⟨g, 0, none⟩ x).setCell ⟨g, 1, none⟩ y).cell? ⟨g, 1, none⟩ = some y ∧ Kept (fun k => k = g) W ((W.setCell ⟨g, 0, none⟩ x).setCell ⟨g, 1, none⟩ y) := by
  have h1 := blk_set (j := 0) h x
  have h2 := blk_set (j := 1) h1 y
  exact ⟨blk_cell h2, blk_cell h2, ((Kept.refl (fun k => k = g) _).setCell (p := ⟨g, 0, none⟩) rfl _).setCell (p := ⟨g, 1, none⟩) rfl _⟩
/-- A row of items as a result. -/
theorem itr_end {w w1 w4 W' : World} {g n : Nat} {u : Value} {l : List Kv} (r1 : Same w w1) (r4 : Same w1 w4) (o : w4.ownsRow w1.heap.size 70 2 u n (flat l)) (hn : l.length = n) (hg : w.heap.size ≤ g) (hg1 : g < w1.heap.size) (k : Kept (fun k => k = g) w4 W') : ItR w.heap.size W' u l ∧ Same w W' := by
  refine ⟨?_, Kept.trans' (r1.trans r4) k (fun q hq e => by omega)⟩
  subst hn
  exact own_mono (own_kept o k (fun q hq e => by have := (o.lt q hq).1; omega)) r1.size
set_option maxHeartbeats 4000000 in
set_option maxRecDepth 100000 in
theorem putD_none (k : ByteArray) (y : Int) {l : List Kv} {v : Value} {w : World} (h : ItR 0 w v l) (hs : Srt l) (hl : (l.length + 1) * 24 ≤ 140737488355328) (hlk : lk k l = none) :
    Calls Try.prog 51 #[v, It k y] w fun e w' => ∃ u, e = .returned (.tuple #[u, It ByteArray.empty 0, .bool false]) ∧ ItR w.heap.size w' u (insL k y l) ∧ Same w w' := by
  have HR : Hid (∀ W, Same w W → ItR 0 W v l) := fun W kk => h.same kk
  obtain ⟨a0, c0, rfl, hc0, hb⟩ := h.form
  have HB := hidden hb
  have HE := hidden (ins_at (k := k) (y := y) hs)
  have HS := hidden hs
  rw [hlk] at HE
  obtain ⟨n, hn⟩ : ∃ n, l.length = n := ⟨_, rfl⟩
  obtain ⟨i, hi⟩ : ∃ i, rkL k l = i := ⟨_, rfl⟩
  have hin : i ≤ n := by rw [← hi, ← hn]; exact rk_le _ _
  obtain ⟨i0, hi0, hz0, hz1, hz2⟩ := info_parts infoItem
  have HF : Hid (∀ W, Same w W → Calls Try.prog 40 #[.slice a0 n c0, .string k] W fun e w' => e = .returned (.tuple #[.int .i64 i, .bool false]) ∧ Same W w') := fun W kk => by
    have := findD_any k (HR.out W kk).its HS.out (by omega)
    rw [hlk, hi, hn] at this
    exact this
  have HN := hidden hn
  have HI := hidden hi
  rw [hi] at HE
  rw [hn] at hl hc0 ⊢
  clear h hb hs hn hi hlk
  have q1 : (i : Int) ≤ (n : Int) := by omega
  have q2 : (i : Int) ≤ (c0 : Int) := by omega
  have q3 : (0 : Int) ≤ (i : Int) := Int.natCast_nonneg _
  have HR2 : Hid (∀ W, Same w W → ItR 0 W (.slice a0 n c0) l) := fun W kk => by have := HR.out W kk; rw [HN.out] at this; exact this
  obtain ⟨p1, S1, L1⟩ := its_head HR2.out HN.out hin (i : Int) rfl
  obtain ⟨p2, S2, L2⟩ := its_tail HR2.out HN.out hin (i : Int) rfl
  go_enter Try.func51, Try.ntmps51
  have t1 : True := trivial
  have t2 : True := trivial
  go_wp2_with (first
    | (go_at_call 40; go_must (refine (HF.out _ (((Kept.refl _ w).alloc _).alloc _)).mono ?_; rintro e w1 ⟨rfl, k1⟩; have R1 := hidden (Kept.trans (((Kept.refl (fun _ => False) w).alloc _).alloc _) k1); have B1 := hidden (blk_kept k1 (fun h => h) (blk_alloc (heap_alloc_new w _) _)); have B2 := hidden (blk_kept k1 (fun h => h) (heap_alloc_new (w.alloc _) _)); clear k1; have O1 : Hid ((w1.alloc (.cells #[] 70)).ownsRow w1.heap.size 70 2 (.slice (some ⟨w1.heap.size, 0, none⟩) 0 0) 0 []) := World.ownsRow_made w1 #[] 0 (Nat.le_refl _) (by decide) (by decide)))
    | (at_builtin; have _t := t1; go_must (refine wpList_append_any (by rfl) _ _ 42 (by rfl) w1.heap.size 70 i0 _ 2 24 Try.underlying42 hi0 hz0 hz1 hz2 rfl (by decide) _ _ _ _ (by rfl) O1.out p1 i c0 (flat (l.take i)) (by rfl) (by rw [flat_len, List.length_take]; have := HN.out; omega) (L1.out _ (R1.out.alloc _)) (flat_one _) (by unfold maxLen; omega) (by omega) (by simp) ?_; intro a2 c2 w2 hown hgrow; have R2 := hidden (same_grown (m := 0) (same_alloc _ _) O1.out hgrow); rw [Nat.zero_add, List.nil_append] at hown; have O2 := hidden hown; have b2 := blk_kept R2.out (fun h => h) B1.out; have c20 : w2.cell? ⟨w.heap.size, 0, none⟩ = some (.string k) := blk_cell b2; have c21 : w2.cell? ⟨w.heap.size, 1, none⟩ = some (.int .i64 y) := blk_cell b2; clear t1 hown hgrow b2))
    | (at_builtin; have _t := t2; go_must (refine wpList_append_any (by rfl) _ _ 42 (by rfl) w1.heap.size 70 i0 _ 2 24 Try.underlying42 hi0 hz0 hz1 hz2 rfl (by decide) _ _ _ _ (by rfl) (O2.out.alloc _) _ 1 1 (flat [(k, y)]) (by rfl) (by rfl) (lies_of (World.news_of_block (heap_alloc_new w2 _))) (flat_one _) (by unfold maxLen; omega) (by omega) (by have := R2.out.size; simp; omega) ?_; intro a3 c3 w3 hown hgrow; have R3 := hidden (same_grown (m := 0) (R2.out.alloc _) (O2.out.alloc _) hgrow); rw [← flat_app] at hown; have O3 := hidden hown; clear t2 hown hgrow))
    | (at_builtin; go_must (refine wpList_append_any (by rfl) _ _ 42 (by rfl) w1.heap.size 70 i0 _ 2 24 Try.underlying42 hi0 hz0 hz1 hz2 rfl (by decide) _ _ _ _ (by rfl) O3.out p2 (n - i) (c0 - i) (flat (l.drop i)) (by rfl) (by rw [flat_len, List.length_drop]; have := HN.out; omega) (L2.out _ (R1.out.trans R3.out)) (flat_one _) (by unfold maxLen; omega) (by omega) R3.out.size ?_; intro a4 c4 w4 hown hgrow; have R4 := hidden (same_grown (m := 0) R3.out O3.out hgrow); rw [← flat_app] at hown; have O4 := hidden hown; have b4 := blk_kept R4.out (fun h => h) B2.out; simp only [alloc_size1] at b4; have B4 := hidden b4; have c40 : w4.cell? ⟨w.heap.size + 1, 0, none⟩ = some (.string { data := #[] }) := blk_cell b4; have c41 : w4.cell? ⟨w.heap.size + 1, 1, none⟩ = some (.int .i64 0) := blk_cell b4; have c42 : w4.frozen? ⟨w.heap.size + 1, 0, none⟩ = false := blk_free b4; have c43 : w4.frozen? ⟨w.heap.size + 1, 1, none⟩ = false := blk_free b4; clear hown hgrow b4))
    )
  obtain ⟨d0, d1, kd⟩ := two_set B4.out (.string { data := #[] }) (.int .i64 0)
  have hgl : w.heap.size + 1 < w1.heap.size := by have := blk_lt B2.out; simpa using this
  generalize ((w4.setCell { block := w.heap.size + 1, off := 0 } (Value.string { data := #[] })).setCell { block := w.heap.size + 1, off := 1 } (Value.int IntKind.i64 0)) = W5 at d0 d1 kd ⊢
  have he := HE.out
  simp at he
  have hz := itr_end (l := insL k y l) R1.out R4.out (by rw [he]; simpa using O4.out) (by rw [he]; have := HN.out; simp; omega) (by omega) hgl kd
  refine bodyPost_ret (v := .tuple #[.slice a4 (i + 1 + (n - i)) c4, It ByteArray.empty 0, .bool false]) ?_ rfl ⟨_, rfl, hz⟩
  simp [results, Try.results51, go_sem, d0, d1]
  rfl
end Go.Proofs.Ytelngbkbdihdnaa
