/- The document's Put and Delete where the key is there. (Made by mkput.py.) -/
import Derived.Test.YtelngbkbdihdnaaItPut
namespace Go.Proofs.Ytelngbkbdihdnaa
open Go.RowKit
set_option linter.unusedVariables false
theorem ownsRow_drew0 {w : World} {base : Nat} {e : TypeId} {size : Nat} {v : Value} {n : Nat} {xs : List Value} (h : w.ownsRow base e size v n xs) : w.drew.ownsRow base e size v n xs := h
set_option maxHeartbeats 4000000 in
set_option maxRecDepth 100000 in
theorem putD_some (k : ByteArray) (y : Int) {l : List Kv} {v : Value} {w : World} (h : ItR 0 w v l) (hs : Srt l) (hl : (l.length + 1) * 24 ≤ 140737488355328) {z : Int} (hlk : lk k l = some z) :
    Calls Try.prog 51 #[v, It k y] w fun e w' => ∃ u, e = .returned (.tuple #[u, It k z, .bool true]) ∧ ItR w.heap.size w' u (insL k y l) ∧ Same w w' := by
  have HR : Hid (∀ W, Same w W → ItR 0 W v l) := fun W kk => h.same kk
  obtain ⟨a0, c0, rfl, hc0, hb⟩ := h.form
  have HB := hidden hb
  have HE := hidden (ins_at (k := k) (y := y) hs)
  have HS := hidden hs
  have HA := hidden (lk_rk hs hlk)
  rw [hlk] at HE
  obtain ⟨n, hn⟩ : ∃ n, l.length = n := ⟨_, rfl⟩
  obtain ⟨i, hi⟩ : ∃ i, rkL k l = i := ⟨_, rfl⟩
  have hin : i ≤ n := by rw [← hi, ← hn]; exact rk_le _ _
  obtain ⟨i0, hi0, hz0, hz1, hz2⟩ := info_parts infoItem
  have HF : Hid (∀ W, Same w W → Calls Try.prog 40 #[.slice a0 n c0, .string k] W fun e w' => e = .returned (.tuple #[.int .i64 i, .bool true]) ∧ Same W w') := fun W kk => by
    have := findD_any k (HR.out W kk).its HS.out (by omega)
    rw [hlk, hi, hn] at this
    exact this
  have HN := hidden hn
  have HI := hidden hi
  rw [hi] at HE HA
  rw [hn] at hl hc0 ⊢
  clear h hb hs hn hi hlk
  have q1 : (i : Int) ≤ (n : Int) := by omega
  have q2 : (i : Int) ≤ (c0 : Int) := by omega
  have q3 : (0 : Int) ≤ (i : Int) := Int.natCast_nonneg _
  have HR2 : Hid (∀ W, Same w W → ItR 0 W (.slice a0 n c0) l) := fun W kk => by have := HR.out W kk; rw [HN.out] at this; exact this
  obtain ⟨p1, S1, L1⟩ := its_head HR2.out HN.out hin (i : Int) rfl
  have hil : i < n := by obtain ⟨hh, _⟩ := List.getElem?_eq_some_iff.1 HA.out; rw [HN.out] at hh; exact hh
  obtain ⟨p2, S2, L2⟩ := its_tail (i := i + 1) HR2.out HN.out (by omega) ((i : Int) + 1) (by omega)
  obtain ⟨b, rfl⟩ := HB.out (by rw [HN.out]; omega)
  have HC : Hid (∀ W, Same w W → W.cell? ⟨b, i * 2, none⟩ = some (.string k) ∧ W.cell? ⟨b, i * 2 + 1, none⟩ = some (.int .i64 z)) := fun W kk => by
    have h1 := (HR2.out W kk).at i (by rw [HN.out]; exact hil)
    have h2 : l[i]'(by rw [HN.out]; exact hil) = (k, z) := (List.getElem?_eq_some_iff.1 HA.out).2
    rw [h2] at h1
    exact h1
  obtain ⟨G, hG⟩ : ∃ G, w.heap.size + 1 = G := ⟨_, rfl⟩
  have q4 : (i : Int) < (n : Int) := by omega
  have q5 : (i : Int) + 1 ≤ (n : Int) := by omega
  go_enter Try.func51, Try.ntmps51
  have t1 : True := trivial
  have t2 : True := trivial
  go_wp2_with (first
    | (go_at_call 40; go_must (refine (HF.out _ (((Kept.refl _ w).alloc _).alloc _)).mono ?_; rintro e w1 ⟨rfl, k1⟩; have R1 := hidden (Kept.trans (((Kept.refl (fun _ => False) w).alloc _).alloc _) k1); have B1 := hidden (blk_kept k1 (fun h => h) (blk_alloc (heap_alloc_new w _) _)); have B2 := hidden (blk_kept k1 (fun h => h) (heap_alloc_new (w.alloc _) _)); clear k1; have O1 : Hid ((w1.alloc (.cells #[] 70)).ownsRow w1.heap.size 70 2 (.slice (some ⟨w1.heap.size, 0, none⟩) 0 0) 0 []) := World.ownsRow_made w1 #[] 0 (Nat.le_refl _) (by decide) (by decide)))
    | (at_builtin; have _t := t1; go_must (refine wpList_append_any (by rfl) _ _ 42 (by rfl) w1.heap.size 70 i0 _ 2 24 Try.underlying42 hi0 hz0 hz1 hz2 rfl (by decide) _ _ _ _ (by rfl) O1.out p1 i c0 (flat (l.take i)) (by rfl) (by rw [flat_len, List.length_take]; have := HN.out; omega) (L1.out _ (R1.out.alloc _)) (flat_one _) (by unfold maxLen; omega) (by omega) (by simp) ?_; intro a2 c2 w2 hown hgrow; have R2 := hidden (same_grown (m := 0) (same_alloc _ _) O1.out hgrow); rw [Nat.zero_add, List.nil_append] at hown; have O2 := hidden hown; have b2 := blk_kept R2.out (fun h => h) B1.out; have c20 : w2.cell? ⟨w.heap.size, 0, none⟩ = some (.string k) := blk_cell b2; have c21 : w2.cell? ⟨w.heap.size, 1, none⟩ = some (.int .i64 y) := blk_cell b2; clear t1 hown hgrow b2))
    | (at_builtin; have _t := t2; go_must (refine wpList_append_any (by rfl) _ _ 42 (by rfl) w1.heap.size 70 i0 _ 2 24 Try.underlying42 hi0 hz0 hz1 hz2 rfl (by decide) _ _ _ _ (by rfl) (O2.out.alloc _) _ 1 1 (flat [(k, y)]) (by rfl) (by rfl) (lies_of (World.news_of_block (heap_alloc_new w2 _))) (flat_one _) (by unfold maxLen; omega) (by omega) (by have := R2.out.size; simp; omega) ?_; intro a3 c3 w3 hown hgrow; have R3 := hidden (same_grown (m := 0) (R2.out.alloc _) (O2.out.alloc _) hgrow); rw [← flat_app] at hown; have O3 := hidden hown; clear t2 hown hgrow)))
  have hgl : w.heap.size + 1 < w1.heap.size := by have := blk_lt B2.out; simpa using this
  rw [alloc_size1, hG] at B2
  rw [hG] at hgl
  have hmx : Try.prog.follows .mixedOrders = true := by kernel_rfl
  refine wp_region_any hmx ?_
  change wpAny _ _ _ _ _ _ _ (World.drew _)
  refine wpAny_take (i := 0) (v := .slice a3 (i + 1) c3) rfl (by kernel_rfl) (by kernel_rfl) (by kernel_rfl) (fun _ _ _ h => h) (Or.inl ⟨by rfl, (by intro w; go_simp; try rfl)⟩) ?_; (try go_simp)
  refine wpAny_take (i := 1) (v := .slice (some ⟨b, 0, none⟩) n c0) rfl (by kernel_rfl) (by kernel_rfl) (by kernel_rfl) (fun _ _ _ h => h) (Or.inl ⟨by rfl, (by intro w; go_simp; try rfl)⟩) ?_; (try go_simp)
  refine wpAny_take (i := 2) (v := .int .i64 i) rfl (by kernel_rfl) (by kernel_rfl) (by kernel_rfl) (fun _ _ _ h => h) (Or.inl ⟨by rfl, (by intro w; go_simp; try rfl)⟩) ?_; (try go_simp)
  refine wpAny_take (i := 3) (v := .int .i64 ((i : Int) + 1)) rfl (by kernel_rfl) (by kernel_rfl) (by kernel_rfl) (fun _ _ _ h => h) (Or.inl ⟨by rfl, (by intro w; go_simp; rw [IntKind.wrap_i64]; omega)⟩) ?_; (try go_simp)
  refine wpAny_take (i := 4) (v := .slice p2 (n - (i + 1)) (c0 - (i + 1))) rfl (by kernel_rfl) (by kernel_rfl) (by kernel_rfl) (fun _ _ _ h => h) (Or.inl ⟨by rfl, (by intro w; go_simp; try rfl)⟩) ?_; (try go_simp)
  refine wpAny_take (i := 6) (v := .slice (some ⟨b, 0, none⟩) n c0) rfl (by kernel_rfl) (by kernel_rfl) (by kernel_rfl) (fun _ _ _ h => h) (Or.inl ⟨by rfl, (by intro w; go_simp; try rfl)⟩) ?_; (try go_simp)
  refine wpAny_take (i := 7) (v := .int .i64 i) rfl (by kernel_rfl) (by kernel_rfl) (by kernel_rfl) (fun _ _ _ h => h) (Or.inl ⟨by rfl, (by intro w; go_simp; try rfl)⟩) ?_; (try go_simp)
  refine wpAny_take (i := 8) (v := .pointer (some ⟨b, i * 2, none⟩)) rfl (by kernel_rfl) (by kernel_rfl) (by kernel_rfl) (fun _ _ _ h => h) (Or.inl ⟨by rfl, (by intro w; go_simp; try rfl)⟩) ?_; (try go_simp)
  refine wpAny_ready (rs := [5, 9]) (by kernel_rfl) (by simp) ?_
  refine (AllReady.cons rfl (fun K hK => ?_) (AllReady.cons rfl (fun K hK => ?_) AllReady.nil))
  · skip
    refine step_append_any (by rfl) _ _ 42 (by rfl) w1.heap.size 70 i0 _ 2 24 Try.underlying42 hi0 hz0 hz1 hz2 rfl (by decide) _ _ _ _ (by rfl) (ownsRow_drew0 (O3.out)) p2 (n - (i + 1)) (c0 - (i + 1)) (flat (l.drop (i + 1))) (by rfl) (by rw [flat_len, List.length_drop]; have := HN.out; omega) (L2.out _ (R1.out.trans ((R3.out).drew))) (flat_one _) (by unfold maxLen; omega) (by omega) ((R3.out).drew).size ?_
    intro a4 c4 w4 hown hgrow
    have R4 := hidden (same_grown (m := 0) ((R3.out).drew) (ownsRow_drew0 (O3.out)) hgrow)
    rw [← flat_app] at hown
    have O4 := hidden hown
    clear hown hgrow
    refine hK _ _ ?_; clear hK K
    (try go_simp)
    obtain ⟨e0, e1⟩ := HC.out (w4) (R1.out.trans (R4.out))
    have b4 := blk_kept (R4.out) (fun h => h) B2.out
    have B4 := hidden b4
    have c40 : (w4).cell? ⟨G, 0, none⟩ = some (.string { data := #[] }) := blk_cell b4
    have c41 : (w4).cell? ⟨G, 1, none⟩ = some (.int .i64 0) := blk_cell b4
    have c42 : (w4).frozen? ⟨G, 0, none⟩ = false := blk_free b4
    have c43 : (w4).frozen? ⟨G, 1, none⟩ = false := blk_free b4
    clear b4
    refine wpAny_take (i := 10) (v := .slice a4 (i + 1 + (n - (i + 1))) c4) rfl (by kernel_rfl) (by kernel_rfl) (by kernel_rfl) (fun _ _ _ h => h) (Or.inl ⟨by rfl, (by intro w; go_simp; try rfl)⟩) ?_; (try go_simp)
    refine wpAny_ready (rs := [9]) (by kernel_rfl) (by simp) ?_; refine (AllReady.cons rfl (fun K hK => ?_) AllReady.nil); go_simp
    refine hK _ _ ?_; clear hK K
    refine wpAny_ready (rs := [11]) (by kernel_rfl) (by simp) ?_; refine (AllReady.cons rfl (fun K hK => ?_) AllReady.nil); go_simp
    refine hK _ _ ?_; clear hK K
    refine wpAny_take (i := 12) (v := .bool true) rfl (by kernel_rfl) (by kernel_rfl) (by kernel_rfl) (fun _ _ _ h => h) (Or.inl ⟨by rfl, (by intro w; go_simp; try rfl)⟩) ?_; (try go_simp)
    refine wpAny_done (by kernel_rfl) ?_ _
    go_wp2
    obtain ⟨d0, d1, kd⟩ := two_set B4.out (.string k) (.int .i64 z)
    have RZ := hidden (R4.out)
    have OZ : Hid ((w4).ownsRow w1.heap.size 70 2 (.slice a4 (i + 1 + (n - (i + 1))) c4) (i + 1 + (n - (i + 1))) (flat (insL k y l))) := by have he := HE.out; simp at he; rw [he]; show World.ownsRow _ _ _ _ _ _ _; simpa using (O4.out)
    have KZ := hidden kd
    generalize (((w4).setCell ⟨G, 0, none⟩ (Value.string k)).setCell ⟨G, 1, none⟩ (Value.int IntKind.i64 z)) = W5 at d0 d1 KZ ⊢
    have he := HE.out
    simp at he
    have hz := itr_end (l := insL k y l) R1.out RZ.out OZ.out (by rw [he]; have := HN.out; simp; omega) (by omega) hgl KZ.out
    refine bodyPost_ret (v := .tuple #[.slice a4 (i + 1 + (n - (i + 1))) c4, It k z, .bool true]) ?_ rfl ⟨_, rfl, hz⟩
    simp [results, Try.results51, go_sem, d0, d1]
  · skip
    obtain ⟨e0, e1⟩ := HC.out (w3.drew) (R1.out.trans ((R3.out).drew))
    go_simp
    refine hK _ _ ?_; clear hK K
    refine wpAny_ready (rs := [5]) (by kernel_rfl) (by simp) ?_
    refine (AllReady.cons rfl (fun K hK => ?_) AllReady.nil)
    skip
    refine step_append_any (by rfl) _ _ 42 (by rfl) w1.heap.size 70 i0 _ 2 24 Try.underlying42 hi0 hz0 hz1 hz2 rfl (by decide) _ _ _ _ (by rfl) (ownsRow_drew0 (O3.out)) p2 (n - (i + 1)) (c0 - (i + 1)) (flat (l.drop (i + 1))) (by rfl) (by rw [flat_len, List.length_drop]; have := HN.out; omega) (L2.out _ (R1.out.trans ((R3.out).drew))) (flat_one _) (by unfold maxLen; omega) (by omega) ((R3.out).drew).size ?_
    intro a4 c4 w4 hown hgrow
    have R4 := hidden (same_grown (m := 0) ((R3.out).drew) (ownsRow_drew0 (O3.out)) hgrow)
    rw [← flat_app] at hown
    have O4 := hidden hown
    clear hown hgrow
    refine hK _ _ ?_; clear hK K
    (try go_simp)
    have b4 := blk_kept (R4.out) (fun h => h) B2.out
    have B4 := hidden b4
    have c40 : (w4).cell? ⟨G, 0, none⟩ = some (.string { data := #[] }) := blk_cell b4
    have c41 : (w4).cell? ⟨G, 1, none⟩ = some (.int .i64 0) := blk_cell b4
    have c42 : (w4).frozen? ⟨G, 0, none⟩ = false := blk_free b4
    have c43 : (w4).frozen? ⟨G, 1, none⟩ = false := blk_free b4
    clear b4
    refine wpAny_take (i := 10) (v := .slice a4 (i + 1 + (n - (i + 1))) c4) rfl (by kernel_rfl) (by kernel_rfl) (by kernel_rfl) (fun _ _ _ h => h) (Or.inl ⟨by rfl, (by intro w; go_simp; try rfl)⟩) ?_; (try go_simp)
    refine wpAny_ready (rs := [11]) (by kernel_rfl) (by simp) ?_; refine (AllReady.cons rfl (fun K hK => ?_) AllReady.nil); go_simp
    refine hK _ _ ?_; clear hK K
    refine wpAny_take (i := 12) (v := .bool true) rfl (by kernel_rfl) (by kernel_rfl) (by kernel_rfl) (fun _ _ _ h => h) (Or.inl ⟨by rfl, (by intro w; go_simp; try rfl)⟩) ?_; (try go_simp)
    refine wpAny_done (by kernel_rfl) ?_ _
    go_wp2
    obtain ⟨d0, d1, kd⟩ := two_set B4.out (.string k) (.int .i64 z)
    have RZ := hidden (R4.out)
    have OZ : Hid ((w4).ownsRow w1.heap.size 70 2 (.slice a4 (i + 1 + (n - (i + 1))) c4) (i + 1 + (n - (i + 1))) (flat (insL k y l))) := by have he := HE.out; simp at he; rw [he]; show World.ownsRow _ _ _ _ _ _ _; simpa using (O4.out)
    have KZ := hidden kd
    generalize (((w4).setCell ⟨G, 0, none⟩ (Value.string k)).setCell ⟨G, 1, none⟩ (Value.int IntKind.i64 z)) = W5 at d0 d1 KZ ⊢
    have he := HE.out
    simp at he
    have hz := itr_end (l := insL k y l) R1.out RZ.out OZ.out (by rw [he]; have := HN.out; simp; omega) (by omega) hgl KZ.out
    refine bodyPost_ret (v := .tuple #[.slice a4 (i + 1 + (n - (i + 1))) c4, It k z, .bool true]) ?_ rfl ⟨_, rfl, hz⟩
    simp [results, Try.results51, go_sem, d0, d1]
set_option maxHeartbeats 4000000 in
set_option maxRecDepth 100000 in
theorem delD_some (k : ByteArray) {l : List Kv} {v : Value} {w : World} (h : ItR 0 w v l) (hs : Srt l) (hl : (l.length + 1) * 24 ≤ 140737488355328) {z : Int} (hlk : lk k l = some z) :
    Calls Try.prog 52 #[v, .string k] w fun e w' => ∃ u, e = .returned (.tuple #[u, It k z, .bool true]) ∧ ItR w.heap.size w' u (delL k l) ∧ Same w w' := by
  have HR : Hid (∀ W, Same w W → ItR 0 W v l) := fun W kk => h.same kk
  obtain ⟨a0, c0, rfl, hc0, hb⟩ := h.form
  have HB := hidden hb
  have HE := hidden (del_at (k := k) hs)
  have HS := hidden hs
  have HA := hidden (lk_rk hs hlk)
  rw [hlk] at HE
  obtain ⟨n, hn⟩ : ∃ n, l.length = n := ⟨_, rfl⟩
  obtain ⟨i, hi⟩ : ∃ i, rkL k l = i := ⟨_, rfl⟩
  have hin : i ≤ n := by rw [← hi, ← hn]; exact rk_le _ _
  obtain ⟨i0, hi0, hz0, hz1, hz2⟩ := info_parts infoItem
  have HF : Hid (∀ W, Same w W → Calls Try.prog 40 #[.slice a0 n c0, .string k] W fun e w' => e = .returned (.tuple #[.int .i64 i, .bool true]) ∧ Same W w') := fun W kk => by
    have := findD_any k (HR.out W kk).its HS.out (by omega)
    rw [hlk, hi, hn] at this
    exact this
  have HN := hidden hn
  have HI := hidden hi
  rw [hi] at HE HA
  rw [hn] at hl hc0 ⊢
  clear h hb hs hn hi hlk
  have q1 : (i : Int) ≤ (n : Int) := by omega
  have q2 : (i : Int) ≤ (c0 : Int) := by omega
  have q3 : (0 : Int) ≤ (i : Int) := Int.natCast_nonneg _
  have HR2 : Hid (∀ W, Same w W → ItR 0 W (.slice a0 n c0) l) := fun W kk => by have := HR.out W kk; rw [HN.out] at this; exact this
  obtain ⟨p1, S1, L1⟩ := its_head HR2.out HN.out hin (i : Int) rfl
  have hil : i < n := by obtain ⟨hh, _⟩ := List.getElem?_eq_some_iff.1 HA.out; rw [HN.out] at hh; exact hh
  obtain ⟨p2, S2, L2⟩ := its_tail (i := i + 1) HR2.out HN.out (by omega) ((i : Int) + 1) (by omega)
  obtain ⟨b, rfl⟩ := HB.out (by rw [HN.out]; omega)
  have HC : Hid (∀ W, Same w W → W.cell? ⟨b, i * 2, none⟩ = some (.string k) ∧ W.cell? ⟨b, i * 2 + 1, none⟩ = some (.int .i64 z)) := fun W kk => by
    have h1 := (HR2.out W kk).at i (by rw [HN.out]; exact hil)
    have h2 : l[i]'(by rw [HN.out]; exact hil) = (k, z) := (List.getElem?_eq_some_iff.1 HA.out).2
    rw [h2] at h1
    exact h1
  obtain ⟨G, hG⟩ : ∃ G, w.heap.size = G := ⟨_, rfl⟩
  have q4 : (i : Int) < (n : Int) := by omega
  have q5 : (i : Int) + 1 ≤ (n : Int) := by omega
  go_enter Try.func52, Try.ntmps52
  have t1 : True := trivial
  go_wp2_with (first
    | (go_at_call 40; go_must (refine (HF.out _ ((Kept.refl _ w).alloc _)).mono ?_; rintro e w1 ⟨rfl, k1⟩; have R1 := hidden (Kept.trans ((Kept.refl (fun _ => False) w).alloc _) k1); have B2 := hidden (blk_kept k1 (fun h => h) (heap_alloc_new w _)); clear k1; have O1 : Hid ((w1.alloc (.cells #[] 70)).ownsRow w1.heap.size 70 2 (.slice (some ⟨w1.heap.size, 0, none⟩) 0 0) 0 []) := World.ownsRow_made w1 #[] 0 (Nat.le_refl _) (by decide) (by decide)))
    | (at_builtin; have _t := t1; go_must (refine wpList_append_any (by rfl) _ _ 42 (by rfl) w1.heap.size 70 i0 _ 2 24 Try.underlying42 hi0 hz0 hz1 hz2 rfl (by decide) _ _ _ _ (by rfl) O1.out p1 i c0 (flat (l.take i)) (by rfl) (by rw [flat_len, List.length_take]; have := HN.out; omega) (L1.out _ (R1.out.alloc _)) (flat_one _) (by unfold maxLen; omega) (by omega) (by simp) ?_; intro a2 c2 w2 hown hgrow; have R2 := hidden (same_grown (m := 0) (same_alloc _ _) O1.out hgrow); rw [Nat.zero_add, List.nil_append] at hown; have O2 := hidden hown; clear t1 hown hgrow)))
  have hgl : w.heap.size < w1.heap.size := by have := blk_lt B2.out; simpa using this
  rw [hG] at hgl B2
  have hmx : Try.prog.follows .mixedOrders = true := by kernel_rfl
  refine wp_region_any hmx ?_
  change wpAny _ _ _ _ _ _ _ (World.drew _)
  refine wpAny_take (i := 0) (v := .slice a2 i c2) rfl (by kernel_rfl) (by kernel_rfl) (by kernel_rfl) (fun _ _ _ h => h) (Or.inl ⟨by rfl, (by intro w; go_simp; try rfl)⟩) ?_; (try go_simp)
  refine wpAny_take (i := 1) (v := .slice (some ⟨b, 0, none⟩) n c0) rfl (by kernel_rfl) (by kernel_rfl) (by kernel_rfl) (fun _ _ _ h => h) (Or.inl ⟨by rfl, (by intro w; go_simp; try rfl)⟩) ?_; (try go_simp)
  refine wpAny_take (i := 2) (v := .int .i64 i) rfl (by kernel_rfl) (by kernel_rfl) (by kernel_rfl) (fun _ _ _ h => h) (Or.inl ⟨by rfl, (by intro w; go_simp; try rfl)⟩) ?_; (try go_simp)
  refine wpAny_take (i := 3) (v := .int .i64 ((i : Int) + 1)) rfl (by kernel_rfl) (by kernel_rfl) (by kernel_rfl) (fun _ _ _ h => h) (Or.inl ⟨by rfl, (by intro w; go_simp; rw [IntKind.wrap_i64]; omega)⟩) ?_; (try go_simp)
  refine wpAny_take (i := 4) (v := .slice p2 (n - (i + 1)) (c0 - (i + 1))) rfl (by kernel_rfl) (by kernel_rfl) (by kernel_rfl) (fun _ _ _ h => h) (Or.inl ⟨by rfl, (by intro w; go_simp; try rfl)⟩) ?_; (try go_simp)
  refine wpAny_take (i := 6) (v := .slice (some ⟨b, 0, none⟩) n c0) rfl (by kernel_rfl) (by kernel_rfl) (by kernel_rfl) (fun _ _ _ h => h) (Or.inl ⟨by rfl, (by intro w; go_simp; try rfl)⟩) ?_; (try go_simp)
  refine wpAny_take (i := 7) (v := .int .i64 i) rfl (by kernel_rfl) (by kernel_rfl) (by kernel_rfl) (fun _ _ _ h => h) (Or.inl ⟨by rfl, (by intro w; go_simp; try rfl)⟩) ?_; (try go_simp)
  refine wpAny_take (i := 8) (v := .pointer (some ⟨b, i * 2, none⟩)) rfl (by kernel_rfl) (by kernel_rfl) (by kernel_rfl) (fun _ _ _ h => h) (Or.inl ⟨by rfl, (by intro w; go_simp; try rfl)⟩) ?_; (try go_simp)
  refine wpAny_ready (rs := [5, 9]) (by kernel_rfl) (by simp) ?_
  refine (AllReady.cons rfl (fun K hK => ?_) (AllReady.cons rfl (fun K hK => ?_) AllReady.nil))
  · skip
    refine step_append_any (by rfl) _ _ 42 (by rfl) w1.heap.size 70 i0 _ 2 24 Try.underlying42 hi0 hz0 hz1 hz2 rfl (by decide) _ _ _ _ (by rfl) (ownsRow_drew0 (O2.out)) p2 (n - (i + 1)) (c0 - (i + 1)) (flat (l.drop (i + 1))) (by rfl) (by rw [flat_len, List.length_drop]; have := HN.out; omega) (L2.out _ (R1.out.trans ((R2.out).drew))) (flat_one _) (by unfold maxLen; omega) (by omega) ((R2.out).drew).size ?_
    intro a4 c4 w4 hown hgrow
    have R4 := hidden (same_grown (m := 0) ((R2.out).drew) (ownsRow_drew0 (O2.out)) hgrow)
    rw [← flat_app] at hown
    have O4 := hidden hown
    clear hown hgrow
    refine hK _ _ ?_; clear hK K
    (try go_simp)
    obtain ⟨e0, e1⟩ := HC.out (w4) (R1.out.trans (R4.out))
    have b4 := blk_kept (R4.out) (fun h => h) B2.out
    have B4 := hidden b4
    have c40 : (w4).cell? ⟨G, 0, none⟩ = some (.string { data := #[] }) := blk_cell b4
    have c41 : (w4).cell? ⟨G, 1, none⟩ = some (.int .i64 0) := blk_cell b4
    have c42 : (w4).frozen? ⟨G, 0, none⟩ = false := blk_free b4
    have c43 : (w4).frozen? ⟨G, 1, none⟩ = false := blk_free b4
    clear b4
    refine wpAny_take (i := 10) (v := .slice a4 (i + (n - (i + 1))) c4) rfl (by kernel_rfl) (by kernel_rfl) (by kernel_rfl) (fun _ _ _ h => h) (Or.inl ⟨by rfl, (by intro w; go_simp; try rfl)⟩) ?_; (try go_simp)
    refine wpAny_ready (rs := [9]) (by kernel_rfl) (by simp) ?_; refine (AllReady.cons rfl (fun K hK => ?_) AllReady.nil); go_simp
    refine hK _ _ ?_; clear hK K
    refine wpAny_ready (rs := [11]) (by kernel_rfl) (by simp) ?_; refine (AllReady.cons rfl (fun K hK => ?_) AllReady.nil); go_simp
    refine hK _ _ ?_; clear hK K
    refine wpAny_take (i := 12) (v := .bool true) rfl (by kernel_rfl) (by kernel_rfl) (by kernel_rfl) (fun _ _ _ h => h) (Or.inl ⟨by rfl, (by intro w; go_simp; try rfl)⟩) ?_; (try go_simp)
    refine wpAny_done (by kernel_rfl) ?_ _
    go_wp2
    obtain ⟨d0, d1, kd⟩ := two_set B4.out (.string k) (.int .i64 z)
    have RZ := hidden (R4.out)
    have OZ : Hid ((w4).ownsRow w1.heap.size 70 2 (.slice a4 (i + (n - (i + 1))) c4) (i + (n - (i + 1))) (flat (delL k l))) := by have he := HE.out; simp at he; rw [he]; show World.ownsRow _ _ _ _ _ _ _; simpa using (O4.out)
    have KZ := hidden kd
    generalize (((w4).setCell ⟨G, 0, none⟩ (Value.string k)).setCell ⟨G, 1, none⟩ (Value.int IntKind.i64 z)) = W5 at d0 d1 KZ ⊢
    have he := HE.out
    simp at he
    have hz := itr_end (l := delL k l) R1.out RZ.out OZ.out (by rw [he]; have := HN.out; simp; omega) (by omega) hgl KZ.out
    refine bodyPost_ret (v := .tuple #[.slice a4 (i + (n - (i + 1))) c4, It k z, .bool true]) ?_ rfl ⟨_, rfl, hz⟩
    simp [results, Try.results52, go_sem, d0, d1]
  · skip
    obtain ⟨e0, e1⟩ := HC.out (w2.drew) (R1.out.trans ((R2.out).drew))
    go_simp
    refine hK _ _ ?_; clear hK K
    refine wpAny_ready (rs := [5]) (by kernel_rfl) (by simp) ?_
    refine (AllReady.cons rfl (fun K hK => ?_) AllReady.nil)
    skip
    refine step_append_any (by rfl) _ _ 42 (by rfl) w1.heap.size 70 i0 _ 2 24 Try.underlying42 hi0 hz0 hz1 hz2 rfl (by decide) _ _ _ _ (by rfl) (ownsRow_drew0 (O2.out)) p2 (n - (i + 1)) (c0 - (i + 1)) (flat (l.drop (i + 1))) (by rfl) (by rw [flat_len, List.length_drop]; have := HN.out; omega) (L2.out _ (R1.out.trans ((R2.out).drew))) (flat_one _) (by unfold maxLen; omega) (by omega) ((R2.out).drew).size ?_
    intro a4 c4 w4 hown hgrow
    have R4 := hidden (same_grown (m := 0) ((R2.out).drew) (ownsRow_drew0 (O2.out)) hgrow)
    rw [← flat_app] at hown
    have O4 := hidden hown
    clear hown hgrow
    refine hK _ _ ?_; clear hK K
    (try go_simp)
    have b4 := blk_kept (R4.out) (fun h => h) B2.out
    have B4 := hidden b4
    have c40 : (w4).cell? ⟨G, 0, none⟩ = some (.string { data := #[] }) := blk_cell b4
    have c41 : (w4).cell? ⟨G, 1, none⟩ = some (.int .i64 0) := blk_cell b4
    have c42 : (w4).frozen? ⟨G, 0, none⟩ = false := blk_free b4
    have c43 : (w4).frozen? ⟨G, 1, none⟩ = false := blk_free b4
    clear b4
    refine wpAny_take (i := 10) (v := .slice a4 (i + (n - (i + 1))) c4) rfl (by kernel_rfl) (by kernel_rfl) (by kernel_rfl) (fun _ _ _ h => h) (Or.inl ⟨by rfl, (by intro w; go_simp; try rfl)⟩) ?_; (try go_simp)
    refine wpAny_ready (rs := [11]) (by kernel_rfl) (by simp) ?_; refine (AllReady.cons rfl (fun K hK => ?_) AllReady.nil); go_simp
    refine hK _ _ ?_; clear hK K
    refine wpAny_take (i := 12) (v := .bool true) rfl (by kernel_rfl) (by kernel_rfl) (by kernel_rfl) (fun _ _ _ h => h) (Or.inl ⟨by rfl, (by intro w; go_simp; try rfl)⟩) ?_; (try go_simp)
    refine wpAny_done (by kernel_rfl) ?_ _
    go_wp2
    obtain ⟨d0, d1, kd⟩ := two_set B4.out (.string k) (.int .i64 z)
    have RZ := hidden (R4.out)
    have OZ : Hid ((w4).ownsRow w1.heap.size 70 2 (.slice a4 (i + (n - (i + 1))) c4) (i + (n - (i + 1))) (flat (delL k l))) := by have he := HE.out; simp at he; rw [he]; show World.ownsRow _ _ _ _ _ _ _; simpa using (O4.out)
    have KZ := hidden kd
    generalize (((w4).setCell ⟨G, 0, none⟩ (Value.string k)).setCell ⟨G, 1, none⟩ (Value.int IntKind.i64 z)) = W5 at d0 d1 KZ ⊢
    have he := HE.out
    simp at he
    have hz := itr_end (l := delL k l) R1.out RZ.out OZ.out (by rw [he]; have := HN.out; simp; omega) (by omega) hgl KZ.out
    refine bodyPost_ret (v := .tuple #[.slice a4 (i + (n - (i + 1))) c4, It k z, .bool true]) ?_ rfl ⟨_, rfl, hz⟩
    simp [results, Try.results52, go_sem, d0, d1]
set_option maxHeartbeats 4000000 in
set_option maxRecDepth 100000 in
theorem delD_none (k : ByteArray) {l : List Kv} {v : Value} {w : World} (h : ItR 0 w v l) (hs : Srt l) (hl : (l.length + 1) * 24 ≤ 140737488355328) (hlk : lk k l = none) :
    Calls Try.prog 52 #[v, .string k] w fun e w' => e = .returned (.tuple #[v, It ByteArray.empty 0, .bool false]) ∧ Same w w' := by
  have HF : Hid (∀ W, Same w W → Calls Try.prog 40 #[v, .string k] W fun e w' => e = .returned (.tuple #[.int .i64 (rkL k l), .bool false]) ∧ Same W w') := fun W kk => by
    have := findD_any k (h.same kk).its hs (by omega)
    rw [hlk] at this
    exact this
  obtain ⟨a0, c0, rfl, hc0, hb⟩ := h.form
  generalize rkL k l = i at HF
  generalize l.length = n at HF hl ⊢
  clear h hs hb hlk hc0
  go_enter Try.func52, Try.ntmps52
  go_wp2_with (go_at_call 40; go_must (refine (HF.out _ ((Kept.refl _ w).alloc _)).mono ?_; rintro e w1 ⟨rfl, k1⟩; have R1 := hidden (Kept.trans ((Kept.refl (fun _ => False) w).alloc _) k1); have b4 := blk_kept k1 (fun h => h) (heap_alloc_new w _); clear k1; have B4 := hidden b4; have c40 : w1.cell? ⟨w.heap.size, 0, none⟩ = some (.string { data := #[] }) := blk_cell b4; have c41 : w1.cell? ⟨w.heap.size, 1, none⟩ = some (.int .i64 0) := blk_cell b4; have c42 : w1.frozen? ⟨w.heap.size, 0, none⟩ = false := blk_free b4; have c43 : w1.frozen? ⟨w.heap.size, 1, none⟩ = false := blk_free b4; clear b4))
  obtain ⟨d0, d1, kd⟩ := two_set B4.out (.string { data := #[] }) (.int .i64 0)
  generalize ((w1.setCell { block := w.heap.size, off := 0 } (Value.string { data := #[] })).setCell { block := w.heap.size, off := 1 } (Value.int IntKind.i64 0)) = W5 at d0 d1 kd ⊢
  refine bodyPost_ret (v := .tuple #[.slice a0 n c0, It ByteArray.empty 0, .bool false]) ?_ rfl ⟨rfl, Kept.trans' R1.out kd (fun q hq e => by omega)⟩
  simp [results, Try.results52, go_sem, d0, d1]
  rfl
theorem putD_any (k : ByteArray) (y : Int) {l : List Kv} {v : Value} {w : World} (h : ItR 0 w v l) (hs : Srt l) (hl : (l.length + 1) * 24 ≤ 140737488355328) :
    Calls Try.prog 51 #[v, It k y] w fun e w' => ∃ u o, e = .returned (.tuple #[u, It o ((lk k l).getD 0), .bool (lk k l).isSome]) ∧ ItR 0 w' u (insL k y l) ∧ Same w w' := by
  cases e : lk k l with
  | none => exact (putD_none k y h hs hl e).mono (fun e w' ⟨u, h1, h2, h3⟩ => ⟨u, _, h1, h2.base, h3⟩)
  | some z => exact (putD_some k y h hs hl e).mono (fun e w' ⟨u, h1, h2, h3⟩ => ⟨u, _, h1, h2.base, h3⟩)
theorem delD_any (k : ByteArray) {l : List Kv} {v : Value} {w : World} (h : ItR 0 w v l) (hs : Srt l) (hl : (l.length + 1) * 24 ≤ 140737488355328) :
    Calls Try.prog 52 #[v, .string k] w fun e w' => ∃ u o, e = .returned (.tuple #[u, It o ((lk k l).getD 0), .bool (lk k l).isSome]) ∧ ItR 0 w' u (delL k l) ∧ Same w w' := by
  cases e : lk k l with
  | none => exact (delD_none k h hs hl e).mono (fun e' w' ⟨h1, h3⟩ => ⟨v, _, h1, by rw [lk_none_del (by rw [e]; rfl)]; exact h.same h3, h3⟩)
  | some z => exact (delD_some k h hs hl e).mono (fun e w' ⟨u, h1, h2, h3⟩ => ⟨u, _, h1, h2.base, h3⟩)
end Go.Proofs.Ytelngbkbdihdnaa
