/- A table's Clear. -/
import Derived.Test.YtiffkcffcjembaaH12
namespace Go.Proofs.Ytiffkcffcjembaa
open Go.RowKit Go.Maps
set_option linter.unusedVariables false
set_option linter.unusedSimpArgs false
theorem sizeT : (Try.prog.info? 48).map (·.size) = some 193 := by kernel_rfl
theorem TC_ones (f : FT) (bm : Nat) : (TC f bm).all (·.oneCell') = true := by
  unfold TC
  refine all_oneCell_toArray (fun v hv => ?_)
  rcases List.mem_append.1 hv with h | h
  · have : ∀ k, ∀ v ∈ sC f k, v.oneCell' = true := by
      intro k
      induction k with
      | zero => intro v hv; cases hv
      | succ k ih =>
        intro v hv
        rcases List.mem_append.1 hv with h | h
        · exact ih v h
        · simp [hC] at h
          rcases h with rfl | rfl | rfl <;> rfl
    exact this 64 v h
  · simp at h; subst h; rfl
set_option maxHeartbeats 2000000 in
set_option maxRecDepth 100000 in
theorem h_clear (g bm : Nat) (f : FT) (n : Nat) (w : World) (h : TB w g bm f n) (hn : n ≤ 17592186044416) :
    Calls Try.prog 18 #[P0 g] w fun e w' => ∃ (v : Value) (l : List Int) (bm' : Nat), e = .returned v ∧ InoL f l ∧ w'.ownsRow w.heap.size 3 1 v l.length (l.map (Value.int .i64)) ∧ TB w' g bm' f0 0 ∧ w.heap.size ≤ bm' ∧ Kept (fun k => k = g) w w' := by
  have hin := hidden (h_inodes g bm f n w h hn)
  have hgw := blk_lt h.blk
  have tn : True := trivial
  go_enter Try.func18, Try.ntmps18
  go_wp2_with (first
    | (go_at_call 17; refine hin.out.mono ?_; rintro e w1 ⟨v, l, rfl, hl, hrow, k1⟩; have T1 := hidden (h.same k1); have R1 := hidden hrow; have K1 := hidden k1; have cm1 := (blk_cell (h.same k1).blk).trans (TC_map f bm); have z1 := k1.size; clear hrow k1)
    | (go_at_call 26; refine (h_made g bm _ cm1).mono ?_; rintro e w2 ⟨rfl, h2⟩; obtain rfl := h2.symm; clear h2)
    | (go_at_call 7; refine (h_new _).mono ?_; rintro e w3 ⟨g3, b3, rfl, hg3, hb3, k3, T3⟩; have K3 := hidden k3; have HT3 := hidden T3; have B3 := hidden (blk_kept k3 (fun h => h) T1.out.blk); have R3 := hidden (own_kept R1.out k3 (fun _ _ h => h)); have z3 := k3.size; clear k3 T3 tn)
    | (refine wl_load 48 _ rfl rfl g3 rfl (TC f0 b3) (ld_row HT3.out.blk Try.underlying48 rfl 193 sizeT (TC_size _ _)) ?_)
    | (refine wl_store 48 _ _ rfl rfl rfl g rfl (TC f0 b3) rfl (st_row B3.out 193 sizeT (TC_size _ _) (TC_size _ _) (TC_ones _ _)) ?_))
  go_ret
  have hb3' := HT3.out.ne
  refine ⟨v, l, b3, rfl, hl, own_kept R3.out (Kept.setRow (S := fun k => k = g) (Kept.refl _ w3) (.inr rfl) _) (fun k hk hs => by have := own_old R3.out k hk; subst hs; omega), ?_, by omega, ?_⟩
  · obtain ⟨D, ho, hc⟩ := HT3.out.ex
    exact ⟨setRow_heap w3 g _ _ _ _ B3.out, ⟨D, map_kept ho (Kept.setRow (S := fun k => k = g) (Kept.refl _ w3) (.inr rfl) _) (fun e => by omega), hc⟩, Goo.zero⟩
  · exact Kept.setRow (S := fun k => k = g) (((K1.out.trans K3.out)).mono (fun _ _ h => h.elim)) (.inr rfl) _
end Go.Proofs.Ytiffkcffcjembaa
