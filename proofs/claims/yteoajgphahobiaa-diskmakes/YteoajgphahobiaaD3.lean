/- slices.Clone of rows; disk's of. -/
import Derived.Test.YteoajgphahobiaaD1
import Derived.Test.YteoajgphahobiaaStepC
namespace Go.Proofs.Yteoajgphahobiaa
open Go.RowKit
set_option linter.unusedVariables false

theorem infoB : (Try.prog.info? 22).map (fun i => (i.zero, i.size, i.bytes)) = some (some (.slice none 0 0), 1, 24) := by kernel_rfl
set_option maxHeartbeats 1000000 in
set_option maxRecDepth 100000 in
theorem clone_rows (g c : Nat) (xs : List Value) (w : World) (hc : c ≤ 4096) (h1 : 1 ≤ c) (hb : w.heap[g]? = some (.cells xs.toArray 22 (0, 0))) (hl : xs.length = c) (ho : ∀ u ∈ xs, u.oneCell' = true) :
    Calls Try.prog 41 #[.slice (some ⟨g, 0, none⟩) c c] w fun e w' => ∃ r cap, e = .returned (.slice (some ⟨r, 0, none⟩) c cap) ∧ w.heap.size ≤ r ∧ w'.ownsRow w.heap.size 22 1 (.slice (some ⟨r, 0, none⟩) c cap) c xs ∧ Same w w' := by
  obtain ⟨i0, hi, hz0, hz1, hz2⟩ := info_parts infoB
  have hn : ∀ o, ∀ j u, xs[j]? = some u → (w.alloc o).cell? ((⟨g, 0, none⟩ : Addr).add j) = some u := fun o j u hu => World.news_of_block (blk_alloc hb o) j u (by simpa using hu)
  have HN := hidden hn
  have HO := hidden ho
  have m1 : Hid (0 + c ≤ maxLen) := by rw [Hid]; unfold maxLen; omega
  have m2 : Hid ((0 + c) * 24 ≤ 140737488355328) := by rw [Hid]; omega
  have hnil : ∀ W : World, (binOp .eql 52 (.slice (some ⟨g, 0, none⟩) c c) (.slice none 0 0)).run Try.prog W = .ok (.bool false) W := fun W => by
    first | rfl | simp [binOp, go_sem]
  clear hn ho hb
  go_enter Try.func41, Try.ntmps41
  go_wp2_with (at_builtin; go_must (refine wpList_append_lies _ (by rfl) _ _ 52 (by rfl) w.heap.size 22 i0 _ 1 24 Try.underlying52 hi hz0 hz1 hz2 rfl (by decide) _ _ _ (by rfl) (World.ownsRow_made w #[] 0 (Nat.le_refl _) (by decide) (by decide)) ⟨g, 0, none⟩ c c xs (by rfl) (by omega) (HN.out _) HO.out (by omega) m1.out m2.out (by simp) (w.heap.size + 1) (by simp) ?_); intro g' cap' w1 hown' hgrow hat hlt')
  go_returns
  rw [Nat.zero_add, List.nil_append] at hown'
  have hg' : w.heap.size ≤ g' := by
    rcases hat with h | h
    · simp [Value.ownBlock] at h; omega
    · omega
  refine ⟨g', cap', rfl, hg', hown', ?_⟩
  exact ((Kept.refl (fun _ => False) w).alloc _).grown hgrow (fun k hk hl => by simp [Value.ownBlock] at hk; omega)
set_option maxHeartbeats 1000000 in
set_option maxRecDepth 100000 in
theorem d_of (n g c : Nat) (xs : List Value) (w : World) (hc : c ≤ 4096) (h1 : 1 ≤ c) (hb : w.heap[g]? = some (.cells xs.toArray 22 (0, 0))) (hl : xs.length = c) (ho : ∀ u ∈ xs, u.oneCell' = true) :
    Calls Try.prog 36 #[.int .i64 n, .slice (some ⟨g, 0, none⟩) c c] w fun e w' => ∃ r cap gd, e = .returned (.pointer (some ⟨gd, 0, none⟩)) ∧ w.heap.size ≤ r ∧ w.heap.size ≤ gd ∧ w'.ownsRow w.heap.size 22 1 (.slice (some ⟨r, 0, none⟩) c cap) c xs ∧
      w'.heap[gd]? = some (.cells #[.int .i64 n, .slice (some ⟨g, 0, none⟩) c c, .slice (some ⟨r, 0, none⟩) c cap, .slice none 0 0, .bool false, .int .i64 0, .int .i64 0, .int .i64 0, .int .i64 0] 74 (0, 0)) ∧ Same w w' := by
  have A := hidden (fun W hW => clone_rows g c xs W hc h1 hW hl ho)
  have HB := hidden hb
  clear hb ho
  go_enter Try.func36, Try.ntmps36
  go_wp2_with (go_at_call 41; refine (A.out _ (by first | exact HB.out | exact blk_alloc HB.out _)).mono ?_; rintro e w1 ⟨r, cap, rfl, hr, hown, k1⟩)
  go_returns
  exact ⟨r, cap, w1.heap.size, rfl, hr, k1.size, hown.alloc _, heap_alloc_new _ _, k1.alloc _⟩
end Go.Proofs.Yteoajgphahobiaa
