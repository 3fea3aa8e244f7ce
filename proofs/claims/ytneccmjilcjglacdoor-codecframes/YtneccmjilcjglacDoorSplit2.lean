/- The document's Read and Split; two slices of numbers held against each other. -/
import Derived.Test.YtneccmjilcjglacDoorSplit
import Derived.BigQuiet
import Derived.Deep.QuietTactic
namespace Go.Proofs.YtneccmjilcjglacDoor
open Go.RowKit
set_option linter.unusedVariables false

set_option maxHeartbeats 400000 in
theorem split_out (key : ByteArray) (k : Int) (w : World) (hk : k < 0 ∨ 4 < k) :
    Calls Tryd.prog 9 #[.string key, .int .i64 k] w fun e w' => e = .returned (.tuple #[.int .u8 0, .slice none 0 0, .string ⟨#[]⟩, .int .i64 1]) ∧ w = w' := by
  rcases hk with h | h
  all_goals
    go_enter Tryd.func9, Tryd.ntmps9
    go_wp2
    go_returns
    exact ⟨rfl, rfl⟩
set_option maxHeartbeats 400000 in
theorem refSplit_out (key : ByteArray) (k : Int) (w : World) (hk : k < 0 ∨ 4 < k) :
    Calls Tryd.prog 10 #[.string key, .int .i64 k] w fun e w' => e = .returned (.tuple #[.int .u8 0, .slice none 0 0, .string ⟨#[]⟩, .int .i64 1]) ∧ w = w' := by
  rcases hk with h | h
  all_goals
    go_enter Tryd.func10, Tryd.ntmps10
    go_wp2
    go_returns
    exact ⟨rfl, rfl⟩
theorem add_byte (N b : Nat) (hN : N < 72057594037927936) (hb : b < 256) : IntKind.u64.wrap ((N : Int) * 256 + IntKind.u64.wrap (b : Int)) = ((N * 256 + b : Nat) : Int) := by
  rw [IntKind.wrap_u64, IntKind.wrap_u64]
  omega
set_option maxHeartbeats 1000000 in
set_option maxRecDepth 100000 in
theorem refRead (s : ByteArray) (w : World) (hs : s.size ≤ 8) : Calls Tryd.prog 35 #[.string s] w fun e w' => e = .returned (.int .u64 (num s.data.toList : Nat)) ∧ w = w' := by
  go_enter Tryd.func35, Tryd.ntmps35
  go_wp2
  go_loop [3, 4] (fun n i => ∃ k : Nat, k ≤ s.size ∧ i = .int .i64 k ∧ n = .int .u64 (num (s.data.toList.take k) : Nat)) (fun _ i => s.size - (intOf i).toNat)
  case atStart => exact ⟨0, Nat.zero_le _, rfl, rfl⟩
  case round =>
    obtain ⟨k, hk, rfl, rfl⟩ := hrel
    by_cases hlt : k < s.size
    · have hN := num_take_lt s k (by omega)
      have hstep := take_num s k hlt
      have HS := hidden hstep
      have ha := add_byte (num (s.data.toList.take k)) s[k].toNat hN s[k].toNat_lt
      have HA := hidden ha
      clear hstep ha
      go_wp2
      go_round
      case rel => exact ⟨k + 1, by omega, by go_num, by rw [HS.out]; first | rw [← HA.out] | (rw [← HA.out]; go_num)⟩
      case measure => simp [intOf]; omega
    · obtain rfl : k = s.size := by omega
      rw [List.take_of_length_le (by rw [size_list]; exact Nat.le_refl _)]
      go_wp2
      go_returns
      exact ⟨rfl, rfl⟩
set_option maxHeartbeats 400000 in
theorem refSplit_short (key : ByteArray) (k : Nat) (w : World) (hs : key.size ≤ 281474976710656) (hk : k ≤ 4) (h : key.size < 1 + 8 * k) :
    Calls Tryd.prog 10 #[.string key, .int .i64 k] w fun e w' => e = .returned (.tuple #[.int .u8 0, .slice none 0 0, .string ⟨#[]⟩, .int .i64 20]) ∧ w = w' := by
  go_enter Tryd.func10, Tryd.ntmps10
  go_wp2
  go_returns
  exact ⟨rfl, rfl⟩
set_option maxHeartbeats 2000000 in
set_option maxRecDepth 100000 in
theorem refSplit_in (key : ByteArray) (k : Nat) (w : World) (hs : key.size ≤ 281474976710656) (hk : k ≤ 4) (h : ¬ key.size < 1 + 8 * k) :
    Calls Tryd.prog 10 #[.string key, .int .i64 k] w fun e w' => ∃ v, e = .returned (.tuple #[.int .u8 (num (key.data.toList.take 1) : Nat), v, .string (key.extract (1 + 8 * k) key.size), .int .i64 0]) ∧ Nums w.heap.size v (knums key.data.toList k) w' ∧ Same w w' := by
  obtain ⟨i0, hi, hz0, hz1, hz2⟩ := info_parts info64
  go_enter Tryd.func10, Tryd.ntmps10
  go_wp2
  go_loopw [8, 9] (fun l i wr => ∃ j : Nat, j ≤ k ∧ i = .int .i64 j ∧ Nums w.heap.size l (knums key.data.toList j) wr ∧ Same w wr) (fun _ i _ => k - (intOf i).toNat)
  case atStart => exact ⟨0, Nat.zero_le _, rfl, Nums.nil _ _, Kept.refl _ _⟩
  case round =>
    obtain ⟨j, hj, rfl, hn, hw⟩ := hrel
    by_cases hlt : j < k
    · have el := knums_len key.data.toList j
      have E1 := hidden (knums_succ key.data.toList j)
      have hm1 : Hid ((knums key.data.toList j).length + 1 ≤ maxLen) := by rw [Hid, el]; unfold maxLen; omega
      have hm2 : Hid (((knums key.data.toList j).length + 1) * 8 ≤ 140737488355328) := by rw [Hid, el]; omega
      have hbase : Hid (∀ o, w.heap.size ≤ (wr.alloc o).heap.size) := fun o => by have := hw.size; simp; omega
      have hrd : ∀ w, Calls Tryd.prog 35 #[.string (key.extract (1 + 8 * j) (9 + 8 * j))] w fun e w' => e = .returned (.int .u64 (num ((key.data.toList.drop (1 + 8 * j)).take 8) : Nat)) ∧ w = w' := fun w => by
        have h1 := refRead (key.extract (1 + 8 * j) (9 + 8 * j)) w (by simp; omega)
        rw [Lib.extract_data, show 9 + 8 * j - (1 + 8 * j) = 8 by omega] at h1
        exact h1
      have HRD := hidden hrd
      clear el hrd
      go_wp2_with (first
        | (go_at_call 35; refine (HRD.out _).mono ?_; rintro e w3 ⟨rfl, rfl⟩)
        | (at_builtin; refine wpList_append_lies _ (by rfl) (.tmp 27) (.tmp 37) 22 (by rfl) w.heap.size 29 i0 (.int .u64 0) 1 8 Tryd.underlying22 hi hz0 hz1 hz2 rfl (by decide) _ _ _ (by rfl) (hn.alloc _) ⟨wr.heap.size, 0, none⟩ 1 1 _ (by rfl) rfl (World.news_of_block (heap_alloc_new wr _)) (fun x hx => by simp at hx; subst hx; rfl) (by decide) hm1.out hm2.out (hbase.out _) (wr.heap.size + 1) (by simp) ?_; intro g' cap' w4 hown' hgrow hat hlt'))
      obtain ⟨n4, K4⟩ := nums_grow hn hw (Nat.le_refl _) hgrow hown'
      clear hown' hgrow hat hn hw
      go_wp2
      go_roundw
      case rel => exact ⟨j + 1, by omega, by go_num, by rw [E1.out]; exact n4, K4⟩
      case measure => simp [intOf]; omega
    · obtain rfl : j = k := by omega
      have h0 : 0 < key.size := by omega
      have hone : num (key.data.toList.take 1) = key[0].toNat := by
        have := take_num key 0 h0
        simpa [num] using this
      have HO := hidden hone
      clear hone
      go_wp2
      go_quiet (fail)
      go_wp2
      go_returns
      rw [HO.out]
      refine ⟨_, rfl, ?_, ?_⟩
      · exact own_kept hn ((Kept.refl (fun _ => False) wr).drewN _) fun _ _ h => h
      · exact Kept.drewN hw _
end Go.Proofs.YtneccmjilcjglacDoor
