/- codec.Reader: fail, take, numbers. -/
import Derived.Test.YtafdkfieajdeiaaDoorClone
import Derived.Test.YtafdkfieajdeiaaDoorRPure
import Derived.Test.YtafdkfieajdeiaaDoorPut
import Derived.Handy
import Derived.Lib.IndexBytes
namespace Go.Proofs.YtafdkfieajdeiaaDoor
open Go.RowKit
set_option linter.unusedVariables false

/-- Block g holds a Reader. -/
structure Rd (g : Nat) (st : RSt) (w : World) : Prop where
  blk : w.heap[g]? = some (.cells #[.string st.1, .int .i64 st.2] 110 (0, 0))
  sz : st.1.size ≤ 281474976710656
theorem Rd.kept {S : Nat → Prop} {g : Nat} {st : RSt} {w w' : World} (h : Rd g st w) (hk : Kept S w w') (hs : ¬ S g) : Rd g st w' := ⟨blk_kept hk hs h.blk, h.sz⟩
theorem Rd.same {g : Nat} {st : RSt} {w w' : World} (h : Rd g st w) (hh : w'.heap = w.heap) : Rd g st w' := ⟨by rw [hh]; exact h.blk, h.sz⟩
def only (g : Nat) : Nat → Prop := fun k => k = g

set_option maxHeartbeats 400000 in
theorem fail_nil (e : Int) (w : World) : Calls Tryd.prog 82 #[.pointer none, .int .i64 e] w fun x w' => x = .returned (.tuple #[]) ∧ w = w' := by
  go_enter Tryd.func82, Tryd.ntmps82
  go_wp2
  go_returns
  exact ⟨rfl, rfl⟩
set_option maxHeartbeats 400000 in
theorem fail_any {g : Nat} {st : RSt} {w : World} (h : Rd g st w) (e : Int) : Calls Tryd.prog 82 #[.pointer (some ⟨g, 0, none⟩), .int .i64 e] w fun x w' => x = .returned (.tuple #[]) ∧ Rd g (rfail st e) w' ∧ Kept (only g) w w' := by
  obtain ⟨s, f⟩ := st
  have h0 : w.cell? ⟨g, 0, none⟩ = some (.string s) := blk_cell h.blk
  have h1 : w.cell? ⟨g, 1, none⟩ = some (.int .i64 f) := blk_cell h.blk
  have f0 : w.frozen? ⟨g, 0, none⟩ = false := blk_free h.blk
  have f1 : w.frozen? ⟨g, 1, none⟩ = false := blk_free h.blk
  have H := hidden h
  clear h
  by_cases hf : f = 0
  · subst hf
    go_enter Tryd.func82, Tryd.ntmps82
    go_wp2
    go_returns
    refine ⟨rfl, ⟨?_, by simp only [rfail, if_pos]; exact Nat.zero_le _⟩, ?_⟩
    · simpa [rfail] using blk_set (j := 0) (blk_set (j := 1) H.out.blk (.int .i64 e)) (.string ⟨#[]⟩)
    · exact ((Kept.refl (only g) w).setCell (p := ⟨g, 1, none⟩) rfl _).setCell (p := ⟨g, 0, none⟩) rfl _
  · have hf1 : (f != 0) = true := by simpa using hf
    go_enter Tryd.func82, Tryd.ntmps82
    go_wp2
    go_returns
    exact ⟨rfl, by rw [rfail, if_neg hf]; exact H.out, Kept.refl _ _⟩
set_option maxHeartbeats 400000 in
theorem take_nil (n : Int) (w : World) : Calls Tryd.prog 79 #[.pointer none, .int .i64 n] w fun x w' => x = .returned (.string ⟨#[]⟩) ∧ w = w' := by
  go_enter Tryd.func79, Tryd.ntmps79
  go_wp2
  go_returns
  exact ⟨rfl, rfl⟩
set_option maxHeartbeats 1000000 in
theorem take_any {g : Nat} {st : RSt} {w : World} (h : Rd g st w) (n : Nat) (hn : n ≤ 9223372036854775807) : Calls Tryd.prog 79 #[.pointer (some ⟨g, 0, none⟩), .int .i64 n] w fun x w' => x = .returned (.string (rtake st n).1) ∧ Rd g (rtake st n).2 w' ∧ Kept (only g) w w' := by
  obtain ⟨s, f⟩ := st
  have h0 : w.cell? ⟨g, 0, none⟩ = some (.string s) := blk_cell h.blk
  have h1 : w.cell? ⟨g, 1, none⟩ = some (.int .i64 f) := blk_cell h.blk
  have f0 : w.frozen? ⟨g, 0, none⟩ = false := blk_free h.blk
  have hs : s.size ≤ 281474976710656 := h.sz
  have H := hidden h
  clear h
  by_cases hf : f = 0
  · subst hf
    by_cases hlt : s.size < n
    · go_enter Tryd.func79, Tryd.ntmps79
      go_wp2_with (go_at_call 82; refine (fail_any H.out _).mono ?_; rintro e w1 ⟨rfl, h1, k1⟩)
      go_returns
      have e : rtake (s, 0) n = (⟨#[]⟩, (⟨#[]⟩, 20)) := by simp [rtake, hlt]
      rw [e]
      exact ⟨rfl, h1, k1⟩
    · go_enter Tryd.func79, Tryd.ntmps79
      go_wp2
      go_returns
      have e : rtake (s, 0) n = (s.extract 0 n, (s.extract n s.size, 0)) := by simp [rtake, hlt]
      rw [e]
      refine ⟨rfl, ⟨?_, ?_⟩, ?_⟩
      · simpa using blk_set (j := 0) H.out.blk (.string (s.extract n s.size))
      · simp; omega
      · exact (Kept.refl (only g) w).setCell (p := ⟨g, 0, none⟩) rfl _
  · have hf1 : (f != 0) = true := by simpa using hf
    go_enter Tryd.func79, Tryd.ntmps79
    go_wp2
    go_returns
    have e : rtake (s, f) n = (⟨#[]⟩, (s, f)) := by simp [rtake, hf]
    rw [e]
    exact ⟨rfl, H.out, Kept.refl _ _⟩

/-! ### numbers -/
theorem rtake_size (st : RSt) (n : Nat) : (rtake st n).1.size = 0 ∨ (rtake st n).1.size = n := by
  unfold rtake
  split
  · split
    · exact Or.inl rfl
    · right; simp; omega
  · exact Or.inl rfl
theorem take_num (s : ByteArray) (k : Nat) (h : k < s.size) : num (s.data.toList.take (k + 1)) = num (s.data.toList.take k) * 256 + s[k].toNat := by
  rw [List.take_succ_eq_append_getElem (by rw [size_list]; exact h), num_snoc]
  rfl
theorem num_take_lt (s : ByteArray) (k : Nat) (h : k ≤ 7) : num (s.data.toList.take k) < 72057594037927936 := by
  have h1 := num_lt (s.data.toList.take k)
  have h2 : (s.data.toList.take k).length ≤ 7 := by rw [List.length_take]; omega
  exact Nat.lt_of_lt_of_le h1 (Nat.le_trans (Nat.pow_le_pow_right (by decide) h2) (by decide))
theorem or_byte (N b : Nat) (hN : N < 72057594037927936) (hb : b < 256) : bits .or .u64 ((N : Int) * 256) (IntKind.u64.wrap (b : Int)) = ((N * 256 + b : Nat) : Int) := by
  have e : (N : Int) * 256 = ((N * 256 : Nat) : Int) := by omega
  have eb : IntKind.u64.wrap (b : Int) = (b : Int) := by rw [IntKind.wrap_u64]; omega
  rw [e, eb, u64_or_nat _ _ (by omega) (by omega)]
  have := Nat.two_pow_add_eq_or_of_lt (i := 8) (b := b) (by omega) N
  rw [show N * 256 = 2 ^ 8 * N by omega, ← this]
theorem num_small (s : ByteArray) (S : Nat) (h : s.size ≤ S) : num s.data.toList < 256 ^ S :=
  Nat.lt_of_lt_of_le (num_lt _) (Nat.pow_le_pow_right (by decide) (by rw [size_list]; exact h))
set_option maxHeartbeats 1000000 in
theorem next32 {g : Nat} {st : RSt} {w : World} (h : Rd g st w) : Calls Tryd.prog 72 #[.pointer (some ⟨g, 0, none⟩)] w fun x w' => x = .returned (.int .u32 (rnum st 4)) ∧ Rd g (rtake st 4).2 w' ∧ Kept (only g) w w' := by
  have H := hidden h
  clear h
  obtain ⟨s, hs⟩ : ∃ s, s = (rtake st 4).1 := ⟨_, rfl⟩
  have hsz : s.size ≤ 4 := by rcases rtake_size st 4 with h | h <;> rw [← hs] at h <;> omega
  have ht := fun (n : Nat) (e : n = 4) => take_any H.out n (by omega)
  have HR : Hid (num s.data.toList = rnum st 4) := by rw [Hid, hs]; rfl
  have HT : Hid (Calls Tryd.prog 79 #[.pointer (some ⟨g, 0, none⟩), .int .i64 4] w fun x w' => x = .returned (.string s) ∧ Rd g (rtake st 4).2 w' ∧ Kept (only g) w w') := by rw [Hid, hs]; exact ht 4 rfl
  clear ht hs H
  go_enter Tryd.func72, Tryd.ntmps72
  go_wp2_with (first
    | (go_at_call 80; refine (width32 _).mono ?_; rintro e w1 ⟨rfl, rfl⟩)
    | (go_at_call 79; refine HT.out.mono ?_; rintro e w1 ⟨rfl, h1, k1⟩))
  go_loop [4, 11] (fun n i => ∃ k : Nat, k ≤ s.size ∧ i = .int .i64 k ∧ n = .int .u64 (num (s.data.toList.take k) : Nat)) (fun _ i => s.size - (intOf i).toNat)
  case atStart => exact ⟨0, Nat.zero_le _, rfl, rfl⟩
  case round =>
    obtain ⟨k, hk, rfl, rfl⟩ := hrel
    by_cases hlt : k < s.size
    · have hN := num_take_lt s k (by omega)
      have hstep := take_num s k hlt
      have HS := hidden hstep
      have hor := or_byte (num (s.data.toList.take k)) s[k].toNat hN s[k].toNat_lt
      have HO := hidden hor
      clear hstep hor
      go_wp2
      go_round
      case rel => exact ⟨k + 1, by omega, by go_num, by rw [HO.out, HS.out]⟩
      case measure => simp [intOf]; omega
    · obtain rfl : k = s.size := by omega
      have hsm := num_small s 4 hsz
      rw [List.take_of_length_le (by rw [size_list]; exact Nat.le_refl _)]
      have hn : num s.data.toList < 4294967296 := hsm
      have HW : Hid (IntKind.u32.wrap (num s.data.toList : Int) = (num s.data.toList : Int)) := by rw [Hid, IntKind.wrap_u32']; omega
      clear hsm
      go_wp2
      go_returns
      rw [← HR.out]
      first | exact ⟨rfl, h1, k1⟩ | (refine ⟨?_, h1, k1⟩; exact congrArg (fun z => Ending.returned (Value.int .u32 z)) HW.out)
set_option maxHeartbeats 400000 in
theorem next32_nil (w : World) : Calls Tryd.prog 72 #[.pointer none] w fun x w' => x = .returned (.int .u32 0) ∧ w = w' := by
  go_enter Tryd.func72, Tryd.ntmps72
  go_wp2_with (first
    | (go_at_call 80; refine (width32 _).mono ?_; rintro e w1 ⟨rfl, rfl⟩)
    | (go_at_call 79; refine (take_nil _ _).mono ?_; rintro e w1 ⟨rfl, rfl⟩))
  refine wp_loop_rounds 1 ?_
  rw [rounds_succ]
  go_wp2
  go_returns
  exact ⟨rfl, rfl⟩
set_option maxHeartbeats 400000 in
theorem rU32 {g : Nat} {st : RSt} {w : World} (h : Rd g st w) : Calls Tryd.prog 54 #[.pointer (some ⟨g, 0, none⟩)] w fun x w' => x = .returned (.int .u32 (rnum st 4)) ∧ Rd g (rtake st 4).2 w' ∧ Kept (only g) w w' := by
  have H := hidden h
  clear h
  go_enter Tryd.func54, Tryd.ntmps54
  go_wp2_with (go_at_call 72; refine (next32 H.out).mono ?_; rintro e w1 ⟨rfl, h1, k1⟩)
  go_returns
  exact ⟨rfl, h1, k1⟩
set_option maxHeartbeats 400000 in
theorem rU32_nil (w : World) : Calls Tryd.prog 54 #[.pointer none] w fun x w' => x = .returned (.int .u32 0) ∧ w = w' := by
  go_enter Tryd.func54, Tryd.ntmps54
  go_wp2_with (go_at_call 72; refine (next32_nil _).mono ?_; rintro e w1 ⟨rfl, rfl⟩)
  go_returns
  exact ⟨rfl, rfl⟩
end Go.Proofs.YtafdkfieajdeiaaDoor
