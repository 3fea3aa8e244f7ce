/- codec.Reader: fail, take, numbers. -/
import Derived.Test.YtfeaaielopaonaaDoorClone
import Derived.Test.YtfeaaielopaonaaDoorRPure
import Derived.Test.YtfeaaielopaonaaDoorPut
import Derived.Handy
import Derived.Lib.IndexBytes
namespace Go.Proofs.YtfeaaielopaonaaDoor
open Go.RowKit
set_option linter.unusedVariables false

/-- Block g holds a Reader. -/
structure Rd (g : Nat) (st : RSt) (w : World) : Prop where
  blk : w.heap[g]? = some (.cells #[.string st.1, .int .i64 st.2] 60 (0, 0))
  sz : st.1.size ≤ 281474976710656
theorem Rd.kept {S : Nat → Prop} {g : Nat} {st : RSt} {w w' : World} (h : Rd g st w) (hk : Kept S w w') (hs : ¬ S g) : Rd g st w' := ⟨blk_kept hk hs h.blk, h.sz⟩
theorem Rd.same {g : Nat} {st : RSt} {w w' : World} (h : Rd g st w) (hh : w'.heap = w.heap) : Rd g st w' := ⟨by rw [hh]; exact h.blk, h.sz⟩
def only (g : Nat) : Nat → Prop := fun k => k = g

set_option maxHeartbeats 400000 in
theorem fail_nil (e : Int) (w : World) : Calls Tryd.prog 28 #[.pointer none, .int .i64 e] w fun x w' => x = .returned (.tuple #[]) ∧ w = w' := by
  go_enter Tryd.func28, Tryd.ntmps28
  go_wp2
  go_returns
  exact ⟨rfl, rfl⟩
set_option maxHeartbeats 400000 in
theorem fail_any {g : Nat} {st : RSt} {w : World} (h : Rd g st w) (e : Int) : Calls Tryd.prog 28 #[.pointer (some ⟨g, 0, none⟩), .int .i64 e] w fun x w' => x = .returned (.tuple #[]) ∧ Rd g (rfail st e) w' ∧ Kept (only g) w w' := by
  obtain ⟨s, f⟩ := st
  have h0 : w.cell? ⟨g, 0, none⟩ = some (.string s) := blk_cell h.blk
  have h1 : w.cell? ⟨g, 1, none⟩ = some (.int .i64 f) := blk_cell h.blk
  have f0 : w.frozen? ⟨g, 0, none⟩ = false := blk_free h.blk
  have f1 : w.frozen? ⟨g, 1, none⟩ = false := blk_free h.blk
  have H := hidden h
  clear h
  by_cases hf : f = 0
  · subst hf
    go_enter Tryd.func28, Tryd.ntmps28
    go_wp2
    go_returns
    refine ⟨rfl, ⟨?_, by simp only [rfail, if_pos]; exact Nat.zero_le _⟩, ?_⟩
    · simpa [rfail] using blk_set (j := 0) (blk_set (j := 1) H.out.blk (.int .i64 e)) (.string ⟨#[]⟩)
    · exact ((Kept.refl (only g) w).setCell (p := ⟨g, 1, none⟩) rfl _).setCell (p := ⟨g, 0, none⟩) rfl _
  · have hf1 : (f != 0) = true := by simpa using hf
    go_enter Tryd.func28, Tryd.ntmps28
    go_wp2
    go_returns
    exact ⟨rfl, by rw [rfail, if_neg hf]; exact H.out, Kept.refl _ _⟩
set_option maxHeartbeats 400000 in
theorem take_nil (n : Int) (w : World) : Calls Tryd.prog 29 #[.pointer none, .int .i64 n] w fun x w' => x = .returned (.string ⟨#[]⟩) ∧ w = w' := by
  go_enter Tryd.func29, Tryd.ntmps29
  go_wp2
  go_returns
  exact ⟨rfl, rfl⟩
set_option maxHeartbeats 1000000 in
theorem take_any {g : Nat} {st : RSt} {w : World} (h : Rd g st w) (n : Nat) (hn : n ≤ 9223372036854775807) : Calls Tryd.prog 29 #[.pointer (some ⟨g, 0, none⟩), .int .i64 n] w fun x w' => x = .returned (.string (rtake st n).1) ∧ Rd g (rtake st n).2 w' ∧ Kept (only g) w w' := by
  obtain ⟨s, f⟩ := st
  have h0 : w.cell? ⟨g, 0, none⟩ = some (.string s) := blk_cell h.blk
  have h1 : w.cell? ⟨g, 1, none⟩ = some (.int .i64 f) := blk_cell h.blk
  have f0 : w.frozen? ⟨g, 0, none⟩ = false := blk_free h.blk
  have hs : s.size ≤ 281474976710656 := h.sz
  have H := hidden h
  clear h
  by_cases hf : f = 0
  · subst hf
    by_cases hlt : s.size < n
    · go_enter Tryd.func29, Tryd.ntmps29
      go_wp2_with (go_at_call 28; refine (fail_any H.out _).mono ?_; rintro e w1 ⟨rfl, h1, k1⟩)
      go_returns
      have e : rtake (s, 0) n = (⟨#[]⟩, (⟨#[]⟩, 20)) := by simp [rtake, hlt]
      rw [e]
      exact ⟨rfl, h1, k1⟩
    · go_enter Tryd.func29, Tryd.ntmps29
      go_wp2
      go_returns
      have e : rtake (s, 0) n = (s.extract 0 n, (s.extract n s.size, 0)) := by simp [rtake, hlt]
      rw [e]
      refine ⟨rfl, ⟨?_, ?_⟩, ?_⟩
      · simpa using blk_set (j := 0) H.out.blk (.string (s.extract n s.size))
      · simp; omega
      · exact (Kept.refl (only g) w).setCell (p := ⟨g, 0, none⟩) rfl _
  · have hf1 : (f != 0) = true := by simpa using hf
    go_enter Tryd.func29, Tryd.ntmps29
    go_wp2
    go_returns
    have e : rtake (s, f) n = (⟨#[]⟩, (s, f)) := by simp [rtake, hf]
    rw [e]
    exact ⟨rfl, H.out, Kept.refl _ _⟩

/-! ### numbers -/
theorem rtake_size (st : RSt) (n : Nat) : (rtake st n).1.size = 0 ∨ (rtake st n).1.size = n := by
  unfold rtake
  split
  · split
    · exact Or.inl rfl
    · right; simp; omega
  · exact Or.inl rfl
theorem take_num (s : ByteArray) (k : Nat) (h : k < s.size) : num (s.data.toList.take (k + 1)) = num (s.data.toList.take k) * 256 + s[k].toNat := by
  rw [List.take_succ_eq_append_getElem (by rw [size_list]; exact h), num_snoc]
  rfl
theorem num_take_lt (s : ByteArray) (k : Nat) (h : k ≤ 7) : num (s.data.toList.take k) < 72057594037927936 := by
  have h1 := num_lt (s.data.toList.take k)
  have h2 : (s.data.toList.take k).length ≤ 7 := by rw [List.length_take]; omega
  exact Nat.lt_of_lt_of_le h1 (Nat.le_trans (Nat.pow_le_pow_right (by decide) h2) (by decide))
theorem or_byte (N b : Nat) (hN : N < 72057594037927936) (hb : b < 256) : bits .or .u64 ((N : Int) * 256) (IntKind.u64.wrap (b : Int)) = ((N * 256 + b : Nat) : Int) := by
  have e : (N : Int) * 256 = ((N * 256 : Nat) : Int) := by omega
  have eb : IntKind.u64.wrap (b : Int) = (b : Int) := by rw [IntKind.wrap_u64]; omega
  rw [e, eb, u64_or_nat _ _ (by omega) (by omega)]
  have := Nat.two_pow_add_eq_or_of_lt (i := 8) (b := b) (by omega) N
  rw [show N * 256 = 2 ^ 8 * N by omega, ← this]
theorem num_small (s : ByteArray) (S : Nat) (h : s.size ≤ S) : num s.data.toList < 256 ^ S :=
  Nat.lt_of_lt_of_le (num_lt _) (Nat.pow_le_pow_right (by decide) (by rw [size_list]; exact h))
end Go.Proofs.YtfeaaielopaonaaDoor
