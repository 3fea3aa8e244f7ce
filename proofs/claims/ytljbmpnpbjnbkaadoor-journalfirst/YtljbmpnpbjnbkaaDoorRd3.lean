/- codec.Reader: raw bytes, texts; what is asked of it; a new one. -/
import Derived.Test.YtljbmpnpbjnbkaaDoorRd2
namespace Go.Proofs.YtljbmpnpbjnbkaaDoor
open Go.RowKit
set_option linter.unusedVariables false

theorem rtake_le (st : RSt) (n : Nat) (h : st.1.size ≤ 281474976710656) : (rtake st n).1.size ≤ 281474976710656 := by
  unfold rtake
  split
  · split
    · exact Nat.zero_le _
    · simp; omega
  · exact Nat.zero_le _
theorem Kept.weak {S : Nat → Prop} {a b : World} (h : Kept (fun _ => False) a b) : Kept S a b := h.mono fun _ _ h => h.elim
set_option maxHeartbeats 400000 in
theorem rraw_nil (n : Int) (w : World) : Calls Tryd.prog 58 #[.pointer none, .int .i64 n] w fun x w' => x = .returned (.string ⟨#[]⟩) ∧ Kept (fun _ => False) w w' := by
  by_cases h : n < 0
  · go_enter Tryd.func58, Tryd.ntmps58
    go_wp2_with (go_at_call 66; refine (fail_nil _ _).mono ?_; rintro e w1 ⟨rfl, rfl⟩)
    go_returns
    exact ⟨rfl, Kept.refl _ _⟩
  · go_enter Tryd.func58, Tryd.ntmps58
    go_wp2_with (first
      | (go_at_call 68; refine (take_nil _ _).mono ?_; rintro e w1 ⟨rfl, rfl⟩)
      | (go_at_call 67; refine (clone ⟨#[]⟩ _ (Nat.zero_le _)).mono ?_; rintro e w2 ⟨rfl, k2⟩))
    go_returns
    exact ⟨rfl, k2⟩
set_option maxHeartbeats 1000000 in
theorem rRaw {g : Nat} {st : RSt} {w : World} (h : Rd g st w) (n : Int) (hn : n ≤ 9223372036854775807) : Calls Tryd.prog 58 #[.pointer (some ⟨g, 0, none⟩), .int .i64 n] w fun x w' => x = .returned (.string (rraw st n).1) ∧ Rd g (rraw st n).2 w' ∧ Kept (only g) w w' := by
  have hl := h.sz
  have H := hidden h
  clear h
  by_cases h : n < 0
  · have e : rraw st n = (⟨#[]⟩, rfail st 1) := by simp only [rraw, if_pos h]
    have HE := hidden e
    clear e
    go_enter Tryd.func58, Tryd.ntmps58
    go_wp2_with (go_at_call 66; refine (fail_any H.out _).mono ?_; rintro e w1 ⟨rfl, h1, k1⟩)
    go_returns
    rw [HE.out]
    exact ⟨rfl, h1, k1⟩
  · obtain ⟨m, rfl⟩ := Int.eq_ofNat_of_zero_le (Int.not_lt.1 h)
    have e : rraw st (m : Int) = rtake st m := by simp only [rraw, if_neg h, Int.toNat_natCast]
    have ht := take_any H.out m (by omega)
    have hc := fun w => clone (rtake st m).1 w (rtake_le st m hl)
    generalize rtake st m = R at e ht hc
    have HE := hidden e
    have HT := hidden ht
    have HC := hidden hc
    clear e ht hc
    go_enter Tryd.func58, Tryd.ntmps58
    go_wp2_with (first
      | (go_at_call 68; refine HT.out.mono ?_; rintro e w1 ⟨rfl, h1, k1⟩)
      | (go_at_call 67; refine (HC.out _).mono ?_; rintro e w2 ⟨rfl, k2⟩))
    go_returns
    rw [HE.out]
    exact ⟨rfl, h1.kept k2 (fun h => h), k1.trans k2.weak⟩
theorem left_nil (w : World) : Calls Tryd.prog 56 #[.pointer none] w fun x w' => x = .returned (.int .i64 0) ∧ w = w' := by
  go_enter Tryd.func56, Tryd.ntmps56
  go_wp2
  go_returns
  exact ⟨rfl, rfl⟩
theorem rLeft {g : Nat} {st : RSt} {w : World} (h : Rd g st w) : Calls Tryd.prog 56 #[.pointer (some ⟨g, 0, none⟩)] w fun x w' => x = .returned (.int .i64 st.1.size) ∧ w = w' := by
  have h0 : w.cell? ⟨g, 0, none⟩ = some (.string st.1) := blk_cell h.blk
  clear h
  go_enter Tryd.func56, Tryd.ntmps56
  go_wp2
  go_returns
  exact ⟨rfl, rfl⟩
theorem rvar_lt (st : RSt) : (rvar st).1 < 18446744073709551616 := by
  unfold rvar
  split
  · split
    · exact fv_lt _ 0 0 (by decide) (by decide)
    · simp
  · simp
theorem newReader (s : ByteArray) (w : World) : Calls Tryd.prog 55 #[.string s] w fun x w' => x = .returned (.pointer (some ⟨w.heap.size, 0, none⟩)) ∧ w' = w.alloc (.cells #[.string s, .int .i64 0] 99) := by
  go_enter Tryd.func55, Tryd.ntmps55
  go_wp2
  go_returns
  exact ⟨rfl, rfl⟩
theorem Rd.new (s : ByteArray) (w : World) (hs : s.size ≤ 281474976710656) : Rd w.heap.size (s, 0) (w.alloc (.cells #[.string s, .int .i64 0] 99)) := ⟨heap_alloc_new _ _, hs⟩
end Go.Proofs.YtljbmpnpbjnbkaaDoor
