/- The law's own 'reading', walked: the same plain functions as the Reader's. -/
import Derived.Test.YtlilgfcacoooaaaDoorRefVar
import Derived.Test.YtlilgfcacoooaaaDoorRd3
namespace Go.Proofs.YtlilgfcacoooaaaDoor
open Go.RowKit
set_option linter.unusedVariables false

/-- What the law's reading holds. -/
structure Xr (g : Nat) (st : RSt) (w : World) : Prop where
  blk : w.heap[g]? = some (.cells #[.string st.1, .int .i64 st.2] 68 (0, 0))
  sz : st.1.size ≤ 281474976710656
theorem Xr.kept {S : Nat → Prop} {g : Nat} {st : RSt} {w w' : World} (h : Xr g st w) (hk : Kept S w w') (hs : ¬ S g) : Xr g st w' := ⟨blk_kept hk hs h.blk, h.sz⟩
theorem xfails {g : Nat} {st : RSt} {w : World} (h : Xr g st w) (e : Int) : Calls Tryd.prog 96 #[.pointer (some ⟨g, 0, none⟩), .int .i64 e] w fun x w' => x = .returned (.tuple #[]) ∧ Xr g (⟨#[]⟩, e) w' ∧ Kept (only g) w w' := by
  obtain ⟨s, f⟩ := st
  have h0 : w.cell? ⟨g, 0, none⟩ = some (.string s) := blk_cell h.blk
  have h1 : w.cell? ⟨g, 1, none⟩ = some (.int .i64 f) := blk_cell h.blk
  have f0 : w.frozen? ⟨g, 0, none⟩ = false := blk_free h.blk
  have f1 : w.frozen? ⟨g, 1, none⟩ = false := blk_free h.blk
  have H := hidden h
  clear h
  go_enter Tryd.func96, Tryd.ntmps96
  go_wp2
  go_end0
  refine ⟨rfl, ⟨?_, Nat.zero_le _⟩, ?_⟩
  · simpa using blk_set (j := 1) (blk_set (j := 0) H.out.blk (.string ⟨#[]⟩)) (.int .i64 e)
  · exact ((Kept.refl (only g) w).setCell (p := ⟨g, 0, none⟩) rfl _).setCell (p := ⟨g, 1, none⟩) rfl _
set_option maxHeartbeats 1000000 in
theorem xraw {g : Nat} {st : RSt} {w : World} (h : Xr g st w) (n : Int) : Calls Tryd.prog 76 #[.pointer (some ⟨g, 0, none⟩), .int .i64 n] w fun x w' => x = .returned (.string (rraw st n).1) ∧ Xr g (rraw st n).2 w' ∧ Kept (only g) w w' := by
  obtain ⟨s, f⟩ := st
  have h0 : w.cell? ⟨g, 0, none⟩ = some (.string s) := blk_cell h.blk
  have h1 : w.cell? ⟨g, 1, none⟩ = some (.int .i64 f) := blk_cell h.blk
  have f0 : w.frozen? ⟨g, 0, none⟩ = false := blk_free h.blk
  have hs : s.size ≤ 281474976710656 := h.sz
  have H := hidden h
  clear h
  by_cases hf : f = 0
  · subst hf
    by_cases hn : n < 0
    · go_enter Tryd.func76, Tryd.ntmps76
      go_wp2_with (go_at_call 96; refine (xfails H.out _).mono ?_; rintro e w1 ⟨rfl, h1, k1⟩)
      go_returns
      have e : rraw (s, 0) n = (⟨#[]⟩, (⟨#[]⟩, 1)) := by simp [rraw, hn, rfail]
      rw [e]
      exact ⟨rfl, h1, k1⟩
    · obtain ⟨n, rfl⟩ := Int.eq_ofNat_of_zero_le (show 0 ≤ n by omega)
      by_cases hlt : s.size < n
      · go_enter Tryd.func76, Tryd.ntmps76
        go_wp2_with (go_at_call 96; refine (xfails H.out _).mono ?_; rintro e w1 ⟨rfl, h1, k1⟩)
        go_returns
        have e : rraw (s, 0) (n : Int) = (⟨#[]⟩, (⟨#[]⟩, 20)) := by
          unfold rraw
          rw [if_neg (by omega), Int.toNat_natCast]
          simp [rtake, hlt]
        rw [e]
        exact ⟨rfl, h1, k1⟩
      · go_enter Tryd.func76, Tryd.ntmps76
        go_wp2
        go_returns
        have e : rraw (s, 0) (n : Int) = (s.extract 0 n, (s.extract n s.size, 0)) := by
          unfold rraw
          rw [if_neg (by omega), Int.toNat_natCast]
          simp [rtake, hlt]
        rw [e]
        refine ⟨rfl, ⟨?_, ?_⟩, ?_⟩
        · simpa using blk_set (j := 0) H.out.blk (.string (s.extract n s.size))
        · simp; omega
        · exact (Kept.refl (only g) w).setCell (p := ⟨g, 0, none⟩) rfl _
  · have hf1 : (f != 0) = true := by simpa using hf
    go_enter Tryd.func76, Tryd.ntmps76
    go_wp2
    go_returns
    have e : rraw (s, f) n = (⟨#[]⟩, (s, f)) := by
      unfold rraw
      split
      · simp [rfail, hf]
      · simp [rtake, hf]
    rw [e]
    exact ⟨rfl, H.out, Kept.refl _ _⟩
set_option maxHeartbeats 1000000 in
theorem xvarint {g : Nat} {st : RSt} {w : World} (h : Xr g st w) : Calls Tryd.prog 77 #[.pointer (some ⟨g, 0, none⟩)] w fun x w' => x = .returned (.int .u64 (rvar st).1) ∧ Xr g (rvar st).2 w' ∧ Kept (only g) w w' := by
  obtain ⟨s, f⟩ := st
  have h0 : w.cell? ⟨g, 0, none⟩ = some (.string s) := blk_cell h.blk
  have h1 : w.cell? ⟨g, 1, none⟩ = some (.int .i64 f) := blk_cell h.blk
  have f0 : w.frozen? ⟨g, 0, none⟩ = false := blk_free h.blk
  have hs : s.size ≤ 281474976710656 := h.sz
  have H := hidden h
  clear h
  by_cases hf : f = 0
  · subst hf
    have hv := fun w => refVar s w hs
    have hsz := fv_size s.data.toList 0 0
    have e : rvar (s, 0) = if (fv 0 0 s.data.toList).2.2 = 0 then ((fv 0 0 s.data.toList).1, (rtake (s, 0) (fv 0 0 s.data.toList).2.1).2) else (0, (⟨#[]⟩, (fv 0 0 s.data.toList).2.2)) := by simp [rvar]
    generalize fv 0 0 s.data.toList = R at hv hsz e
    obtain ⟨n, k, c⟩ := R
    simp only at hv hsz e
    have HV := hidden hv
    clear hv
    by_cases hc : c = 0
    · subst hc
      have e' : rvar (s, 0) = (n, (rtake (s, 0) k).2) := by rw [e, if_pos rfl]
      have HE := hidden e'
      clear e e'
      have hk : k ≤ s.size := by have := (hsz rfl).1; rw [size_list] at this; omega
      clear hsz
      go_enter Tryd.func77, Tryd.ntmps77
      go_wp2_with (go_at_call 97; refine (HV.out _).mono ?_; rintro e w1 ⟨rfl, rfl⟩)
      go_returns
      rw [HE.out]
      have et : rtake (s, 0) k = (s.extract 0 k, (s.extract k s.size, 0)) := by simp [rtake]; omega
      rw [et]
      refine ⟨rfl, ⟨?_, ?_⟩, ?_⟩
      · simpa using blk_set (j := 0) H.out.blk (.string (s.extract k s.size))
      · simp; omega
      · exact (Kept.refl (only g) w).setCell (p := ⟨g, 0, none⟩) rfl _
    · have hcb : (c != 0) = true := by simpa using hc
      have e' : rvar (s, 0) = (0, (⟨#[]⟩, c)) := by rw [e, if_neg hc]
      have HE := hidden e'
      clear hsz e e'
      go_enter Tryd.func77, Tryd.ntmps77
      go_wp2_with (first
        | (go_at_call 97; refine (HV.out _).mono ?_; rintro e w1 ⟨rfl, rfl⟩)
        | (go_at_call 96; refine (xfails H.out _).mono ?_; rintro e w1 ⟨rfl, h1, k1⟩))
      go_returns
      rw [HE.out]
      exact ⟨rfl, h1, k1⟩
  · have hf1 : (f != 0) = true := by simpa using hf
    go_enter Tryd.func77, Tryd.ntmps77
    go_wp2
    go_returns
    have e : rvar (s, f) = (0, (s, f)) := by simp [rvar, hf]
    rw [e]
    exact ⟨rfl, H.out, Kept.refl _ _⟩
set_option maxHeartbeats 1000000 in
theorem xtext {g : Nat} {st : RSt} {w : World} (h : Xr g st w) : Calls Tryd.prog 78 #[.pointer (some ⟨g, 0, none⟩)] w fun x w' => x = .returned (.string (rtext st).1) ∧ Xr g (rtext st).2 w' ∧ Kept (only g) w w' := by
  have hv := xvarint h
  have hlt := rvar_lt st
  have e : rtext st = if (rvar st).2.1.size < (rvar st).1 then (⟨#[]⟩, rfail (rvar st).2 20) else rtake (rvar st).2 (rvar st).1 := rfl
  have hbad : (rvar st).2.2 ≠ 0 → (rvar st).1 = 0 := by
    intro hne
    unfold rvar at hne ⊢
    split at hne
    · split at hne
      · exfalso
        rename_i h1 h2
        apply hne
        unfold rtake
        rw [if_pos h1]
        have hk := (fv_size st.1.data.toList 0 0 h2).1
        rw [size_list] at hk
        rw [if_neg (by omega)]
      · rename_i h1 h2
        rw [if_pos h1, if_neg h2]
    · rename_i h1
      rw [if_neg h1]
  generalize rvar st = R at hv hlt e hbad
  obtain ⟨n, s1, f1⟩ := R
  simp only at hv hlt e hbad
  have HV := hidden hv
  clear hv h
  by_cases hf : f1 = 0
  · subst hf
    clear hbad
    have hfb : ((0 : Int) == 0) = true := rfl
    by_cases hn : s1.size < n
    · rw [if_pos hn] at e
      have e' : rtext st = (⟨#[]⟩, (⟨#[]⟩, 20)) := by rw [e]; simp [rfail]
      have HE := hidden e'
      clear e e'
      go_enter Tryd.func78, Tryd.ntmps78
      go_wp2_with (first
        | (go_at_call 77; refine HV.out.mono ?_; rintro e w1 ⟨rfl, x1, k1⟩; have c0 : w1.cell? ⟨g, 0, none⟩ = some (.string s1) := blk_cell x1.blk; have c1 : w1.cell? ⟨g, 1, none⟩ = some (.int .i64 0) := blk_cell x1.blk; have hs1 : s1.size ≤ 281474976710656 := x1.sz; have X1 := hidden x1; clear x1)
        | (go_at_call 96; refine (xfails X1.out _).mono ?_; rintro e w2 ⟨rfl, x2, k2⟩))
      go_returns
      rw [HE.out]
      exact ⟨rfl, x2, Kept.trans k1 k2⟩
    · rw [if_neg hn] at e
      have er : rraw (s1, 0) (n : Int) = rtake (s1, 0) n := by unfold rraw; rw [if_neg (by omega), Int.toNat_natCast]
      rw [← er] at e
      have HE := hidden e
      clear e er
      go_enter Tryd.func78, Tryd.ntmps78
      go_wp2_with (first
        | (go_at_call 77; refine HV.out.mono ?_; rintro e w1 ⟨rfl, x1, k1⟩; have c0 : w1.cell? ⟨g, 0, none⟩ = some (.string s1) := blk_cell x1.blk; have c1 : w1.cell? ⟨g, 1, none⟩ = some (.int .i64 0) := blk_cell x1.blk; have hs1 : s1.size ≤ 281474976710656 := x1.sz; have X1 := hidden x1; clear x1)
        | (go_at_call 76; refine (xraw X1.out _).mono ?_; rintro e w2 ⟨rfl, x2, k2⟩))
      go_returns
      rw [HE.out]
      exact ⟨rfl, x2, Kept.trans k1 k2⟩
  · obtain rfl := hbad hf
    clear hbad
    rw [if_neg (by omega)] at e
    have er : rraw (s1, f1) (0 : Int) = rtake (s1, f1) 0 := by unfold rraw; rw [if_neg (by omega)]; rfl
    rw [← er] at e
    have hfb : (f1 == 0) = false := by simpa using hf
    have HE := hidden e
    clear e er
    go_enter Tryd.func78, Tryd.ntmps78
    go_wp2_with (first
      | (go_at_call 77; refine HV.out.mono ?_; rintro e w1 ⟨rfl, x1, k1⟩; have c0 : w1.cell? ⟨g, 0, none⟩ = some (.string s1) := blk_cell x1.blk; have c1 : w1.cell? ⟨g, 1, none⟩ = some (.int .i64 f1) := blk_cell x1.blk; have hs1 : s1.size ≤ 281474976710656 := x1.sz; have X1 := hidden x1; clear x1)
      | (go_at_call 76; refine (xraw X1.out _).mono ?_; rintro e w2 ⟨rfl, x2, k2⟩))
    go_returns
    rw [HE.out]
    exact ⟨rfl, x2, Kept.trans k1 k2⟩
end Go.Proofs.YtlilgfcacoooaaaDoor
