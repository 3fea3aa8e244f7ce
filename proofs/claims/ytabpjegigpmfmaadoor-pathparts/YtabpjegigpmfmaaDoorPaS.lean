/- path: the law's same of equal texts; Inside of both sides. -/
import Derived.Test.YtabpjegigpmfmaaDoorPa2
namespace Go.Proofs.YtabpjegigpmfmaaDoor
open Go.RowKit
set_option linter.unusedVariables false
set_option linter.unusedSimpArgs false
set_option maxHeartbeats 2000000 in
set_option maxRecDepth 100000 in
theorem same_eq (l : List ByteArray) (a b : Option Addr) (k k' c c' : Nat) (w : World) (r : Row w (.slice a k c) (TS l)) (s : Row w (.slice b k' c') (TS l)) (hb : l.length ≤ 17592186044416) :
    Calls Tryd.prog 15 #[.slice a k c, .slice b k' c'] w fun e w' => e = .returned (.bool true) ∧ Same w w' := by
  have e1 := r.tl
  have e2 := s.tl
  have hkk : k' = k := by omega
  subst hkk
  rw [e1] at hb
  have E1 := hidden e1
  have R := hidden r
  have S := hidden s
  clear e1 e2 r s
  go_enter Tryd.func15, Tryd.ntmps15
  go_wp2
  go_loopw [13] (fun i wr => ∃ i' : Nat, i = .int .i64 i' ∧ i' ≤ k' ∧ Same w wr) (fun i _ => k' - (intOf i).toNat)
  case atStart => exact ⟨0, rfl, Nat.zero_le _, Kept.refl _ _⟩
  case round =>
    obtain ⟨i, rfl, hi, hsm⟩ := hrel
    have HSM := hidden hsm
    clear hsm
    by_cases h1 : i < k'
    · have hil : i < l.length := by rw [E1.out]; exact h1
      obtain ⟨g, off, rfl, hc⟩ := (R.out.same HSM.out).text hil
      obtain ⟨g', off', rfl, hc'⟩ := (S.out.same HSM.out).text hil
      obtain ⟨x, hx⟩ : ∃ x, l[i] = x := ⟨_, rfl⟩
      rw [hx] at hc hc'
      have q0 : (0 : Int) ≤ (i : Int) := Int.natCast_nonneg _
      have q1 : (i : Int) < (k' : Int) := by omega
      have q2 : (x.toList == x.toList) = true := by simp
      clear hx
      go_wp2
      go_quiet (fail)
      go_wp2
      go_roundw
      case rel => exact ⟨i + 1, by go_num, by omega, HSM.out.trans ((Kept.refl _ _).drewN _)⟩
      case measure => simp [intOf]; omega
    · obtain rfl : i = k' := by omega
      have q1 : ¬ (i : Int) < (i : Int) := by omega
      go_wp2
      go_returns
      exact ⟨rfl, HSM.out⟩
/-- One list lies inside another. -/
def ins (d p : List ByteArray) : Bool := decide (d.length < p.length) && decide (p.take d.length = d)
theorem ins_irrefl (a : List ByteArray) : ins a a = false := by simp [ins]
theorem ins_asymm {a b : List ByteArray} (h : ins a b = true) : ins b a = false := by
  simp only [ins, Bool.and_eq_true, decide_eq_true_eq] at h
  simp only [ins, Bool.and_eq_false_iff, decide_eq_false_iff_not]
  exact .inl (by omega)
theorem ins_trans {a b c : List ByteArray} (h : ins a b = true) (k : ins b c = true) : ins a c = true := by
  simp only [ins, Bool.and_eq_true, decide_eq_true_eq] at *
  refine ⟨by omega, ?_⟩
  rw [← h.2, ← k.2, List.take_take, List.length_take]
  congr 1
  omega
theorem strs_head {w : World} {ao : Option Addr} {n cap : Nat} {l : List ByteArray} (h : Row w (.slice ao n cap) (TS l)) {j : Nat} (hj : j ≤ n) (y : Int) (hy : y = (j : Int)) :
    ∃ p, (∀ W, (Instr.sliceAt 22 (.slice ao n cap) none (some (.int .i64 y)) none).run Tryd.prog W = .ok (.slice p j cap) W) ∧ (∀ W, Same w W → Row W (.slice p j cap) (TS (l.take j))) ∧ (ao = none → p = none) ∧ (∀ b off, ao = some ⟨b, off, none⟩ → p = some ⟨b, off, none⟩) := by
  have hel : Tryd.prog.elem 22 = 9 := by kernel_rfl
  obtain ⟨i0, hi0, hz0, hz1, hz2⟩ := info_parts infoS
  have hsz : ∀ W, (sizeOf (Tryd.prog.elem 22)).run Tryd.prog W = .ok 1 W := fun W => by
    rw [hel]
    simp [sizeOf, typeInfo, hi0, hz1]
  have e2 := h.len.2
  have e1 := h.tl
  subst hy
  refine ⟨(if cap = 0 then ao else ao.map (·.add (0 * 1))), fun W => ?_, fun W k => ?_, fun e => by subst e; simp, fun b off e => by subst e; simp [add_none]⟩
  · rw [run_sliceAt_slice (h := Tryd.underlying22), run_slice_h (ht := Tryd.underlying22) (h0 := by omega) (h2 := by omega), hsz]
    simp [sliced]
  · have hl : (TS (l.take j)).length = j := by rw [TS_len, List.length_take]; omega
    refine ⟨_, cap, by rw [hl], by rw [hl]; omega, fun e => ?_, fun hp => ?_⟩
    · cases ao with
      | none => obtain ⟨a', c', he, _, h3, _⟩ := h; simp only [Value.slice.injEq] at he; rw [he.2.2]; exact h3 he.1.symm
      | some a =>
        by_cases hc : cap = 0
        · exact hc
        · rw [if_neg hc] at e
          cases e
    · rw [hl] at hp
      obtain ⟨b, off, rfl, hc⟩ := (h.same k).at (by rw [TS_len]; omega)
      refine ⟨b, off, by simp [add_none], fun q x hq => hc q x ?_⟩
      have : TS (l.take j) = (TS l).take j := by unfold TS; rw [List.map_take]
      rw [this] at hq
      have hq2 : q < j := by
        have h9 := (List.getElem?_eq_some_iff.1 hq).1
        rw [List.length_take] at h9
        omega
      rw [List.getElem?_take, if_pos hq2] at hq
      exact hq
set_option maxHeartbeats 2000000 in
set_option maxRecDepth 100000 in
theorem equal_any (l m : List ByteArray) (a b : Option Addr) (k c c' : Nat) (w : World) (r : Row w (.slice a k c) (TS l)) (s : Row w (.slice b k c') (TS m)) (hb : k ≤ 17592186044416) :
    Calls Tryd.prog 35 #[.slice a k c, .slice b k c'] w fun e w' => e = .returned (.bool (decide (l = m))) ∧ Same w w' := by
  have e1 := r.tl
  have e2 := s.tl
  by_cases h0 : k = 0
  · subst h0
    obtain rfl := List.length_eq_zero_iff.1 e1
    obtain rfl := List.length_eq_zero_iff.1 e2
    exact (Any.slices_Equal_string_empty equalLay a b c 0 c' w (by omega)).mono fun e w' ⟨h1, h2⟩ => ⟨by rw [h1]; rfl, h2 ▸ Kept.refl _ _⟩
  · obtain ⟨b1, o1, rfl, hc1⟩ := r.at (by rw [TS_len]; omega)
    obtain ⟨b2, o2, rfl, hc2⟩ := s.at (by rw [TS_len]; omega)
    refine (Any.slices_Equal_string equalLay b1 o1 k c b2 o2 k c' l m w (by omega) (by omega) (by omega) (by omega) (fun j hj => ?_) (fun j hj => ?_)).mono fun e w' ⟨h1, q, h2⟩ => ⟨?_, ?_⟩
    · rw [hc1 j _ (TS_at l hj)]; simp [List.getD_eq_getElem?_getD, hj]
    · rw [hc2 j _ (TS_at m hj)]; simp [List.getD_eq_getElem?_getD, hj]
    · rw [h1, List.take_of_length_le (by omega), List.take_of_length_le (by omega)]
    · rw [h2]
      exact (Kept.refl _ _).drewN _
set_option maxHeartbeats 2000000 in
set_option maxRecDepth 100000 in
theorem inside_any (d p : List ByteArray) (a b : Option Addr) (k n c c' : Nat) (w : World) (r : Row w (.slice a k c) (TS d)) (s : Row w (.slice b n c') (TS p)) (hb : k ≤ 17592186044416) (hb2 : n ≤ 17592186044416) :
    Calls Tryd.prog 25 #[.slice a k c, .slice b n c'] w fun e w' => e = .returned (.bool (ins d p)) ∧ Same w w' := by
  have e1 := r.tl
  have e2 := s.tl
  by_cases h : k < n
  · have q1 : (k : Int) < (n : Int) := by omega
    obtain ⟨pp, hr, hR, _⟩ := strs_head s (j := k) (by omega) (k : Int) rfl
    have HE := hidden (fun W (kk : Same w W) => equal_any d (p.take k) a pp k c c' W (r.same kk) (hR W kk) hb)
    have hI : ins d p = decide (d = p.take k) := by
      unfold ins
      rw [e1, e2, decide_eq_true h, Bool.true_and]
      exact decide_eq_decide.2 ⟨fun h => h.symm, fun h => h.symm⟩
    rw [hI]
    generalize decide (d = p.take k) = t at HE
    clear hR r s e1 e2 hI
    go_enter Tryd.func25, Tryd.ntmps25
    go_wp2_with (go_at_call 35; refine (HE.out _ (Kept.refl _ _)).mono ?_; rintro e w1 ⟨rfl, k1⟩; have HK := hidden k1; clear k1)
    go_returns
    exact ⟨rfl, HK.out⟩
  · have q1 : ¬ (k : Int) < (n : Int) := by omega
    have hI : ins d p = false := by
      unfold ins
      rw [e1, e2, decide_eq_false h, Bool.false_and]
    rw [hI]
    clear r s e1 e2 hI
    go_enter Tryd.func25, Tryd.ntmps25
    go_wp2
    go_returns
    exact ⟨rfl, Kept.refl _ _⟩
set_option maxHeartbeats 2000000 in
set_option maxRecDepth 100000 in
theorem insideD_any (d p : List ByteArray) (a b : Option Addr) (k n c c' : Nat) (w : World) (r : Row w (.slice a k c) (TS d)) (s : Row w (.slice b n c') (TS p)) (hb : k ≤ 17592186044416) (hb2 : n ≤ 17592186044416) :
    Calls Tryd.prog 26 #[.slice a k c, .slice b n c'] w fun e w' => e = .returned (.bool (ins d p)) ∧ w = w' := by
  have e1 := r.tl
  have e2 := s.tl
  by_cases h : k < n
  · have q1 : ¬ (n : Int) ≤ (k : Int) := by omega
    have hI : ins d p = decide (p.take k = d) := by
      unfold ins
      rw [e1, e2, decide_eq_true h, Bool.true_and]
    rw [hI]
    have HE1 := hidden e1
    have HE2 := hidden e2
    have HR := hidden r
    have HS := hidden s
    clear r s e1 e2 hI
    go_enter Tryd.func26, Tryd.ntmps26
    go_wp2
    go_loop [14] (fun i => ∃ j : Nat, j ≤ k ∧ i = .int .i64 j ∧ p.take j = d.take j) (fun i => k - (intOf i).toNat)
    case atStart => exact ⟨0, Nat.zero_le _, rfl, by simp⟩
    case round =>
      obtain ⟨j, hj, rfl, ht⟩ := hrel
      have HT := hidden ht
      clear ht
      by_cases h1 : j < k
      · have hjd : j < d.length := by rw [HE1.out]; exact h1
        have hjp : j < p.length := by rw [HE2.out]; omega
        obtain ⟨g, off, rfl, hc⟩ := HR.out.text hjd
        obtain ⟨g', off', rfl, hc'⟩ := HS.out.text hjp
        have HXD := hidden (show d.take (j + 1) = d.take j ++ [d[j]] from List.take_succ_eq_append_getElem hjd)
        have HXP := hidden (show p.take (j + 1) = p.take j ++ [p[j]] from List.take_succ_eq_append_getElem hjp)
        obtain ⟨x, hx⟩ : ∃ x, d[j] = x := ⟨_, rfl⟩
        obtain ⟨y, hy⟩ : ∃ y, p[j] = y := ⟨_, rfl⟩
        rw [hx] at hc HXD
        rw [hy] at hc' HXP
        have q2 : (j : Int) < (k : Int) := by omega
        have q3 : (0 : Int) ≤ (j : Int) := Int.natCast_nonneg _
        have q4 : (j : Int) < (n : Int) := by omega
        clear hx hy
        by_cases h2 : y = x
        · subst h2
          have q5 : (y.toList == y.toList) = true := by simp
          go_wp2
          refine ⟨⟨j + 1, by omega, by go_num, by rw [HXD.out, HXP.out, HT.out]⟩, by simp [intOf]; omega⟩
        · have q5 : (y.toList == x.toList) = false := by
            refine beq_eq_false_iff_ne.2 fun e => h2 (bytes_ext e)
          have q6 : ¬ y.toList = x.toList := fun e => h2 (bytes_ext e)
          go_wp2
          go_returns
          refine ⟨?_, rfl⟩
          rw [decide_eq_false]
          · rfl
          · intro e
            have h5 : p.take (j + 1) = d.take (j + 1) := by
              rw [← e, List.take_take]
              congr 1
              omega
            rw [HXD.out, HXP.out, HT.out] at h5
            have h6 := (List.append_cancel_left h5)
            simp at h6
            exact h2 h6
      · obtain rfl : j = k := by omega
        have q2 : ¬ (j : Int) < (j : Int) := by omega
        go_wp2
        go_returns
        refine ⟨?_, rfl⟩
        rw [decide_eq_true]
        · rfl
        · rw [HT.out, List.take_of_length_le (by rw [HE1.out]; exact Nat.le_refl _)]
  · have q1 : (n : Int) ≤ (k : Int) := by omega
    have hI : ins d p = false := by
      unfold ins
      rw [e1, e2, decide_eq_false h, Bool.false_and]
    rw [hI]
    clear r s e1 e2 hI
    go_enter Tryd.func26, Tryd.ntmps26
    go_wp2
    go_returns
    exact ⟨rfl, rfl⟩
end Go.Proofs.YtabpjegigpmfmaaDoor
