/- SeqSorts, walked. -/
import Derived.Test.YtcejgbojiejjdaaM8
import Derived.Test.YtcejgbojiejjdaaHqS
import Derived.Test.YtcejgbojiejjdaaQS
namespace Go.Proofs.Ytcejgbojiejjdaa
open Go.RowKit
set_option linter.unusedVariables false
theorem HS.off {B g : Nat} {L : List ByteArray} {w : World} (h : HS B g L w) {i : Nat} {cs : Array Value} {e : TypeId} (hi : w.heap[i]? = some (.cells cs e (0, 0))) (h1 : e ≠ 80) (h2 : e ≠ 9) : ¬ (i = g ∨ rowOf w g 0 = some i) := by
  obtain ⟨v, b1, b2, _⟩ := h.ex
  have er : rowOf w g 0 = v.ownBlock := by unfold rowOf; rw [blk_cell b1]; rfl
  rintro (rfl | hr)
  · rw [b1] at hi
    simp at hi
    exact h1 hi.2.symm
  · rw [er] at hr
    exact own_apart b2 hi (Ne.symm h2) hr
theorem Same.heapS {q : Nat} {C : Nat} {L : List ByteArray} {w w0 w' : World} (k : Same w0 w) (h : HS C q L w) (hC : w0.heap.size ≤ C) (f : HFS q w w') : Same w0 w' := by
  have hl := h.lt
  have hg := h.lg
  refine k.trans' f.kept (fun i hi hs => ?_)
  rcases hs with e | e
  · omega
  · have := (hl.2 i e).1; omega
/-- The heap stays where the law writes its own counts. -/
theorem HS.counts {B g cb : Nat} {L : List ByteArray} {w w' : World} {cs : Array Value} (h : HS B g L w) (hb : w.heap[cb]? = some (.cells cs 3 (0, 0))) (k : Kept (fun i => i = cb) w w') : HS B g L w' := by
  have := h.off hb (by decide) (by decide)
  refine h.kept k (fun e => this (Or.inl e.symm)) (fun i hi e => this (Or.inr (by rw [← e]; exact hi)))
theorem beqS_ne {a b : ByteArray} (h : a ≠ b) : (a.toList == b.toList) = false := by
  rw [beq_eq_false_iff_ne]
  exact fun e => h (bytes_ext e)
abbrev CI (cs : List Int) : Array Value := (cs.map (Value.int .i64)).toArray
theorem ci_set (cs : List Int) (j : Nat) : (CI cs).setIfInBounds j (.int .i64 1) = CI (cs.set j 1) := by simp [CI, List.map_set]
theorem ci_zero (n : Nat) : (List.replicate n (Value.int .i64 0)).toArray = CI (List.replicate n 0) := by simp [CI]
set_option maxHeartbeats 8000000 in
set_option maxRecDepth 100000 in
theorem sorts_walk (v : Value) (l : List ByteArray) (w : World) (hl : Strs w v l) (hsz : l.length * 16 ≤ 140737488351232) :
    Calls Try.prog 4 #[v] w fun e w' => e = .returned (.bool true) ∧ Same w w' := by
  obtain ⟨a0, c0, rfl⟩ := hl.form
  have HL : Hid (∀ W, Same w W → ∀ j (hj : j < l.length), ∃ a, a0 = some a ∧ W.cell? (a.add j) = some (.string l[j])) := fun W k j hj => by
    rcases hl with ⟨_, h⟩ | ⟨a, cap, e, hc⟩
    · rw [h] at hj; simp at hj
    · simp only [Value.slice.injEq] at e
      exact ⟨a, e.1, Kept.cell k (fun h => h) (hc j hj)⟩
  obtain ⟨n, hn⟩ : ∃ n, l.length = n := ⟨_, rfl⟩
  rw [hn] at hsz
  have HN := hidden hn
  have hmk := make_ints n (by omega)
  rw [ci_zero] at hmk
  generalize hZ : CI (List.replicate n 0) = Z at hmk
  have HZ := hidden hZ
  rw [hn]
  clear hl hn hZ
  go_enter Try.func4, Try.ntmps4
  go_wp2_with (first
    | (go_at_call 18; go_must (refine (new_S _).mono ?_; rintro e w1 ⟨g, rfl, hg, h1, k1⟩; have H1 := hidden h1; have K1 := hidden k1; clear h1 k1))
    | (go_at_call 12; go_must (refine (awake_any _).mono ?_; rintro e w2 ⟨rfl, k2⟩; have H2 := hidden (H1.out.same k2); have K2 := hidden (Kept.trans K1.out k2); clear k2)))
  have C0 : Hid ((w2.alloc (.cells Z 3)).heap[w2.heap.size]? = some (.cells (CI (List.replicate n 0)) 3 (0, 0))) := by rw [Hid, HZ.out]; exact heap_alloc_new w2 _
  have HW2 : Hid (w.heap.size ≤ w2.heap.size) := K2.out.size
  go_loopw [28] (fun iv wr => ∃ (k : Nat) (L : List ByteArray), k ≤ n ∧ iv = .int .i64 k ∧ HS w.heap.size g L wr ∧ L.Perm (l.take k) ∧ wr.heap[w2.heap.size]? = some (.cells (CI (List.replicate n 0)) 3 (0, 0)) ∧ Same w wr) (fun iv wr => n - (intOf iv).toNat)
  case atStart => exact ⟨0, [], Nat.zero_le _, rfl, H2.out.same (same_alloc _ _), by simp, C0.out, Kept.trans K2.out (same_alloc _ _)⟩
  case round =>
    obtain ⟨k, L, hk, rfl, hH, hP, hC, hK⟩ := hrel
    have HH := hidden hH
    have HP := hidden hP
    have HC := hidden hC
    have HK := hidden hK
    clear hH hP hC hK
    by_cases h1 : k < n
    · obtain ⟨a, rfl, hcell⟩ := HL.out wr HK.out k (by rw [HN.out]; exact h1)
      obtain ⟨x, hx⟩ : ∃ x, l[k]'(by rw [HN.out]; exact h1) = x := ⟨_, rfl⟩
      rw [hx] at hcell
      have HX := hidden hx
      have q1 : (k : Int) < (n : Int) := by omega
      have q0 : (0 : Int) ≤ (k : Int) := Int.natCast_nonneg _
      have hLk : Hid (L.length = k) := by rw [Hid, HP.out.length_eq, List.length_take, HN.out]; omega
      clear hx
      go_wp2_with (go_at_call 19; go_must (refine (push_S HH.out HK.out.size x (by rw [hLk.out]; omega)).mono ?_; rintro e w5 ⟨rfl, L5, hp5, h5, f5⟩; have H5 := hidden h5; have P5 := hidden hp5; have C5 := hidden (blk_kept f5.kept (HH.out.off HC.out (by decide) (by decide)) HC.out); have K5 := hidden (Same.heapS HK.out HH.out (Nat.le_refl _) f5); clear h5 hp5 f5))
      go_roundw
      case rel =>
        refine ⟨k + 1, L5, by omega, by go_num, H5.out, ?_, C5.out, K5.out⟩
        refine P5.out.trans ((List.Perm.cons x HP.out).trans ?_)
        rw [List.take_succ_eq_append_getElem (by rw [HN.out]; exact h1), HX.out]
        exact List.perm_append_comm (l₁ := [x])
      case measure => simp [intOf]; omega
    · obtain rfl : k = n := by omega
      have q1 : ¬ (k : Int) < (k : Int) := by omega
      have HPL : Hid (L.Perm l) := by
        have := HP.out
        rw [List.take_of_length_le (by rw [HN.out]; exact Nat.le_refl _)] at this
        exact this
      go_wp2
      go_loopw [7, 38] (fun lv iv wr => ∃ (i : Nat) (L : List ByteArray) (cs : List Int) (last : ByteArray), i ≤ k ∧ iv = .int .i64 i ∧ lv = .string last ∧ HS w.heap.size g L wr ∧ L.length = k - i ∧ cs.length = k ∧ wr.heap[w2.heap.size]? = some (.cells (CI cs) 3 (0, 0)) ∧ (un cs l).Perm L ∧ (0 < i → ∀ x ∈ L, ltS x last = false) ∧ Same w wr) (fun lv iv wr => k - (intOf iv).toNat)
      case atStart => exact ⟨0, L, _, _, Nat.zero_le _, rfl, rfl, HH.out, by rw [HPL.out.length_eq, HN.out]; rfl, by simp, HC.out, by rw [← HN.out, un_zero]; exact HPL.out.symm, (fun h => by omega), HK.out⟩
      case round =>
        obtain ⟨i, L1, cs, last, hi, rfl, rfl, hH1, hL1, hc1, hC1, hU1, hO1, hK1⟩ := hrel
        have HH1 := hidden hH1
        have HL1 := hidden hL1
        have Hc1 := hidden hc1
        have HC1 := hidden hC1
        have HU1 := hidden hU1
        have HO1 := hidden hO1
        have HK1 := hidden hK1
        clear hH1 hL1 hc1 hC1 hU1 hO1 hK1
        by_cases h2 : i < k
        · have h0 : 0 < L1.length := by rw [HL1.out]; omega
          obtain ⟨s, hs⟩ : ∃ s, L1[0] = s := ⟨_, rfl⟩
          have HS0 := hidden hs
          have q2 : (i : Int) < (k : Int) := by omega
          have hO : Hid (0 < i → ltS s last = false) := fun h => by rw [← HS0.out]; exact HO1.out h _ (List.getElem_mem _)
          have PO := hidden (pop_S HH1.out h0 (by rw [HL1.out]; omega))
          rw [hs] at PO
          have hbl : Hid (0 < i → Op.bytesLess s.toList last.toList = false) := fun h => by rw [bytesLess_eq]; exact hO.out h
          obtain ⟨wo, hwo⟩ : ∃ W, wr = W := ⟨_, rfl⟩
          subst hwo
          have KEY : Hid (∀ W5 L5, L1.Perm (s :: L5) → HS w.heap.size g L5 W5 → W5.heap[w2.heap.size]? = some (.cells (CI cs) 3 (0, 0)) → Same w W5 → True) := fun _ _ _ _ _ _ => trivial
          by_cases hi0 : 0 < i
          · have q3 : (0 : Int) < (i : Int) := by omega
            have q4 := hbl.out hi0
            clear hs
            go_wp2_with (go_at_call 20; go_must (refine (PO.out).mono ?_; rintro e w5 ⟨rfl, L5, hp5, h5, f5⟩; have H5 := hidden h5; have P5 := hidden hp5; have C5 := hidden (blk_kept f5.kept (HH1.out.off HC1.out (by decide) (by decide)) HC1.out); have K5 := hidden (Same.heapS HK1.out HH1.out (Nat.le_refl _) f5); clear h5 hp5 f5))
            go_loopw [11, 59] (fun fv kv wr => ∃ (j : Nat) (cs2 : List Int), j ≤ k ∧ kv = .int .i64 j ∧ wr.heap[w2.heap.size]? = some (.cells (CI cs2) 3 (0, 0)) ∧ cs2.length = k ∧ ((fv = .bool false ∧ cs2 = cs ∧ ∀ q (hq : q < k), q < j → l[q]'(by rw [HN.out]; exact hq) = s → ¬ cs[q]'(by rw [Hc1.out]; exact hq) = 0) ∨ (fv = .bool true ∧ ∃ (q : Nat) (hq : q < k), l[q]'(by rw [HN.out]; exact hq) = s ∧ cs[q]'(by rw [Hc1.out]; exact hq) = 0 ∧ cs2 = cs.set q 1)) ∧ Kept (fun x => x = w2.heap.size) w5 wr) (fun fv kv wr => k - (intOf kv).toNat)
            case atStart => exact ⟨0, cs, Nat.zero_le _, rfl, C5.out, Hc1.out, Or.inl ⟨rfl, rfl, fun q _ h => by omega⟩, Kept.refl _ _⟩
            case round =>
              obtain ⟨j, cs2, hj, rfl, hB2, hC2, hF, hK2⟩ := hrel
              have HB2 := hidden hB2
              have HC2 := hidden hC2
              have HK2 := hidden hK2
              by_cases h3 : j < k
              · have hK5 : Same w wr := K5.out.trans' hK2 (fun x hx e => by have := HW2.out; omega)
                obtain ⟨a, rfl, hcell⟩ := HL.out wr hK5 j (by rw [HN.out]; exact h3)
                obtain ⟨x, hx⟩ : ∃ x, l[j]'(by rw [HN.out]; exact h3) = x := ⟨_, rfl⟩
                rw [hx] at hcell
                have HX := hidden hx
                have q5 : (j : Int) < (k : Int) := by omega
                have q0 : (0 : Int) ≤ (j : Int) := Int.natCast_nonneg _
                have hjc : j < cs2.length := by omega
                obtain ⟨z, hz⟩ : ∃ z, cs2[j] = z := ⟨_, rfl⟩
                have hcc : wr.cell? ⟨w2.heap.size, j, none⟩ = some (.int .i64 z) := by rw [blk_cell hB2]; simp [CI, hjc, hz]
                have hcf : wr.frozen? ⟨w2.heap.size, j, none⟩ = false := blk_free hB2
                have HZ2 := hidden hz
                clear hx hz hB2 hC2 hK2 hK5
                rcases hF with ⟨rfl, heq, hno⟩ | ⟨rfl, q, hq, e1, e2, heq⟩
                · have HEQ := hidden heq
                  have HNO := hidden hno
                  clear heq hno
                  by_cases he : x = s
                  · subst he
                    by_cases hz0 : z = 0
                    · subst hz0
                      go_wp2
                      go_roundw
                      case rel =>
                        refine ⟨j + 1, cs2.set j 1, by omega, by go_num, ?_, by rw [List.length_set]; exact HC2.out, Or.inr ⟨rfl, j, h3, HX.out, ?_, by rw [HEQ.out]⟩, HK2.out.setCell (p := ⟨w2.heap.size, j, none⟩) rfl _⟩
                        · rw [blk_set HB2.out, ci_set]
                        · have := HZ2.out
                          simp only [HEQ.out] at this
                          exact this
                      case measure => simp [intOf]; omega
                    · have hzb : (z == 0) = false := by simpa using hz0
                      go_wp2
                      go_roundw
                      case rel => exact ⟨j + 1, cs2, by omega, by go_num, HB2.out, HC2.out, Or.inl ⟨rfl, HEQ.out, fun q hq hq2 e1 e2 => by
                          rcases Nat.lt_or_ge q j with h | h
                          · exact HNO.out q (by omega) h e1 e2
                          · obtain rfl : q = j := by omega
                            exact hz0 (by have := HZ2.out; simp only [HEQ.out] at this; rw [← this]; exact e2)⟩, HK2.out⟩
                      case measure => simp [intOf]; omega
                  · have heb := beqS_ne he
                    go_wp2
                    go_roundw
                    case rel => exact ⟨j + 1, cs2, by omega, by go_num, HB2.out, HC2.out, Or.inl ⟨rfl, HEQ.out, fun q hq hq2 e1 e2 => by
                        rcases Nat.lt_or_ge q j with h | h
                        · exact HNO.out q (by omega) h e1 e2
                        · obtain rfl : q = j := by omega
                          exact he (HX.out.symm.trans e1)⟩, HK2.out⟩
                    case measure => simp [intOf]; omega
                · have HQ : Hid (∃ (q : Nat) (hq : q < k), l[q]'(by rw [HN.out]; exact hq) = s ∧ cs[q]'(by rw [Hc1.out]; exact hq) = 0 ∧ cs2 = cs.set q 1) := ⟨q, hq, e1, e2, heq⟩
                  clear e1 e2 heq
                  by_cases he : x = s
                  · subst he
                    by_cases hz0 : z = 0
                    · subst hz0
                      go_wp2
                      go_roundw
                      case rel => exact ⟨j + 1, cs2, by omega, by go_num, HB2.out, HC2.out, Or.inr ⟨rfl, HQ.out⟩, HK2.out⟩
                      case measure => simp [intOf]; omega
                    · have hzb : (z == 0) = false := by simpa using hz0
                      go_wp2
                      go_roundw
                      case rel => exact ⟨j + 1, cs2, by omega, by go_num, HB2.out, HC2.out, Or.inr ⟨rfl, HQ.out⟩, HK2.out⟩
                      case measure => simp [intOf]; omega
                  · have heb := beqS_ne he
                    go_wp2
                    go_roundw
                    case rel => exact ⟨j + 1, cs2, by omega, by go_num, HB2.out, HC2.out, Or.inr ⟨rfl, HQ.out⟩, HK2.out⟩
                    case measure => simp [intOf]; omega
              · have q5 : ¬ (j : Int) < (k : Int) := by omega
                rcases hF with ⟨rfl, heq, hno⟩ | ⟨rfl, q, hq, e1, e2, heq⟩
                · exfalso
                  have hm : s ∈ un cs l := HU1.out.symm.subset (by rw [← HS0.out]; exact List.getElem_mem _)
                  obtain ⟨q, hq1, hq2, e1, e2⟩ := un_mem cs l s (by rw [Hc1.out, HN.out]) hm
                  exact hno q (by rw [Hc1.out] at hq2; exact hq2) (by rw [Hc1.out] at hq2; omega) e1 e2
                · have HQ1 := hidden e1
                  have HQ2 := hidden e2
                  have HQ3 := hidden heq
                  clear e1 e2 heq hB2 hC2 hK2
                  go_wp2
                  go_roundw
                  case rel =>
                    have hH2 : HS w.heap.size g L5 wr := H5.out.counts C5.out HK2.out
                    have hp : (un cs2 l).Perm L5 := by
                      have z1 := un_set cs l q (by rw [HN.out]; exact hq) (by rw [Hc1.out, HN.out]) HQ2.out
                      rw [HQ1.out, ← HQ3.out] at z1
                      exact (z1.symm.trans (HU1.out.trans P5.out)).cons_inv
                    have hl5 : L5.length = k - (i + 1) := by have e1 := P5.out.length_eq; have e2 := HL1.out; rw [List.length_cons] at e1; omega
                    refine ⟨i + 1, L5, cs2, s, by omega, by go_num, rfl, hH2, hl5, HC2.out, HB2.out, hp, fun _ x hx => ?_, K5.out.trans' HK2.out (fun x hx e => by have := HW2.out; omega)⟩
                    have hxm : x ∈ L1 := P5.out.symm.subset (List.mem_cons_of_mem _ hx)
                    obtain ⟨jj, hjj, rfl⟩ := List.getElem_of_mem hxm
                    have := heap_min ordS HH1.out.hp jj hjj
                    rw [HS0.out] at this
                    exact this
                  case measure => simp [intOf]; omega
          · obtain rfl : i = 0 := by omega
            have q3 : ¬ (0 : Int) < (0 : Int) := by omega
            clear hs
            go_wp2_with (go_at_call 20; go_must (refine (PO.out).mono ?_; rintro e w5 ⟨rfl, L5, hp5, h5, f5⟩; have H5 := hidden h5; have P5 := hidden hp5; have C5 := hidden (blk_kept f5.kept (HH1.out.off HC1.out (by decide) (by decide)) HC1.out); have K5 := hidden (Same.heapS HK1.out HH1.out (Nat.le_refl _) f5); clear h5 hp5 f5))
            go_loopw [11, 59] (fun fv kv wr => ∃ (j : Nat) (cs2 : List Int), j ≤ k ∧ kv = .int .i64 j ∧ wr.heap[w2.heap.size]? = some (.cells (CI cs2) 3 (0, 0)) ∧ cs2.length = k ∧ ((fv = .bool false ∧ cs2 = cs ∧ ∀ q (hq : q < k), q < j → l[q]'(by rw [HN.out]; exact hq) = s → ¬ cs[q]'(by rw [Hc1.out]; exact hq) = 0) ∨ (fv = .bool true ∧ ∃ (q : Nat) (hq : q < k), l[q]'(by rw [HN.out]; exact hq) = s ∧ cs[q]'(by rw [Hc1.out]; exact hq) = 0 ∧ cs2 = cs.set q 1)) ∧ Kept (fun x => x = w2.heap.size) w5 wr) (fun fv kv wr => k - (intOf kv).toNat)
            case atStart => exact ⟨0, cs, Nat.zero_le _, rfl, C5.out, Hc1.out, Or.inl ⟨rfl, rfl, fun q _ h => by omega⟩, Kept.refl _ _⟩
            case round =>
              obtain ⟨j, cs2, hj, rfl, hB2, hC2, hF, hK2⟩ := hrel
              have HB2 := hidden hB2
              have HC2 := hidden hC2
              have HK2 := hidden hK2
              by_cases h3 : j < k
              · have hK5 : Same w wr := K5.out.trans' hK2 (fun x hx e => by have := HW2.out; omega)
                obtain ⟨a, rfl, hcell⟩ := HL.out wr hK5 j (by rw [HN.out]; exact h3)
                obtain ⟨x, hx⟩ : ∃ x, l[j]'(by rw [HN.out]; exact h3) = x := ⟨_, rfl⟩
                rw [hx] at hcell
                have HX := hidden hx
                have q5 : (j : Int) < (k : Int) := by omega
                have q0 : (0 : Int) ≤ (j : Int) := Int.natCast_nonneg _
                have hjc : j < cs2.length := by omega
                obtain ⟨z, hz⟩ : ∃ z, cs2[j] = z := ⟨_, rfl⟩
                have hcc : wr.cell? ⟨w2.heap.size, j, none⟩ = some (.int .i64 z) := by rw [blk_cell hB2]; simp [CI, hjc, hz]
                have hcf : wr.frozen? ⟨w2.heap.size, j, none⟩ = false := blk_free hB2
                have HZ2 := hidden hz
                clear hx hz hB2 hC2 hK2 hK5
                rcases hF with ⟨rfl, heq, hno⟩ | ⟨rfl, q, hq, e1, e2, heq⟩
                · have HEQ := hidden heq
                  have HNO := hidden hno
                  clear heq hno
                  by_cases he : x = s
                  · subst he
                    by_cases hz0 : z = 0
                    · subst hz0
                      go_wp2
                      go_roundw
                      case rel =>
                        refine ⟨j + 1, cs2.set j 1, by omega, by go_num, ?_, by rw [List.length_set]; exact HC2.out, Or.inr ⟨rfl, j, h3, HX.out, ?_, by rw [HEQ.out]⟩, HK2.out.setCell (p := ⟨w2.heap.size, j, none⟩) rfl _⟩
                        · rw [blk_set HB2.out, ci_set]
                        · have := HZ2.out
                          simp only [HEQ.out] at this
                          exact this
                      case measure => simp [intOf]; omega
                    · have hzb : (z == 0) = false := by simpa using hz0
                      go_wp2
                      go_roundw
                      case rel => exact ⟨j + 1, cs2, by omega, by go_num, HB2.out, HC2.out, Or.inl ⟨rfl, HEQ.out, fun q hq hq2 e1 e2 => by
                          rcases Nat.lt_or_ge q j with h | h
                          · exact HNO.out q (by omega) h e1 e2
                          · obtain rfl : q = j := by omega
                            exact hz0 (by have := HZ2.out; simp only [HEQ.out] at this; rw [← this]; exact e2)⟩, HK2.out⟩
                      case measure => simp [intOf]; omega
                  · have heb := beqS_ne he
                    go_wp2
                    go_roundw
                    case rel => exact ⟨j + 1, cs2, by omega, by go_num, HB2.out, HC2.out, Or.inl ⟨rfl, HEQ.out, fun q hq hq2 e1 e2 => by
                        rcases Nat.lt_or_ge q j with h | h
                        · exact HNO.out q (by omega) h e1 e2
                        · obtain rfl : q = j := by omega
                          exact he (HX.out.symm.trans e1)⟩, HK2.out⟩
                    case measure => simp [intOf]; omega
                · have HQ : Hid (∃ (q : Nat) (hq : q < k), l[q]'(by rw [HN.out]; exact hq) = s ∧ cs[q]'(by rw [Hc1.out]; exact hq) = 0 ∧ cs2 = cs.set q 1) := ⟨q, hq, e1, e2, heq⟩
                  clear e1 e2 heq
                  by_cases he : x = s
                  · subst he
                    by_cases hz0 : z = 0
                    · subst hz0
                      go_wp2
                      go_roundw
                      case rel => exact ⟨j + 1, cs2, by omega, by go_num, HB2.out, HC2.out, Or.inr ⟨rfl, HQ.out⟩, HK2.out⟩
                      case measure => simp [intOf]; omega
                    · have hzb : (z == 0) = false := by simpa using hz0
                      go_wp2
                      go_roundw
                      case rel => exact ⟨j + 1, cs2, by omega, by go_num, HB2.out, HC2.out, Or.inr ⟨rfl, HQ.out⟩, HK2.out⟩
                      case measure => simp [intOf]; omega
                  · have heb := beqS_ne he
                    go_wp2
                    go_roundw
                    case rel => exact ⟨j + 1, cs2, by omega, by go_num, HB2.out, HC2.out, Or.inr ⟨rfl, HQ.out⟩, HK2.out⟩
                    case measure => simp [intOf]; omega
              · have q5 : ¬ (j : Int) < (k : Int) := by omega
                rcases hF with ⟨rfl, heq, hno⟩ | ⟨rfl, q, hq, e1, e2, heq⟩
                · exfalso
                  have hm : s ∈ un cs l := HU1.out.symm.subset (by rw [← HS0.out]; exact List.getElem_mem _)
                  obtain ⟨q, hq1, hq2, e1, e2⟩ := un_mem cs l s (by rw [Hc1.out, HN.out]) hm
                  exact hno q (by rw [Hc1.out] at hq2; exact hq2) (by rw [Hc1.out] at hq2; omega) e1 e2
                · have HQ1 := hidden e1
                  have HQ2 := hidden e2
                  have HQ3 := hidden heq
                  clear e1 e2 heq hB2 hC2 hK2
                  go_wp2
                  go_roundw
                  case rel =>
                    have hH2 : HS w.heap.size g L5 wr := H5.out.counts C5.out HK2.out
                    have hp : (un cs2 l).Perm L5 := by
                      have z1 := un_set cs l q (by rw [HN.out]; exact hq) (by rw [Hc1.out, HN.out]) HQ2.out
                      rw [HQ1.out, ← HQ3.out] at z1
                      exact (z1.symm.trans (HU1.out.trans P5.out)).cons_inv
                    have hl5 : L5.length = k - (0 + 1) := by have e1 := P5.out.length_eq; have e2 := HL1.out; rw [List.length_cons] at e1; omega
                    refine ⟨0 + 1, L5, cs2, s, by omega, by go_num, rfl, hH2, hl5, HC2.out, HB2.out, hp, fun _ x hx => ?_, K5.out.trans' HK2.out (fun x hx e => by have := HW2.out; omega)⟩
                    have hxm : x ∈ L1 := P5.out.symm.subset (List.mem_cons_of_mem _ hx)
                    obtain ⟨jj, hjj, rfl⟩ := List.getElem_of_mem hxm
                    have := heap_min ordS HH1.out.hp jj hjj
                    rw [HS0.out] at this
                    exact this
                  case measure => simp [intOf]; omega
        · obtain rfl : i = k := by omega
          have q2 : ¬ (i : Int) < (i : Int) := by omega
          obtain rfl : L1 = [] := List.length_eq_zero_iff.1 (by rw [HL1.out]; omega)
          have PN := hidden (popNo_S HH1.out)
          have LN := hidden (len_S HH1.out)
          go_wp2_with (first
            | (go_at_call 20; go_must (refine (PN.out).mono ?_; rintro e w5 ⟨rfl, rfl⟩))
            | (go_at_call 21; go_must (refine (LN.out).mono ?_; rintro e w5 ⟨rfl, rfl⟩)))
          go_returns
          exact ⟨by first | rfl | simp, HK1.out⟩
end Go.Proofs.Ytcejgbojiejjdaa
