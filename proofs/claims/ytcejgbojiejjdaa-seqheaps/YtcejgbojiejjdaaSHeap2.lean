/- SeqHeaps, walked. (Made by mksh.py.) -/
import Derived.Test.YtcejgbojiejjdaaSHeaps
namespace Go.Proofs.Ytcejgbojiejjdaa
open Go.RowKit
set_option linter.unusedVariables false
theorem own_Ints {w : World} {B g m cap : Nat} {o : List Int} (h : w.ownsRow B 3 1 (.slice (some ⟨g, 0, none⟩) m cap) m (o.map kI)) : Ints w (.slice (some ⟨g, 0, none⟩) m cap) o := by
  have hl : o.length = m := by have := h.1; simpa using this
  refine Or.inr ⟨⟨g, 0, none⟩, cap, by rw [hl], fun j hj => ?_⟩
  rw [add_none, Nat.zero_add]
  exact own_ints h j hj
theorem cons_of {s : List Int} {h : 0 < s.length} {y : Int} (e : s[0] = y) : s = y :: s.tail := by
  cases s with
  | nil => simp at h
  | cons a t => simp at e; rw [e]; rfl
set_option maxHeartbeats 8000000 in
set_option maxRecDepth 100000 in
theorem heaps_walk (v : Value) (l : List Int) (w : World) (hl : Ints w v l) (hsl : l.length * 8 ≤ 140737488351232) (hbl : ∀ a k c, v = .slice (some a) k c → 0 < k → a.block < w.heap.size) :
    Calls Try.prog 3 #[v] w fun e w' => e = .returned (.bool true) ∧ Same w w' := by
  obtain ⟨a0, c0, rfl⟩ := hl.form
  have HL : Hid (∀ W, Same w W → ∀ j (hj : j < l.length), ∃ a, a0 = some a ∧ W.cell? (a.add j) = some (.int .i64 l[j])) := fun W k j hj => by
    rcases hl with ⟨_, h⟩ | ⟨a, cap, e, hc⟩
    · rw [h] at hj; simp at hj
    · simp only [Value.slice.injEq] at e
      exact ⟨a, e.1, Kept.cell k (fun h => h) (hc j hj)⟩
  obtain ⟨i0, hi, hz0, hz1, hz2⟩ := info_parts infoInt
  obtain ⟨n, hn⟩ : ∃ n, l.length = n := ⟨_, rfl⟩
  rw [hn] at hsl
  have HN := hidden hn
  rw [hn]
  clear hl hn hbl
  go_enter Try.func3, Try.ntmps3
  go_wp2_with (first
    | (go_at_call 11; go_must (refine (new_I _).mono ?_; rintro e w1 ⟨g, rfl, hg, h1, k1⟩; have H1 := hidden h1; have K1 := hidden k1; clear h1 k1))
    | (go_at_call 12; go_must (refine (awake_any _).mono ?_; rintro e w2 ⟨rfl, k2⟩; have H2 := hidden (H1.out.same k2); have K2 := hidden (Kept.trans K1.out k2); clear k2)))
  go_loopw [4, 20] (fun nv iv wr => ∃ (k : Nat) (L s : List Int) (a : Option Addr) (c : Nat), k ≤ n ∧ iv = .int .i64 k ∧ nv = .slice a s.length c ∧ HI w.heap.size g L wr ∧ L.length ≤ k ∧ InL g s a c wr ∧ s.Perm L ∧ SI s ∧ Same w wr) (fun nv iv wr => n - (intOf iv).toNat)
  case atStart => exact ⟨0, [], [], none, 0, Nat.zero_le _, rfl, rfl, H2.out, Nat.le_refl _, ⟨fun j hj => by simp at hj, Nat.le_refl _⟩, List.Perm.refl _, List.Pairwise.nil, K2.out⟩
  case round =>
    obtain ⟨k, L, s, a, c, hk, rfl, rfl, hH, hLk, hC, hP, hS, hK⟩ := hrel
    have HH := hidden hH
    have HC := hidden hC
    have HP := hidden hP
    have HS := hidden hS
    have HK := hidden hK
    have hlen : L.length = s.length := hP.length_eq.symm
    have HLN := hidden hlen
    have hcap := hC.cap
    clear hH hC hP hS hK hlen
    by_cases h1 : k < n
    · obtain ⟨ad, rfl, hcell⟩ := HL.out wr HK.out k (by rw [HN.out]; exact h1)
      obtain ⟨x, hx⟩ : ∃ x, l[k]'(by rw [HN.out]; exact h1) = x := ⟨_, rfl⟩
      rw [hx] at hcell
      have q1 : (k : Int) < (n : Int) := by omega
      have q0 : (0 : Int) ≤ (k : Int) := Int.natCast_nonneg _
      clear hx
      by_cases hx1 : x = 1099511627776
      · have b1 : (x == 1099511627776) = true := by rw [beq_iff_eq]; exact hx1
        clear hx1
        by_cases hs0 : 0 < s.length
        · skip
          obtain ⟨q, off, rfl, hc0, nq1, nq2⟩ := HC.out.cells 0 hs0
          have h0 : 0 < L.length := by rw [HLN.out]; exact hs0
          obtain ⟨y, hy⟩ : ∃ y, s[0] = y := ⟨_, rfl⟩
          have hmin : L[0] = y := by rw [← hy]; exact min_eq HH.out.hp HP.out HS.out h0 hs0
          rw [hy, Nat.add_zero] at hc0
          have HY := hidden hy
          have HMIN := hidden hmin
          have q2 : (0 : Int) < (s.length : Int) := by omega
          have hsn : s.length < n := by have := HLN.out; omega
          clear hy hmin nq1 nq2
          have PO := hidden (pop_I HH.out h0 (by omega))
          rw [HMIN.out] at PO
          go_wp2_with (go_at_call 13; go_must (refine (PO.out).mono ?_; rintro e w5 ⟨rfl, L5, hp5, h5, f5⟩; have H5 := hidden h5; have P5 := hidden hp5; have C5 := hidden (HC.out.heap HH.out f5); have K5 := hidden (Same.heap HK.out HH.out (Nat.le_refl _) f5); have x5 : w5.cell? ⟨q, off, none⟩ = some (.int .i64 y) := (by obtain ⟨q', o', e', hc', _⟩ := C5.out.cells 0 hs0; simp only [Option.some.injEq, Addr.mk.injEq, and_true] at e'; obtain ⟨rfl, rfl⟩ := e'; rw [HY.out, Nat.add_zero] at hc'; exact hc'); clear h5 hp5 f5))
          go_roundw
          case rel =>
            have hcs := cons_of HY.out
            have hp : s.tail.Perm L5 := by
              have z := HP.out.trans P5.out
              rw [hcs] at z
              exact z.cons_inv
            have hl5 : L5.length ≤ k + 1 := by have := P5.out.length_eq; rw [List.length_cons] at this; omega
            exact ⟨k + 1, L5, s.tail, _, _, by omega, by go_num, by rw [List.length_tail], H5.out, hl5, C5.out.tail _ _ (by omega) (fun h => if_neg (by omega)), hp, HS.out.sublist (List.tail_sublist _), K5.out⟩
          case measure => simp [intOf]; omega
        · obtain rfl : s = [] := List.length_eq_zero_iff.1 (by omega)
          obtain rfl : L = [] := List.length_eq_zero_iff.1 (by rw [HLN.out]; rfl)
          have PN := hidden (popNo_I HH.out)
          go_wp2_with (go_at_call 13; go_must (refine (PN.out).mono ?_; rintro e w5 ⟨rfl, rfl⟩))
          go_roundw
          case rel => exact ⟨k + 1, [], [], a, c, by omega, by go_num, rfl, HH.out, by simp, HC.out, HP.out, HS.out, HK.out⟩
          case measure => simp [intOf]; omega
      · have b1 : (x == 1099511627776) = false := by rw [beq_eq_false_iff_ne]; exact hx1
        clear hx1
        by_cases hx2 : x = 1099511627777
        · have b2 : (x == 1099511627777) = true := by rw [beq_iff_eq]; exact hx2
          clear hx2
          have LE := hidden (least_I HH.out)
          have LN := hidden (len_I HH.out)
          by_cases hs0 : 0 < s.length
          · skip
            obtain ⟨q, off, rfl, hc0, nq1, nq2⟩ := HC.out.cells 0 hs0
            have h0 : 0 < L.length := by rw [HLN.out]; exact hs0
            obtain ⟨y, hy⟩ : ∃ y, s[0] = y := ⟨_, rfl⟩
            have hmin : L[0] = y := by rw [← hy]; exact min_eq HH.out.hp HP.out HS.out h0 hs0
            rw [hy, Nat.add_zero] at hc0
            have HY := hidden hy
            have HMIN := hidden hmin
            have q2 : (0 : Int) < (s.length : Int) := by omega
            have hsn : s.length < n := by have := HLN.out; omega
            clear hy hmin nq1 nq2
            have e0 : L[0]?.getD 0 = y := by rw [List.getElem?_eq_getElem h0]; exact HMIN.out
            have e1 : decide (0 < L.length) = true := by simpa using h0
            rw [e0, e1] at LE
            rw [HLN.out] at LN
            clear e0 e1
            go_wp2_with (first
              | (go_at_call 14; go_must (refine (LE.out).mono ?_; rintro e w5 ⟨rfl, rfl⟩))
              | (go_at_call 15; go_must (refine (LN.out).mono ?_; rintro e w5 ⟨rfl, rfl⟩)))
            go_roundw
            case rel => exact ⟨k + 1, L, s, _, c, by omega, by go_num, rfl, HH.out, by omega, HC.out, HP.out, HS.out, HK.out⟩
            case measure => simp [intOf]; omega
          · obtain rfl : s = [] := List.length_eq_zero_iff.1 (by omega)
            obtain rfl : L = [] := List.length_eq_zero_iff.1 (by rw [HLN.out]; rfl)
            go_wp2_with (first
              | (go_at_call 14; go_must (refine (LE.out).mono ?_; rintro e w5 ⟨rfl, rfl⟩))
              | (go_at_call 15; go_must (refine (LN.out).mono ?_; rintro e w5 ⟨rfl, rfl⟩)))
            go_roundw
            case rel => exact ⟨k + 1, [], [], a, c, by omega, by go_num, rfl, HH.out, by simp, HC.out, HP.out, HS.out, HK.out⟩
            case measure => simp [intOf]; omega
        · have b2 : (x == 1099511627777) = false := by rw [beq_eq_false_iff_ne]; exact hx2
          clear hx2
          by_cases hs0 : 0 < s.length
          · skip
            obtain ⟨q, off, rfl, hc0, nq1, nq2⟩ := HC.out.cells 0 hs0
            have h0 : 0 < L.length := by rw [HLN.out]; exact hs0
            obtain ⟨y, hy⟩ : ∃ y, s[0] = y := ⟨_, rfl⟩
            have hmin : L[0] = y := by rw [← hy]; exact min_eq HH.out.hp HP.out HS.out h0 hs0
            rw [hy, Nat.add_zero] at hc0
            have HY := hidden hy
            have HMIN := hidden hmin
            have q2 : (0 : Int) < (s.length : Int) := by omega
            have hsn : s.length < n := by have := HLN.out; omega
            clear hy hmin nq1 nq2
            have t1 : True := trivial
            have t2 : True := trivial
            go_wp2_with (first
              | (go_at_call 16; go_must (refine (push_I HH.out HK.out.size x (by omega)).mono ?_; rintro e w5 ⟨rfl, L5, hp5, h5, f5⟩; have H5 := hidden h5; have P5 := hidden hp5; have C5 := hidden (HC.out.heap HH.out f5); have K5 := hidden (Same.heap HK.out HH.out (Nat.le_refl _) f5); have C5A : Hid (∀ o j u, (s.map kI)[j]? = some u → (w5.alloc o).cell? ((⟨q, off, none⟩ : Addr).add j) = some u) := (fun o j u hu => by rw [List.getElem?_map, Option.map_eq_some_iff] at hu; obtain ⟨z, hz, rfl⟩ := hu; obtain ⟨hj, rfl⟩ := List.getElem?_eq_some_iff.1 hz; obtain ⟨q', o', e', hc', _⟩ := C5.out.cells j hj; simp only [Option.some.injEq, Addr.mk.injEq, and_true] at e'; obtain ⟨rfl, rfl⟩ := e'; rw [add_none]; exact Kept.cell (same_alloc w5 o) (fun h => h) hc'); have hsz5 := HK.out.size; clear h5 hp5 f5))
              | (at_builtin; have _t := t1; go_must (refine wpList_append_lies _ (by rfl) _ _ 22 (by rfl) w5.heap.size 3 i0 _ 1 8 Try.underlying22 hi hz0 hz1 hz2 rfl (by decide) _ _ _ (by rfl) (World.ownsRow_made w5 #[] 0 (Nat.le_refl _) (by decide) (by decide)) ⟨q, off, none⟩ s.length c (s.map kI) (by rfl) (by simp) (fun j u hu => C5A.out _ j u hu) (by intro u hu; obtain ⟨b, _, rfl⟩ := List.mem_map.1 hu; rfl) (by omega) (by unfold maxLen; omega) (by omega) (by simp) (w5.heap.size + 1) (by simp) ?_; intro g6 c6 w6 hown hgrow hat hlt6); rw [Nat.zero_add, List.nil_append] at hown; have k6 : Same w5 w6 := ((Kept.refl (fun _ => False) w5).alloc _).grown hgrow (fun q hk hl => by simp [Value.ownBlock] at hk; omega); have hg6 : w5.heap.size ≤ g6 := hat.elim (fun h => by simp [Value.ownBlock] at h; omega) (fun h => by omega); have O6 := hidden hown; have K6 := hidden k6; have hsz6 := k6.size; clear t1 hown hgrow hat k6)
              | (at_builtin; have _t := t2; go_must (refine wpList_append_lies _ (by rfl) _ _ 22 (by rfl) w5.heap.size 3 i0 _ 1 8 Try.underlying22 hi hz0 hz1 hz2 rfl (by decide) _ _ _ (by rfl) (O6.out.alloc _) ⟨w6.heap.size, 0, none⟩ 1 1 [.int .i64 x] (by rfl) (by rfl) (World.news_of_block (heap_alloc_new w6 _)) (by simp [Value.oneCell']) (by decide) (by unfold maxLen; omega) (by omega) (by simp; omega) (w6.heap.size + 1) (by simp) ?_; intro g7 c7 w7 hown hgrow hat hlt7); have k7 : Same w5 w7 := K6.out.trans' (((Kept.refl (fun q => q = g6) w6).alloc _).grown hgrow (fun q hk _ => by simp [Value.ownBlock] at hk; exact hk.symm)) (fun q hq e => by omega); have O7 : Hid (w7.ownsRow w5.heap.size 3 1 (.slice (some ⟨g7, 0, none⟩) (s.length + 1) c7) (s.length + 1) ((s ++ [x]).map kI)) := (by rw [Hid]; simpa using hown); have K7 := hidden k7; clear t2 hown hgrow hat k7)
              | (go_at_call 17; go_must (refine (sort_any _ (s ++ [x]) _ (own_Ints O7.out) (by first | (simp; omega) | simp)).mono ?_; rintro e w8 ⟨u8, rfl, ⟨o8, ho8, hp8, hs8, k8⟩⟩; obtain ⟨a8, c8, rfl, hin8⟩ := InL.new (B := 0) (H5.out.same K7.out) k8 ho8; have I8 := hidden hin8; have Q8 := hidden hp8; have S8 := hidden hs8; have K8 := hidden (Kept.trans K7.out k8); clear hin8 hp8 hs8 k8 ho8)))
            go_roundw
            case rel =>
              have hl5 : L5.length ≤ k + 1 := by have := P5.out.length_eq; rw [List.length_cons] at this; omega
              have hp : o8.Perm L5 := Q8.out.trans ((List.perm_append_comm (l₂ := [x])).trans ((List.Perm.cons x HP.out).trans P5.out.symm))
              exact ⟨k + 1, L5, o8, a8, c8, by omega, by go_num, rfl, H5.out.same K8.out, hl5, I8.out, hp, S8.out, Kept.trans K5.out K8.out⟩
            case measure => simp [intOf]; omega
          · obtain rfl : s = [] := List.length_eq_zero_iff.1 (by omega)
            rcases a with _ | a1
            · skip
              obtain rfl : L = [] := List.length_eq_zero_iff.1 (by rw [HLN.out]; rfl)
              have t2 : True := trivial
              go_wp2_with (first
                | (go_at_call 16; go_must (refine (push_I HH.out HK.out.size x (by omega)).mono ?_; rintro e w5 ⟨rfl, L5, hp5, h5, f5⟩; have H5 := hidden h5; have P5 := hidden hp5; have C5 := hidden (HC.out.heap HH.out f5); have K5 := hidden (Same.heap HK.out HH.out (Nat.le_refl _) f5); have hap := (fun b d ty (W : World) => app0 (some ⟨w5.heap.size, 0, none⟩) 0 0 b d (Nat.le_refl _) ty W); have K6 := hidden (same_alloc w5 (.cells #[] 3)); have HNW : Hid (∀ j u, [Value.int .i64 x][j]? = some u → ((w5.alloc (.cells #[] 3)).alloc (.cells #[.int .i64 x] 3)).cell? ((⟨w5.heap.size + 1, 0, none⟩ : Addr).add j) = some u) := (by have z := World.news_of_block (show ((w5.alloc (.cells #[] 3)).alloc (.cells #[.int .i64 x] 3)).heap[(w5.alloc (.cells #[] 3)).heap.size]? = _ from heap_alloc_new (w5.alloc (.cells #[] 3)) (.cells #[.int .i64 x] 3)); rw [World.size_alloc] at z; exact z); have hg6 : w5.heap.size ≤ w5.heap.size := Nat.le_refl _; have O6 := hidden (World.ownsRow_made (e := 3) (size := 1) w5 #[] 0 (Nat.le_refl _) (by decide) (by decide)); clear h5 hp5 f5))
                | (rw [hap]; clear hap)
                | (at_builtin; have _t := t2; (refine wpList_append_lies _ (by rfl) _ _ 22 (by rfl) w5.heap.size 3 i0 _ 1 8 Try.underlying22 hi hz0 hz1 hz2 rfl (by decide) _ _ _ (by rfl) (O6.out.alloc _) ⟨w5.heap.size + 1, 0, none⟩ 1 1 [.int .i64 x] (by rfl) (by rfl) HNW.out (by simp [Value.oneCell']) (by decide) (by unfold maxLen; omega) (by omega) (by simp; omega) (w5.heap.size + 1 + 1) (by simp) ?_; intro g7 c7 w7 hown hgrow hat hlt7); have k7 : Same w5 w7 := K6.out.trans' (((Kept.refl (fun q => q = w5.heap.size) (w5.alloc (.cells #[] 3))).alloc _).grown hgrow (fun q hk _ => by simp [Value.ownBlock] at hk; exact hk.symm)) (fun q hq e => by omega); have O7 : Hid (w7.ownsRow w5.heap.size 3 1 (.slice (some ⟨g7, 0, none⟩) (0 + 1) c7) (0 + 1) (([x]).map kI)) := (by rw [Hid]; simpa using hown); have K7 := hidden k7; clear t2 hown hgrow hat k7)
                | (go_at_call 17; go_must (refine (sort_any _ ([x]) _ (own_Ints O7.out) (by first | (simp; omega) | simp)).mono ?_; rintro e w8 ⟨u8, rfl, ⟨o8, ho8, hp8, hs8, k8⟩⟩; obtain ⟨a8, c8, rfl, hin8⟩ := InL.new (B := 0) (H5.out.same K7.out) k8 ho8; have I8 := hidden hin8; have Q8 := hidden hp8; have S8 := hidden hs8; have K8 := hidden (Kept.trans K7.out k8); clear hin8 hp8 hs8 k8 ho8)))
              go_roundw
              case rel =>
                have hl5 : L5.length ≤ k + 1 := by have := P5.out.length_eq; rw [List.length_cons] at this; omega
                have hp : o8.Perm L5 := Q8.out.trans P5.out.symm
                exact ⟨k + 1, L5, o8, a8, c8, by omega, by go_num, rfl, H5.out.same K8.out, hl5, I8.out, hp, S8.out, Kept.trans K5.out K8.out⟩
              case measure => simp [intOf]; omega
            · skip
              obtain rfl : L = [] := List.length_eq_zero_iff.1 (by rw [HLN.out]; rfl)
              have t2 : True := trivial
              go_wp2_with (first
                | (go_at_call 16; go_must (refine (push_I HH.out HK.out.size x (by omega)).mono ?_; rintro e w5 ⟨rfl, L5, hp5, h5, f5⟩; have H5 := hidden h5; have P5 := hidden hp5; have C5 := hidden (HC.out.heap HH.out f5); have K5 := hidden (Same.heap HK.out HH.out (Nat.le_refl _) f5); have hap := (fun b d ty (W : World) => app0 (some ⟨w5.heap.size, 0, none⟩) 0 0 b d (Nat.le_refl _) ty W); have K6 := hidden (same_alloc w5 (.cells #[] 3)); have HNW : Hid (∀ j u, [Value.int .i64 x][j]? = some u → ((w5.alloc (.cells #[] 3)).alloc (.cells #[.int .i64 x] 3)).cell? ((⟨w5.heap.size + 1, 0, none⟩ : Addr).add j) = some u) := (by have z := World.news_of_block (show ((w5.alloc (.cells #[] 3)).alloc (.cells #[.int .i64 x] 3)).heap[(w5.alloc (.cells #[] 3)).heap.size]? = _ from heap_alloc_new (w5.alloc (.cells #[] 3)) (.cells #[.int .i64 x] 3)); rw [World.size_alloc] at z; exact z); have hg6 : w5.heap.size ≤ w5.heap.size := Nat.le_refl _; have O6 := hidden (World.ownsRow_made (e := 3) (size := 1) w5 #[] 0 (Nat.le_refl _) (by decide) (by decide)); clear h5 hp5 f5))
                | (rw [hap]; clear hap)
                | (at_builtin; have _t := t2; (refine wpList_append_lies _ (by rfl) _ _ 22 (by rfl) w5.heap.size 3 i0 _ 1 8 Try.underlying22 hi hz0 hz1 hz2 rfl (by decide) _ _ _ (by rfl) (O6.out.alloc _) ⟨w5.heap.size + 1, 0, none⟩ 1 1 [.int .i64 x] (by rfl) (by rfl) HNW.out (by simp [Value.oneCell']) (by decide) (by unfold maxLen; omega) (by omega) (by simp; omega) (w5.heap.size + 1 + 1) (by simp) ?_; intro g7 c7 w7 hown hgrow hat hlt7); have k7 : Same w5 w7 := K6.out.trans' (((Kept.refl (fun q => q = w5.heap.size) (w5.alloc (.cells #[] 3))).alloc _).grown hgrow (fun q hk _ => by simp [Value.ownBlock] at hk; exact hk.symm)) (fun q hq e => by omega); have O7 : Hid (w7.ownsRow w5.heap.size 3 1 (.slice (some ⟨g7, 0, none⟩) (0 + 1) c7) (0 + 1) (([x]).map kI)) := (by rw [Hid]; simpa using hown); have K7 := hidden k7; clear t2 hown hgrow hat k7)
                | (go_at_call 17; go_must (refine (sort_any _ ([x]) _ (own_Ints O7.out) (by first | (simp; omega) | simp)).mono ?_; rintro e w8 ⟨u8, rfl, ⟨o8, ho8, hp8, hs8, k8⟩⟩; obtain ⟨a8, c8, rfl, hin8⟩ := InL.new (B := 0) (H5.out.same K7.out) k8 ho8; have I8 := hidden hin8; have Q8 := hidden hp8; have S8 := hidden hs8; have K8 := hidden (Kept.trans K7.out k8); clear hin8 hp8 hs8 k8 ho8)))
              go_roundw
              case rel =>
                have hl5 : L5.length ≤ k + 1 := by have := P5.out.length_eq; rw [List.length_cons] at this; omega
                have hp : o8.Perm L5 := Q8.out.trans P5.out.symm
                exact ⟨k + 1, L5, o8, a8, c8, by omega, by go_num, rfl, H5.out.same K8.out, hl5, I8.out, hp, S8.out, Kept.trans K5.out K8.out⟩
              case measure => simp [intOf]; omega
    · obtain rfl : k = n := by omega
      have q1 : ¬ (k : Int) < (k : Int) := by omega
      have LN := hidden (len_I HH.out)
      rw [HLN.out] at LN
      go_wp2_with (go_at_call 15; go_must (refine (LN.out).mono ?_; rintro e w5 ⟨rfl, rfl⟩))
      go_returns
      exact ⟨by first | rfl | simp, HK.out⟩
end Go.Proofs.Ytcejgbojiejjdaa
