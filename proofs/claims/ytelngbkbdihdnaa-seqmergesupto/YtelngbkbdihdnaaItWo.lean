/- The document's Without. -/
import Derived.Test.YtelngbkbdihdnaaItSo
import Derived.Test.YtelngbkbdihdnaaQS
namespace Go.Proofs.Ytelngbkbdihdnaa
open Go.RowKit
set_option linter.unusedVariables false
def memS (ks : List ByteArray) (a : ByteArray) : Bool := ks.any (fun k => k.toList == a.toList)
theorem memS_snoc (ks : List ByteArray) (k a : ByteArray) : memS (ks ++ [k]) a = (memS ks a || (k.toList == a.toList)) := by simp [memS, List.any_append]
def wo (ks : List ByteArray) (l : List Kv) : List Kv := l.filter (fun p => !memS ks p.1)
theorem wo_snoc (ks : List ByteArray) (l : List Kv) (p : Kv) : wo ks (l ++ [p]) = wo ks l ++ (if memS ks p.1 then [] else [p]) := by
  unfold wo
  rw [List.filter_append]
  cases h : memS ks p.1 <;> simp [h]
theorem wo_len (ks : List ByteArray) (l : List Kv) : (wo ks l).length ≤ l.length := List.length_filter_le _ _
set_option maxHeartbeats 2000000 in
set_option maxRecDepth 100000 in
theorem withoutD_any {l : List Kv} {v kv : Value} {ks : List ByteArray} {w : World} (h : Its w v l) (hk : Strs w kv ks) (hl : (l.length + 1) * 24 ≤ 140737488355328) (hks : ks.length * 16 ≤ 140737488351232) :
    Calls Try.prog 37 #[v, kv] w fun e w' => ∃ u, e = .returned u ∧ ItR w.heap.size w' u (wo ks (sortL l)) ∧ Same w w' := by
  have HSO := hidden (sortOut_any h hl)
  have HSK : Hid (∀ W, Same w W → Strs W kv ks) := fun W kk => hk.same kk
  obtain ⟨ka, kc, rfl⟩ := hk.form
  obtain ⟨m, hm⟩ : ∃ m, ks.length = m := ⟨_, rfl⟩
  obtain ⟨i0, hi0, hz0, hz1, hz2⟩ := info_parts infoItem
  obtain ⟨va, vc, rfl, _⟩ := h
  have HM := hidden hm
  have hlz := hl
  obtain ⟨nl, hnl⟩ : ∃ nl, l.length = nl := ⟨_, rfl⟩
  have HNL := hidden hnl
  have HKC : Hid (∀ W, Same w W → ∀ j (hj : j < ks.length), ∃ a, ka = some a ∧ W.cell? (a.add j) = some (.string ks[j])) := fun W kk j hj => by
    rcases HSK.out W kk with ⟨_, e⟩ | ⟨a, cap, e, hc⟩
    · rw [e] at hj; simp at hj
    · simp only [Value.slice.injEq] at e
      exact ⟨a, e.1, hc j hj⟩
  rw [hm] at hks ⊢
  rw [hnl] at hl HSO ⊢
  clear hk hm hnl hlz
  go_enter Try.func37, Try.ntmps37
  go_wp2_with (go_at_call 38; go_must (refine (HSO.out).mono ?_; rintro e w1 ⟨u, rfl, i1, l1, k1⟩; have I1 := hidden i1; have L1 := hidden l1; have K1 := hidden k1; obtain ⟨ua, uc, rfl, huc, hub⟩ := i1.form; have HUB := hidden hub; clear i1 l1 k1 hub))
  obtain ⟨L, hL⟩ : ∃ L, sortL l = L := ⟨_, rfl⟩
  rw [hL] at I1 L1 huc HUB ⊢
  obtain ⟨n, hn⟩ : ∃ n, L.length = n := ⟨_, rfl⟩
  have HN := hidden hn
  have HL0 := hidden hL
  rw [hn] at I1 L1 huc HUB ⊢
  have hn2 := L1.out
  clear hn hL
  go_loopw [5, 14] (fun ov iv wr => ∃ (i mm c : Nat) (a : Option Addr), i ≤ n ∧ iv = .int .i64 i ∧ ov = .slice a mm c ∧ mm ≤ i ∧ (wo ks (L.take i)).length = mm ∧ wr.ownsRow w1.heap.size 70 2 (.slice a mm c) mm (flat (wo ks (L.take i))) ∧ Same w1 wr) (fun ov iv wr => n - (intOf iv).toNat)
  case atStart => exact ⟨0, 0, 0, none, Nat.zero_le _, rfl, rfl, Nat.le_refl _, rfl, World.ownsRow_nil _ _ _ _, Kept.refl _ _⟩
  case round =>
    obtain ⟨i, mm, c, a, hi, rfl, rfl, hmi, hml, hO, hK⟩ := hrel
    have HO := hidden hO
    have HML := hidden hml
    have HK := hidden hK
    have hsz := hK.size
    clear hO hK hml
    by_cases h1 : i < n
    · have hil : i < L.length := by rw [HN.out]; exact h1
      obtain ⟨b, rfl⟩ := HUB.out (by omega)
      have hia := I1.out.same HK.out
      have hrow : ItR w.heap.size wr (.slice (some ⟨b, 0, none⟩) n uc) L := hia
      obtain ⟨y0, y1⟩ := hrow.at i hil
      obtain ⟨⟨k, z⟩, hay⟩ : ∃ e, L[i] = e := ⟨_, rfl⟩
      have HT := hidden (show wo ks (L.take (i + 1)) = wo ks (L.take i) ++ (if memS ks k then [] else [(k, z)]) by rw [take_snoc hil, wo_snoc, hay])
      rw [hay] at y0 y1
      have q1 : (i : Int) < (n : Int) := by omega
      have q0 : (0 : Int) ≤ (i : Int) := Int.natCast_nonneg _
      obtain ⟨wx, hwx⟩ : ∃ W, W = wr.alloc (.cells #[.string k, .int .i64 z] 70) := ⟨_, rfl⟩
      have hbe : wx.heap[wr.heap.size]? = some (.cells #[.string k, .int .i64 z] 70 (0, 0)) := by rw [hwx]; exact heap_alloc_new wr _
      have kx : Same wr wx := by rw [hwx]; exact same_alloc _ _
      have hsx : wx.heap.size = wr.heap.size + 1 := by rw [hwx]; exact alloc_size1 _ _
      have d0 : wx.cell? ⟨wr.heap.size, 0, none⟩ = some (.string k) := blk_cell hbe
      have d1 : wx.cell? ⟨wr.heap.size, 1, none⟩ = some (.int .i64 z) := blk_cell hbe
      have HKX := hidden kx
      have HOX := hidden (own_kept HO.out kx (fun _ _ h => h))
      have HWX := hidden hwx
      clear hbe hay hia hrow kx
      go_wp2
      rw [← hwx]
      clear hwx
      go_loop [8, 20] (fun gv jv => ∃ j : Nat, j ≤ m ∧ jv = .int .i64 j ∧ gv = .bool (memS (ks.take j) k)) (fun gv jv => m - (intOf jv).toNat)
      case atStart => exact ⟨0, Nat.zero_le _, rfl, rfl⟩
      case round =>
        obtain ⟨j, hj, rfl, rfl⟩ := hrel
        by_cases h2 : j < m
        · have hjl : j < ks.length := by rw [HM.out]; exact h2
          obtain ⟨ad, rfl, hc⟩ := HKC.out wx (K1.out.trans (HK.out.trans HKX.out)) j hjl
          have HS2 := hidden (show memS (ks.take (j + 1)) k = (memS (ks.take j) k || (ks[j].toList == k.toList)) by rw [List.take_succ_eq_append_getElem hjl, memS_snoc])
          obtain ⟨kj, hkj⟩ : ∃ e, ks[j] = e := ⟨_, rfl⟩
          rw [hkj] at hc HS2
          clear hkj
          have q2 : (j : Int) < (m : Int) := by omega
          have q3 : (0 : Int) ≤ (j : Int) := Int.natCast_nonneg _
          generalize memS (ks.take j) k = bo at HS2
          cases bo
          · go_wp2
            refine ⟨⟨j + 1, by omega, by go_num, by rw [HS2.out]; simp⟩, by simp [intOf]; omega⟩
          · go_wp2
            refine ⟨⟨j + 1, by omega, by go_num, by rw [HS2.out]; simp⟩, by simp [intOf]; omega⟩
        · obtain rfl : j = m := by omega
          have q2 : ¬ (j : Int) < (j : Int) := by omega
          rw [List.take_of_length_le (by rw [HM.out]; exact Nat.le_refl _)]
          generalize memS ks k = bo at HT
          cases bo
          · have HB2 : Hid ((wx.alloc (.cells #[.string k, .int .i64 z] 70)).heap[wr.heap.size + 1]? = some (.cells #[.string k, .int .i64 z] 70 (0, 0))) := by rw [← hsx]; exact heap_alloc_new wx _
            go_wp2_with (at_builtin; go_must (refine wpList_append_any (by rfl) _ _ 42 (by rfl) w1.heap.size 70 i0 _ 2 24 Try.underlying42 hi0 hz0 hz1 hz2 rfl (by decide) _ _ _ _ (by rfl) (HOX.out.alloc _) (some ⟨wr.heap.size + 1, 0, none⟩) 1 1 (flat [(k, z)]) (by rfl) (by rfl) (lies_of (World.news_of_block HB2.out)) (flat_one _) (by unfold maxLen; omega) (by omega) (by simp; omega) ?_; intro a3 c3 w3 hown hgrow; have R3 := hidden (Kept.trans' (HK.out.trans HKX.out) ((Kept.refl (fun x => (Value.slice a mm c).ownBlock = some x) wx).alloc _ |>.grown hgrow (fun q hq _ => hq)) (fun q hq hs => by have := (HO.out.lt q hs).1; omega)); rw [← flat_app] at hown; have O3 := hidden hown; clear hown hgrow))
            go_roundw
            case rel => exact ⟨i + 1, mm + 1, c3, a3, by omega, by go_num, rfl, by omega, by rw [HT.out, List.length_append, HML.out]; rfl, by rw [HT.out]; exact O3.out, R3.out⟩
            case measure => simp [intOf]; omega
          · go_wp2
            go_roundw
            case rel => exact ⟨i + 1, mm, c, a, by omega, by go_num, rfl, by omega, by rw [HT.out]; simpa using HML.out, by rw [HT.out]; simpa using HOX.out, HK.out.trans HKX.out⟩
            case measure => simp [intOf]; omega
    · obtain rfl : i = n := by omega
      have q1 : ¬ (i : Int) < (i : Int) := by omega
      go_wp2
      go_returns
      refine ⟨_, rfl, ?_, K1.out.trans HK.out⟩
      have ho := HO.out
      have hml := HML.out
      rw [List.take_of_length_le (by rw [HN.out]; exact Nat.le_refl _)] at ho hml
      unfold ItR
      rw [HL0.out, hml]
      exact own_mono ho K1.out.size
end Go.Proofs.Ytelngbkbdihdnaa
