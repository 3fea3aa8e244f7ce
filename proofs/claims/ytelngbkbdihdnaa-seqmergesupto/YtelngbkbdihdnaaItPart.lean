/- The law's part. -/
import Derived.Test.YtelngbkbdihdnaaItPut2
namespace Go.Proofs.Ytelngbkbdihdnaa
open Go.RowKit
set_option linter.unusedVariables false
theorem rng_take {x y : ByteArray} {l : List Kv} {i : Nat} (hi : i < l.length) : rng x y (l.take (i + 1)) = rng x y (l.take i) ++ rng x y [l[i]] := by
  rw [List.take_succ_eq_append_getElem hi, rng_app]
theorem rng_yes {x y : ByteArray} {p : Kv} (h1 : ltS p.1 x = false) (h2 : ltS p.1 y = true) : rng x y [p] = [p] := by simp [rng, h1, h2]
theorem rng_no1 {x y : ByteArray} {p : Kv} (h1 : ltS p.1 x = true) : rng x y [p] = [] := by simp [rng, h1]
theorem rng_no2 {x y : ByteArray} {p : Kv} (h2 : ltS p.1 y = false) : rng x y [p] = [] := by simp [rng, h2]
theorem rng_len (x y : ByteArray) (l : List Kv) : (rng x y l).length ≤ l.length := List.length_filter_le _ _
set_option maxHeartbeats 4000000 in
set_option maxRecDepth 100000 in
theorem part_any (x y : ByteArray) {l : List Kv} {v : Value} {w : World} (h : ItR 0 w v l) (hl : (l.length + 1) * 24 ≤ 140737488355328) :
    Calls Try.prog 54 #[v, .string x, .string y] w fun e w' => ∃ u, e = .returned u ∧ ItR w.heap.size w' u (rng x y l) ∧ Same w w' := by
  have HR : Hid (∀ W, Same w W → ItR 0 W v l) := fun W kk => h.same kk
  obtain ⟨a0, c0, rfl, hc0, hb⟩ := h.form
  have HB := hidden hb
  obtain ⟨n, hn⟩ : ∃ n, l.length = n := ⟨_, rfl⟩
  obtain ⟨i0, hi0, hz0, hz1, hz2⟩ := info_parts infoItem
  have HN := hidden hn
  rw [hn] at hl hc0 ⊢
  clear h hb hn
  go_enter Try.func54, Try.ntmps54
  go_wp2
  go_loopw [7, 12] (fun ov iv wr => ∃ (i m c : Nat) (a : Option Addr), i ≤ n ∧ iv = .int .i64 i ∧ ov = .slice a m c ∧ m ≤ i ∧ wr.ownsRow w.heap.size 70 2 (.slice a m c) m (flat (rng x y (l.take i))) ∧ (rng x y (l.take i)).length = m ∧ Same w wr) (fun ov iv wr => n - (intOf iv).toNat)
  case atStart => exact ⟨0, 0, 0, none, Nat.zero_le _, rfl, rfl, Nat.le_refl _, World.ownsRow_nil _ _ _ _, rfl, Kept.refl _ _⟩
  case round =>
    obtain ⟨i, m, c, a, hi, rfl, rfl, hmi, hO, hM, hK⟩ := hrel
    have HO := hidden hO
    have HM := hidden hM
    have HK := hidden hK
    have hsz := hK.size
    clear hO hM hK
    by_cases h1 : i < n
    · have hil : i < l.length := by rw [HN.out]; exact h1
      obtain ⟨b, rfl⟩ := HB.out (by omega)
      obtain ⟨y0, y1⟩ := (HR.out wr HK.out).at i hil
      obtain ⟨⟨k, z⟩, hay⟩ : ∃ e, l[i] = e := ⟨_, rfl⟩
      have HT := hidden (rng_take (x := x) (y := y) hil)
      rw [hay] at y0 y1 HT
      have q1 : (i : Int) < (n : Int) := by omega
      have q0 : (0 : Int) ≤ (i : Int) := Int.natCast_nonneg _
      clear hay
      have hbe := heap_alloc_new wr (.cells #[.string k, .int .i64 z] 70)
      have d0 : (wr.alloc (.cells #[.string k, .int .i64 z] 70)).cell? ⟨wr.heap.size, 0, none⟩ = some (.string k) := blk_cell hbe
      have d1 : (wr.alloc (.cells #[.string k, .int .i64 z] 70)).cell? ⟨wr.heap.size, 1, none⟩ = some (.int .i64 z) := blk_cell hbe
      have HB2 : Hid (((wr.alloc (.cells #[.string k, .int .i64 z] 70)).alloc (.cells #[.string k, .int .i64 z] 70)).heap[wr.heap.size + 1]? = some (.cells #[.string k, .int .i64 z] 70 (0, 0))) := by have := heap_alloc_new (wr.alloc (.cells #[.string k, .int .i64 z] 70)) (.cells #[.string k, .int .i64 z] 70); rw [alloc_size1] at this; exact this
      clear hbe
      cases e1 : ltS k x
      · have f1 : Op.bytesLess k.toList x.toList = false := by rw [bytesLess_eq]; exact e1
        cases e2 : ltS k y
        · have f2 : Op.bytesLess k.toList y.toList = false := by rw [bytesLess_eq]; exact e2
          go_wp2
          go_roundw
          case rel => exact ⟨i + 1, m, c, a, by omega, by go_num, rfl, by omega, by rw [HT.out, rng_no2 e2, List.append_nil]; exact HO.out.alloc _, by rw [HT.out, rng_no2 e2, List.append_nil]; exact HM.out, HK.out.alloc _⟩
          case measure => simp [intOf]; omega
        · have f2 : Op.bytesLess k.toList y.toList = true := by rw [bytesLess_eq]; exact e2
          go_wp2_with (at_builtin; go_must (refine wpList_append_any (by rfl) _ _ 42 (by rfl) w.heap.size 70 i0 _ 2 24 Try.underlying42 hi0 hz0 hz1 hz2 rfl (by decide) _ _ _ _ (by rfl) ((HO.out.alloc _).alloc _) (some ⟨wr.heap.size + 1, 0, none⟩) 1 1 (flat [(k, z)]) (by rfl) (by rfl) (lies_of (World.news_of_block HB2.out)) (flat_one _) (by unfold maxLen; omega) (by omega) (by simp; omega) ?_; intro a3 c3 w3 hown hgrow; have R3 := hidden (same_grown (m := 0) ((HK.out.alloc _).alloc _) ((HO.out.alloc _).alloc _) hgrow); rw [← flat_app] at hown; have O3 := hidden hown; clear hown hgrow))
          go_roundw
          case rel => exact ⟨i + 1, m + 1, c3, a3, by omega, by go_num, rfl, by omega, by rw [HT.out, rng_yes e1 e2]; exact O3.out, by rw [HT.out, rng_yes e1 e2, List.length_append, HM.out]; rfl, R3.out⟩
          case measure => simp [intOf]; omega
      · have f1 : Op.bytesLess k.toList x.toList = true := by rw [bytesLess_eq]; exact e1
        go_wp2
        go_roundw
        case rel => exact ⟨i + 1, m, c, a, by omega, by go_num, rfl, by omega, by rw [HT.out, rng_no1 e1, List.append_nil]; exact HO.out.alloc _, by rw [HT.out, rng_no1 e1, List.append_nil]; exact HM.out, HK.out.alloc _⟩
        case measure => simp [intOf]; omega
    · obtain rfl : i = n := by omega
      have q1 : ¬ (i : Int) < (i : Int) := by omega
      go_wp2
      go_returns
      refine ⟨_, rfl, ?_, HK.out⟩
      have := HO.out
      rw [List.take_of_length_le (by rw [HN.out]; exact Nat.le_refl _)] at this
      have hm := HM.out
      rw [List.take_of_length_le (by rw [HN.out]; exact Nat.le_refl _)] at hm
      unfold ItR
      rw [hm]
      exact this
end Go.Proofs.Ytelngbkbdihdnaa
