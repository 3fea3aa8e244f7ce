/- The law's filled, sameBytes. -/
import Derived.Test.YteoajgphahobiaaD4
namespace Go.Proofs.Yteoajgphahobiaa
open Go.RowKit
set_option linter.unusedVariables false
/-- What filled has laid so far. -/
def flTo (n c k : Nat) : List UInt8 := (List.range n).map fun j => if j < k then UInt8.ofNat (c + j) else 0
theorem flTo_len (n c k : Nat) : (flTo n c k).length = n := by simp [flTo]
theorem flTo_zero (n c : Nat) : (flTo n c 0).map U8 = List.replicate n (U8 0) := by
  apply List.ext_getElem
  · simp [flTo]
  · intro j h1 h2
    simp [flTo]
theorem flTo_succ (n c k : Nat) : ((flTo n c k).map U8).toArray.setIfInBounds k (U8 (UInt8.ofNat (c + k))) = ((flTo n c (k + 1)).map U8).toArray := by
  apply Array.ext'
  rw [Array.toList_setIfInBounds, List.toList_toArray, List.toList_toArray]
  apply List.ext_getElem
  · simp [flTo]
  · intro j h1 h2
    rw [List.getElem_set]
    simp only [flTo, List.getElem_map, List.getElem_range]
    by_cases hj : k = j
    · subst hj
      simp
    · rw [if_neg hj]
      by_cases h3 : j < k
      · rw [if_pos h3, if_pos (by omega)]
      · rw [if_neg h3, if_neg (by omega)]
theorem byte_sum (c k : Nat) (hc : c < 256) (hk : k < 40) : Value.int .u8 (IntKind.u8.wrap ((c : Int) + (k : Int))) = U8 (UInt8.ofNat (c + k)) := by
  have e : IntKind.u8.wrap ((c : Int) + (k : Int)) = (((c + k) % 256 : Nat) : Int) := by
    rw [IntKind.wrap_u8']
    omega
  rw [e]
  unfold U8
  rw [UInt8.toNat_ofNat']
set_option maxHeartbeats 1000000 in
set_option maxRecDepth 100000 in
theorem filled_any (n c : Nat) (w : World) (hn : n ≤ 140737488355328) (hc : c < 256) : Calls Try.prog 24 #[.int .i64 n, .int .u8 c] w fun e w' => ∃ u, e = .returned u ∧ Own w' u (flTo n c (min n 40)) w.heap.size ∧ Same w w' := by
  have hmk := make_bytes n (by omega)
  rw [← flTo_zero n c] at hmk
  generalize hZ : ((flTo n c 0).map U8).toArray = Z at hmk
  go_enter Try.func24, Try.ntmps24
  go_wp2
  go_loopw [6] (fun i wr => ∃ k : Nat, k ≤ min n 40 ∧ i = .int .i64 k ∧ wr.heap[w.heap.size]? = some (.cells ((flTo n c k).map U8).toArray 5 (0, 0)) ∧ Same w wr) (fun i wr => 40 - (intOf i).toNat)
  case atStart => exact ⟨0, Nat.zero_le _, rfl, by rw [hZ]; exact heap_alloc_new w _, same_alloc _ _⟩
  case round =>
    obtain ⟨k, hk, rfl, hb, hK⟩ := hrel
    by_cases h1 : k < n
    · by_cases h2 : k < 40
      · have q0 : (0 : Int) ≤ (k : Int) := Int.natCast_nonneg _
        have q1 : (k : Int) < (n : Int) := by omega
        have q2 : (k : Int) < 40 := by omega
        have hkw : IntKind.u8.wrap (k : Int) = (k : Int) := by rw [IntKind.wrap_u8']; omega
        have hbs := byte_sum c k hc h2
        have hcell : ∃ x, wr.cell? ⟨w.heap.size, k, none⟩ = some x := ⟨U8 ((flTo n c k)[k]'(by rw [flTo_len]; exact h1)), by rw [blk_cell hb]; simp [flTo_len, h1]⟩
        obtain ⟨x, hx⟩ := hcell
        have hfz : wr.frozen? ⟨w.heap.size, k, none⟩ = false := blk_free hb
        have HB := hidden hb
        have HK := hidden hK
        have HS := hidden hbs
        clear hb hK hbs
        go_wp2
        go_roundw
        case rel =>
          refine ⟨k + 1, by omega, by go_num, ?_, HK.out.setNew (p := ⟨w.heap.size, k, none⟩) (Nat.le_refl _) _⟩
          have e := HS.out
          first
            | (rw [e, blk_set HB.out, flTo_succ])
            | (rw [show ((c : Int) + (k : Int)) % 256 = IntKind.u8.wrap ((c : Int) + (k : Int)) by rw [IntKind.wrap_u8'], e, blk_set HB.out, flTo_succ])
        case measure => simp [intOf]; omega
      · have q1 : (k : Int) < (n : Int) := by omega
        have q2 : ¬ (k : Int) < 40 := by omega
        have HB := hidden hb
        have HK := hidden hK
        clear hb hK
        go_wp2
        go_returns
        exact ⟨_, rfl, ⟨w.heap.size, Nat.le_refl _, by rw [flTo_len]; rfl, by rw [HB.out, show k = min n 40 by omega]⟩, HK.out⟩
    · have q1 : ¬ (k : Int) < (n : Int) := by omega
      have HB := hidden hb
      have HK := hidden hK
      clear hb hK
      go_wp2
      go_returns
      exact ⟨_, rfl, ⟨w.heap.size, Nat.le_refl _, by rw [flTo_len]; rfl, by rw [HB.out, show k = min n 40 by omega]⟩, HK.out⟩
set_option maxHeartbeats 1000000 in
set_option maxRecDepth 100000 in
theorem same_eq (x y : Value) (a : List UInt8) (w : World) (hx : Byt w x a) (hy : Byt w y a) (ha : a.length ≤ 140737488355328) : Calls Try.prog 14 #[x, y] w fun e w' => e = .returned (.bool true) ∧ Same w w' := by
  obtain ⟨a1, c1, rfl⟩ := hx.form
  obtain ⟨a2, c2, rfl⟩ := hy.form
  have HX := hidden hx
  have HY := hidden hy
  clear hx hy
  go_enter Try.func14, Try.ntmps14
  go_wp2
  go_loopw [5] (fun i wr => ∃ k : Nat, k ≤ a.length ∧ i = .int .i64 k ∧ Same w wr) (fun i wr => a.length - (intOf i).toNat)
  case atStart => exact ⟨0, Nat.zero_le _, rfl, Kept.refl _ _⟩
  case round =>
    obtain ⟨k, hk, rfl, hK⟩ := hrel
    by_cases h1 : k < a.length
    · rcases HX.out with ⟨_, h0⟩ | ⟨b1, d1, e1, hc1⟩
      · simp [h0] at h1
      rcases HY.out with ⟨_, h0⟩ | ⟨b2, d2, e2, hc2⟩
      · simp [h0] at h1
      obtain ⟨rfl, rfl⟩ : a1 = some b1 ∧ c1 = d1 := by simpa using e1
      obtain ⟨rfl, rfl⟩ : a2 = some b2 ∧ c2 = d2 := by simpa using e2
      have q0 : (0 : Int) ≤ (k : Int) := Int.natCast_nonneg _
      have q1 : (k : Int) < (a.length : Int) := by omega
      have x1 := Kept.cell hK (fun h => h) (hc1 k h1)
      have x2 := Kept.cell hK (fun h => h) (hc2 k h1)
      unfold U8 at x1 x2
      generalize ((a[k]).toNat : Int) = z at x1 x2
      have HK := hidden hK
      clear hK hc1 hc2 e1 e2
      go_wp2
      go_quiet (fail)
      go_wp2
      go_roundw
      case rel => exact ⟨k + 1, by omega, by go_num, HK.out.drewN _⟩
      case measure => simp [intOf]; omega
    · have q1 : ¬ (k : Int) < (a.length : Int) := by omega
      go_wp2
      go_returns
      exact ⟨rfl, hK⟩
end Go.Proofs.Yteoajgphahobiaa
