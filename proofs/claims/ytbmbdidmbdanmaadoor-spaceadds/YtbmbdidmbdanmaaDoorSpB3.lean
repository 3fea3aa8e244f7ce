/- The program's Bits. -/
import Derived.Test.YtbmbdidmbdanmaaDoorSpB2
namespace Go.Proofs.YtbmbdidmbdanmaaDoor
open Go.RowKit Go.Shelf
set_option linter.unusedVariables false
set_option linter.unusedSimpArgs false
theorem byte_of {t : Nat → Bool} {x q s i count : Nat} (hx : ∀ j, j < 64 → x.testBit j = t (64 * q + j)) (hs : 8 * i = 64 * q + s) (hs8 : s + 8 ≤ 64) (hc : ∀ j, count ≤ j → j < 8 * i + 8 → t j = false) : x / 2 ^ s % 256 = bk t count i := by
  unfold bk
  have h1 : bw t (8 * i) 8 = bw t (8 * i) (min 8 (count - 8 * i)) := by
    have := bw_none (t := t) (a := 8 * i) (n := min 8 (count - 8 * i)) (8 - min 8 (count - 8 * i)) (fun j h1 h2 => hc _ (by omega) (by omega))
    rwa [show min 8 (count - 8 * i) + (8 - min 8 (count - 8 * i)) = 8 by omega] at this
  rw [← h1]
  apply Nat.eq_of_testBit_eq
  intro j
  rw [bw_bit, show (256 : Nat) = 2 ^ 8 by rfl, Nat.testBit_mod_two_pow, ← Nat.shiftRight_eq_div_pow, Nat.testBit_shiftRight]
  by_cases h : j < 8
  · rw [hx (s + j) (by omega), hs, show 64 * q + s + j = 64 * q + (s + j) by omega]
  · simp [h]
set_option maxHeartbeats 4000000 in
set_option maxRecDepth 100000 in
theorem sp_bits (g first count : Nat) (u v : Nat → Bool) (res : Nat) (w : World) (h : SpAt g first count u v res w) :
    Calls Tryd.prog 29 #[.pointer (some ⟨g, 0, none⟩)] w fun e w' => e = .returned (.string (bitsV ((count + 7) / 8) (bk (fun i => u i || v i) count))) ∧ Same w w' := by
  have A := hidden (sp_made g first count u v res w h)
  have HH := hidden (fun W (k : Same w W) => h.kept k (fun h => h))
  have K := hidden (fun W (k : Same w W) => sp_taken g first count u v res W (h.kept k (fun h => h)))
  have l3 := h.fits
  have hz : ∀ j, count ≤ j → j < 4096 → (u j || v j) = false := fun j h1 h2 => by rw [h.inU j h1 h2, h.inV j h1 h2]; rfl
  obtain ⟨t, ht⟩ : ∃ t : Nat → Bool, t = fun i => u i || v i := ⟨_, rfl⟩
  have HTz : Hid (∀ j, count ≤ j → j < 4096 → t j = false) := by rw [ht]; exact hz
  rw [← ht] at K ⊢
  obtain ⟨c8, hc8⟩ : ∃ c8, c8 = count + 8 := ⟨_, rfl⟩
  obtain ⟨c7, hc7⟩ : ∃ c7, c7 = count + 7 := ⟨_, rfl⟩
  obtain ⟨nb, hnb⟩ : ∃ nb, nb = c7 / 8 := ⟨_, rfl⟩
  rw [← hc7, ← hnb]
  have a0 : IntKind.i64.wrap ((count : Int) + 8) = (c8 : Int) := by rw [IntKind.wrap_i64]; omega
  have a1 : IntKind.i64.wrap ((c8 : Int) - 1) = (c7 : Int) := by rw [IntKind.wrap_i64]; omega
  have a2 : IntKind.i64.wrap ((c7 : Int) / 8) = (nb : Int) := by rw [IntKind.wrap_i64]; omega
  have hnb2 : count ≤ 8 * nb ∧ nb ≤ 4096 ∧ 8 * nb < count + 8 ∧ nb ≤ 512 := by omega
  have hmk := make_bits nb hnb2.2.1
  clear h ht hz hc8 hc7 hnb
  go_enter Tryd.func29, Tryd.ntmps29
  go_wp2_with (first
    | (go_at_call 44; refine A.out.mono ?_; rintro e w1 ⟨rfl, rfl⟩)
    | (go_at_call 49; refine (K.out _ (Kept.refl _ _)).mono ?_; rintro e w3 ⟨cc, rfl, hc, hb, k3⟩; have K3 := hidden k3; have HC := hidden hc; have HBm := hidden hb; clear hc hb k3)
    | (refine wl_store 53 _ _ rfl rfl rfl _ rfl cc rfl (run_storeAt_new w3 53 _ cc (by rw [iBm, HC.out]) (by rw [HC.out]; rfl) (HBm.out.one HC.out)) ?_; obtain ⟨cs, hcb, _, _, hc1, _⟩ := (HH.out _ (K3.out.alloc (.cells cc 53))).box; have x1 : (w3.alloc (.cells cc 53)).cell? ⟨g, 1, none⟩ = some (.int .i64 count) := (blk_cell hcb).trans hc1; clear hcb hc1))
  have B0 := hidden (blk_new w3 (.cells cc 53))
  have K4 := hidden (K3.out.alloc (.cells cc 53))
  have hw4 : (w3.alloc (.cells cc 53)).heap.size = w3.heap.size + 1 := by simp
  obtain ⟨tb, htb⟩ : ∃ tb, tb = w3.heap.size := ⟨_, rfl⟩
  have hk3 := K3.out.size
  go_loopw [22] (fun x wr => ∃ k : Nat, k ≤ nb ∧ x = .int .i64 k ∧ wr.heap[w3.heap.size + 1]? = some (.cells (byA nb (fun i => if i < k then bk t count i else 0)) 5 (0, 0)) ∧ wr.heap[w3.heap.size]? = some (.cells cc 53 (0, 0)) ∧ Same w wr) (fun x _ => nb - (intOf x).toNat)
  case atStart =>
    refine ⟨0, Nat.zero_le _, rfl, ?_, blk_alloc B0.out _, K4.out.alloc _⟩
    rw [byA_ext (p := fun _ => 0) (fun k _ => by simp)]
    have := blk_new (w3.alloc (.cells cc 53)) (.cells (byA nb (fun _ => 0)) 5)
    rw [hw4] at this
    exact this
  case round =>
    obtain ⟨k, hk, rfl, hB, hB0, hK⟩ := hrel
    have HB := hidden hB
    have HB0 := hidden hB0
    have HK := hidden hK
    clear hB hB0 hK
    by_cases hlt : k < nb
    · obtain ⟨k8, hk8⟩ : ∃ k8, k8 = 8 * k := ⟨_, rfl⟩
      obtain ⟨qq, hqq⟩ : ∃ qq, qq = k8 / 64 := ⟨_, rfl⟩
      obtain ⟨s, hs⟩ : ∃ s, s = k8 % 64 := ⟨_, rfl⟩
      have hq4 : qq < 64 := by omega
      obtain ⟨x, hcx, hx64, hbit⟩ := HBm.out.word qq hq4
      rw [Nat.zero_add] at hcx
      have cx : wr.cell? ⟨w3.heap.size, qq, none⟩ = some (.int .u64 x) := (blk_cell HB0.out).trans hcx
      obtain ⟨R, hR⟩ : ∃ R, R = x / 2 ^ s := ⟨_, rfl⟩
      obtain ⟨y, hy⟩ : ∃ y, y = bk t count k := ⟨_, rfl⟩
      have hyR : R % 256 = y := by rw [hR, hy]; exact byte_of hbit (by omega) (by omega) (fun j h1 h2 => HTz.out j h1 (by omega))
      have hRl : R < 18446744073709551616 := by rw [hR]; exact Nat.lt_of_le_of_lt (Nat.div_le_self _ _) hx64
      have d0 : IntKind.i64.wrap (8 * (k : Int)) = (k8 : Int) := by rw [IntKind.wrap_i64]; omega
      have d1 : IntKind.i64.wrap ((k8 : Int) / 64) = (qq : Int) := by rw [IntKind.wrap_i64]; omega
      have d2 : IntKind.i64.wrap ((k8 : Int) % 64) = (s : Int) := by rw [IntKind.wrap_i64]; omega
      have d2' : (k8 : Int).tmod 64 = (s : Int) := by rw [Int.tmod_eq_emod_of_nonneg (by omega)]; omega
      have d4 : (x : Int) / 2 ^ s = (R : Int) := by rw [hR]; simp
      have d5 : IntKind.u64.wrap (R : Int) = (R : Int) := by rw [IntKind.wrap_u64]; omega
      have d6 : IntKind.u8.wrap (R : Int) = (y : Int) := by rw [IntKind.wrap_u8]; omega
      have k3 : (0 : Int) ≤ (qq : Int) := by omega
      have k4 : (qq : Int) < 64 := by omega
      have k5 : (s : Int) ≤ 64 := by omega
      have k6 : (0 : Int) ≤ (s : Int) := by omega
      have w4 : IntKind.i64.wrap ((k : Int) + 1) = (k : Int) + 1 := by rw [IntKind.wrap_i64]; omega
      have y4 : (0 : Int) ≤ (k : Int) := Int.natCast_nonneg _
      have y5 : (k : Int) < (nb : Int) := by omega
      have cb : wr.cell? ⟨w3.heap.size + 1, k, none⟩ = some (.int .u8 0) := by rw [blk_cell HB.out, byA_at _ _ hlt]; simp
      have fb : wr.frozen? ⟨w3.heap.size + 1, k, none⟩ = false := blk_free HB.out
      have HY := hidden hy
      clear hk8 hqq hs hR hy hyR hbit hcx hx64
      go_wp2
      go_roundw
      case rel =>
        refine ⟨k + 1, by omega, by go_num, ?_, blk_kept ((Kept.refl (fun b => b = w3.heap.size + 1) wr).setCell (p := ⟨w3.heap.size + 1, k, none⟩) rfl _) (by omega) HB0.out, HK.out.setNew (p := ⟨w3.heap.size + 1, k, none⟩) (by show w.heap.size ≤ w3.heap.size + 1; omega) _⟩
        have := blk_set (w := wr) (j := k) HB.out (.int .u8 (y : Int))
        rw [byA_set] at this
        rw [byA_ext (p := fun j => if j = k then y else if j < k then bk t count j else 0) (fun i _ => ?_)]
        · exact this
        · show (if i < k + 1 then bk t count i else 0) = if i = k then y else if i < k then bk t count i else 0
          by_cases e : i = k
          · rw [if_pos (by omega), if_pos e, e, HY.out]
          · rw [if_neg e]
            by_cases e2 : i < k
            · rw [if_pos (by omega), if_pos e2]
            · rw [if_neg (by omega), if_neg e2]
      case measure => simp [intOf]; omega
    · have he : k = nb := by omega
      subst he
      have y5 : ¬ (k : Int) < (k : Int) := by omega
      have e : byA k (fun i => if i < k then bk t count i else 0) = byA k (bk t count) := byA_ext (fun i hi => by simp [hi])
      rw [e] at HB
      have hcv := by_text (cap := k) HB.out (fun i _ => bk_lt _ _ _)
      go_wp2
      go_returns
      exact ⟨rfl, HK.out⟩
end Go.Proofs.YtbmbdidmbdanmaaDoor
