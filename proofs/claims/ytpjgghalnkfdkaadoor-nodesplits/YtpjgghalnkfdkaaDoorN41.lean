/- node: half. -/
import Derived.Test.YtpjgghalnkfdkaaDoorN40
namespace Go.Proofs.YtpjgghalnkfdkaaDoor
open Go.RowKit
set_option linter.unusedVariables false
set_option linter.unusedSimpArgs false
theorem ret_i {k : IntKind} {a b : Int} (h : a = b) : Ending.returned (.int k a) = .returned (.int k b) := by rw [h]
set_option maxHeartbeats 2000000 in
set_option maxRecDepth 100000 in
theorem half_any (n : Nd) (a1 a2 a3 : Option Addr) (k1 c1 k2 c2 k3 c3 : Nat) (most i : Nat) (w : World) (r1 : Row w (.slice a1 k1 c1) (TS n.keys)) (r2 : Row w (.slice a2 k2 c2) (TS n.vals)) (r3 : Row w (.slice a3 k3 c3) (IS n.kids)) (hF : n.Fine) (hm : most ≤ n.keys.length) (hbd : n.keys.length ≤ 8796093022208) (hA : n.At most i) :
    Calls Tryd.prog 53 #[.agg #[.bool n.leaf, .slice a1 k1 c1, .slice a2 k2 c2, .slice a3 k3 c3], .int .i64 most] w fun e w' => e = .returned (.int .i64 i) ∧ Same w w' := by
  have e1 := r1.tl
  have HE := hidden (fun W (k : Same w W) j hj => entrySize_any n a1 a2 a3 k1 c1 k2 c2 k3 c3 j W (r1.same k) (r2.same k) (r3.same k) hF hj)
  have HP := hidden hF.pre_le
  have HM := hidden (fun a b => n.pre_mono a b)
  have K0 := hidden (same_alloc w (.cells #[.bool n.leaf, .slice a1 k1 c1, .slice a2 k2 c2, .slice a3 k3 c3] 25))
  have BX : Hid (∀ W, Same (w.alloc (.cells #[.bool n.leaf, .slice a1 k1 c1, .slice a2 k2 c2, .slice a3 k3 c3] 25)) W → W.cell? ⟨w.heap.size, 0, none⟩ = some (.bool n.leaf) ∧ W.cell? ⟨w.heap.size, 1, none⟩ = some (.slice a1 k1 c1) ∧ W.cell? ⟨w.heap.size, 2, none⟩ = some (.slice a2 k2 c2) ∧ W.cell? ⟨w.heap.size, 3, none⟩ = some (.slice a3 k3 c3)) := hidden (fun W k => ⟨box_cell 0 k rfl, box_cell 1 k rfl, box_cell 2 k rfl, box_cell 3 k rfl⟩)
  obtain ⟨T, hT⟩ : ∃ T, n.pre n.keys.length = T := ⟨_, rfl⟩
  have hTb : T ≤ 130 * k1 := by have := hF.pre_le n.keys.length (Nat.le_refl _); rw [hT, e1] at this; exact this
  have hpi : n.pre i ≤ 130 * i := hF.pre_le i (by have := hA.hi; omega)
  have hAlo := hA.lo
  have hAhi := hA.hi
  have HAl := hidden hA.less
  have HAs := hidden hA.stop
  rw [hT] at HAl HAs
  have HT := hidden hT
  have E1 := hidden e1
  rw [e1] at hm hbd
  have HF := hidden hF
  clear r1 r2 r3 hF hA hT e1
  go_enter Tryd.func53, Tryd.ntmps53
  go_wp2
  go_loopw [5, 12] (fun s i wr => ∃ k : Nat, k ≤ k1 ∧ i = .int .i64 k ∧ s = .int .i64 (n.pre k : Nat) ∧ Same (w.alloc (.cells #[.bool n.leaf, .slice a1 k1 c1, .slice a2 k2 c2, .slice a3 k3 c3] 25)) wr) (fun _ i _ => k1 - (intOf i).toNat)
  case atStart => exact ⟨0, Nat.zero_le _, rfl, rfl, Kept.refl _ _⟩
  case round =>
    obtain ⟨k, hk, rfl, rfl, hs⟩ := hrel
    have S1 := hidden hs
    obtain ⟨z0, z1, z2, z3⟩ := BX.out wr hs
    clear hs
    by_cases hlt : k < k1
    · have hp1 := HP.out k (by rw [E1.out]; omega)
      have hp2 := HP.out (k + 1) (by rw [E1.out]; omega)
      have hps : n.pre (k + 1) = n.pre k + n.es k := rfl
      have HPS := hidden hps
      have hes : n.es k ≤ 130 * (k + 1) := by omega
      clear hps
      go_wp2_with (first
        | (go_at_call 81; refine (HE.out _ (K0.out.trans S1.out) k (by rw [E1.out]; exact hlt)).mono ?_; rintro e w2 ⟨rfl, q2⟩; have S2 := hidden (S1.out.trans q2); clear q2))
      go_roundw
      case rel => exact ⟨k + 1, by omega, by go_num, by rw [HPS.out]; go_num, S2.out⟩
      case measure => simp [intOf]; omega
    · obtain rfl : k1 = k := by omega
      have hpT : n.pre k1 = T := by have := HT.out; rw [E1.out] at this; exact this
      rw [hpT]
      clear hpT
      go_wp2
      go_loopw [7, 8] (fun s j wr => ∃ q : Nat, q + 1 ≤ i ∧ j = .int .i64 ((q : Int) + 1) ∧ s = .int .i64 (n.pre q : Nat) ∧ Same (w.alloc (.cells #[.bool n.leaf, .slice a1 k1 c1, .slice a2 k2 c2, .slice a3 k3 c3] 25)) wr) (fun _ j _ => i + 1 - (intOf j).toNat)
      case atStart => exact ⟨0, by omega, rfl, rfl, S1.out⟩
      case round =>
        obtain ⟨q, hq, rfl, rfl, hs⟩ := hrel
        have S3 := hidden hs
        obtain ⟨y0, y1, y2, y3⟩ := BX.out wr hs
        clear hs z0 z1 z2 z3
        by_cases hlm : q + 1 < most
        · have hp1 := HP.out q (by rw [E1.out]; omega)
          have hp2 := HP.out (q + 1) (by rw [E1.out]; omega)
          have hps : n.pre (q + 1) = n.pre q + n.es q := rfl
          have hpI : (n.pre q : Int) + (n.es q : Int) = (n.pre (q + 1) : Int) := by omega
          have hes : n.es q ≤ 130 * (q + 1) := by omega
          have hlI : (q : Int) + 1 < most := by omega
          by_cases hqi : q + 1 < i
          · have hd := HAl.out (q + 1) (by omega) hqi
            have d1 : 2 * ((n.pre q : Int) + (n.es q : Int)) < (T : Int) := by omega
            have HPI := hidden hpI
            clear hps hpI
            go_wp2_with (first
              | (go_at_call 81; refine (HE.out _ (K0.out.trans S3.out) q (by rw [E1.out]; omega)).mono ?_; rintro e w2 ⟨rfl, q2⟩; have S4 := hidden (S3.out.trans q2); clear q2))
            go_roundw
            case rel => exact ⟨q + 1, by omega, by go_num, by rw [← HPI.out], S4.out⟩
            case measure => simp [intOf]; omega
          · have hqe : q + 1 = i := by omega
            have hd : T ≤ 2 * n.pre (q + 1) := by
              rcases HAs.out with h | h
              · omega
              · rw [hqe]; exact h
            have d1 : (T : Int) ≤ 2 * ((n.pre q : Int) + (n.es q : Int)) := by omega
            have HQE : Hid ((q : Int) + 1 = (i : Int)) := hidden (by omega)
            have HPI := hidden hpI
            clear hps hpI hqe
            go_wp2_with (first
              | (go_at_call 81; refine (HE.out _ (K0.out.trans S3.out) q (by rw [E1.out]; omega)).mono ?_; rintro e w2 ⟨rfl, q2⟩; have S4 := hidden (S3.out.trans q2); clear q2))
            go_ret
            exact ⟨ret_i HQE.out, K0.out.trans S4.out⟩
        · have HQE : Hid ((most : Int) = (i : Int)) := hidden (by omega)
          have hlI : ¬ ((q : Int) + 1 < most) := by omega
          go_wp2
          go_ret
          exact ⟨ret_i HQE.out, K0.out.trans S3.out⟩
end Go.Proofs.YtpjgghalnkfdkaaDoor
