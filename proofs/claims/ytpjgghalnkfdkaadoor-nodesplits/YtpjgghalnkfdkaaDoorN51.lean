/- node: the document's entry and Size. -/
import Derived.Test.YtpjgghalnkfdkaaDoorN45
namespace Go.Proofs.YtpjgghalnkfdkaaDoor
open Go.RowKit
set_option linter.unusedVariables false
set_option linter.unusedSimpArgs false
set_option maxHeartbeats 1000000 in
set_option maxRecDepth 100000 in
theorem refEntry_any (n : Nd) (a1 a2 a3 : Option Addr) (k1 c1 k2 c2 k3 c3 : Nat) (i : Nat) (w : World) (r1 : Row w (.slice a1 k1 c1) (TS n.keys)) (r2 : Row w (.slice a2 k2 c2) (TS n.vals)) (r3 : Row w (.slice a3 k3 c3) (IS n.kids)) (hF : n.Fine) (hi : i < n.keys.length) :
    Calls Tryd.prog 42 #[.agg #[.bool n.leaf, .slice a1 k1 c1, .slice a2 k2 c2, .slice a3 k3 c3], .int .i64 i] w fun e w' => e = .returned (.int .i64 (n.es i : Nat)) ∧ Same w w' := by
  have e1 := r1.tl
  obtain ⟨b, off, rfl, hc⟩ := r1.text hi
  have hk := hF.k i hi
  have hk1 : (i : Int) < k1 := by omega
  have hb0 : b < w.heap.size := World.block_lt_of_cell? w _ hc
  cases hl : n.leaf
  · have hes : n.es i = 5 + n.keys[i].size := by unfold Nd.es; rw [hl, getD_at hi]; rfl
    rw [hes]
    generalize n.keys[i] = kk at *
    clear hes r1 r2 r3
    go_enter Tryd.func42, Tryd.ntmps42
    go_wp2
    go_ret
    exact ⟨by simp; omega, same_alloc _ _⟩
  · have hvl := (hF.leaf hl).1
    have hiv : i < n.vals.length := by omega
    obtain ⟨b2, off2, rfl, hc2⟩ := r2.text hiv
    have hv := hF.v i hiv
    have e2 := r2.tl
    have hk2 : (i : Int) < k2 := by omega
    have hb2 : b2 < w.heap.size := World.block_lt_of_cell? w _ hc2
    have hes : n.es i = 2 + n.keys[i].size + n.vals[i].size := by unfold Nd.es; rw [hl, getD_at hi, getD_at hiv]; rfl
    rw [hes]
    generalize n.keys[i] = kk at *
    generalize n.vals[i] = vv at *
    clear hes r1 r2 r3
    go_enter Tryd.func42, Tryd.ntmps42
    go_wp2
    go_ret
    exact ⟨by simp, same_alloc _ _⟩
def Nd.base (n : Nd) : Nat := if n.leaf then 16 else 20
set_option maxHeartbeats 2000000 in
set_option maxRecDepth 100000 in
theorem refSize_any (n : Nd) (a1 a2 a3 : Option Addr) (k1 c1 k2 c2 k3 c3 : Nat) (w : World) (r1 : Row w (.slice a1 k1 c1) (TS n.keys)) (r2 : Row w (.slice a2 k2 c2) (TS n.vals)) (r3 : Row w (.slice a3 k3 c3) (IS n.kids)) (hF : n.Fine) (hbd : n.keys.length ≤ 8796093022208) :
    Calls Tryd.prog 16 #[.agg #[.bool n.leaf, .slice a1 k1 c1, .slice a2 k2 c2, .slice a3 k3 c3]] w fun e w' => e = .returned (.int .i64 (n.base + n.pre n.keys.length : Nat)) ∧ Same w w' := by
  have e1 := r1.tl
  have HE := hidden (fun W (k : Same w W) j hj => refEntry_any n a1 a2 a3 k1 c1 k2 c2 k3 c3 j W (r1.same k) (r2.same k) (r3.same k) hF hj)
  have HP := hidden hF.pre_le
  have E1 := hidden e1
  rw [e1] at hbd
  cases hl : n.leaf
  all_goals
    rw [hl] at HE
    have hBase : n.base = if n.leaf then 16 else 20 := rfl
    rw [hl] at hBase
    simp only [Bool.false_eq_true, if_false, if_true] at hBase
    have K0 := hidden (same_alloc w (.cells #[.bool n.leaf, .slice a1 k1 c1, .slice a2 k2 c2, .slice a3 k3 c3] 25))
    have BX : Hid (∀ W, Same (w.alloc (.cells #[.bool n.leaf, .slice a1 k1 c1, .slice a2 k2 c2, .slice a3 k3 c3] 25)) W → W.cell? ⟨w.heap.size, 0, none⟩ = some (.bool n.leaf) ∧ W.cell? ⟨w.heap.size, 1, none⟩ = some (.slice a1 k1 c1) ∧ W.cell? ⟨w.heap.size, 2, none⟩ = some (.slice a2 k2 c2) ∧ W.cell? ⟨w.heap.size, 3, none⟩ = some (.slice a3 k3 c3)) := hidden (fun W k => ⟨box_cell 0 k rfl, box_cell 1 k rfl, box_cell 2 k rfl, box_cell 3 k rfl⟩)
    rw [hl] at K0 BX
    have HB := hidden hBase
    clear r1 r2 r3 hF hBase
  · go_enter Tryd.func16, Tryd.ntmps16
    go_wp2
    go_loopw [3, 4] (fun s i wr => ∃ k : Nat, k ≤ k1 ∧ i = .int .i64 k ∧ s = .int .i64 (20 + (n.pre k : Nat)) ∧ Same (w.alloc (.cells #[.bool false, .slice a1 k1 c1, .slice a2 k2 c2, .slice a3 k3 c3] 25)) wr) (fun _ i _ => k1 - (intOf i).toNat)
    case atStart => exact ⟨0, Nat.zero_le _, rfl, rfl, Kept.refl _ _⟩
    case round =>
      obtain ⟨k, hk, rfl, rfl, hs⟩ := hrel
      have S1 := hidden hs
      obtain ⟨z0, z1, z2, z3⟩ := BX.out wr hs
      clear hs
      by_cases hlt : k < k1
      · have hp1 := HP.out k (by rw [E1.out]; omega)
        have hp2 := HP.out (k + 1) (by rw [E1.out]; omega)
        have hps : n.pre (k + 1) = n.pre k + n.es k := rfl
        have HPS := hidden hps
        have hes : n.es k ≤ 130 * (k + 1) := by omega
        clear hps
        go_wp2_with (first
          | (go_at_call 42; refine (HE.out _ (K0.out.trans S1.out) k (by rw [E1.out]; exact hlt)).mono ?_; rintro e w2 ⟨rfl, q2⟩; have S2 := hidden (S1.out.trans q2); clear q2))
        go_roundw
        case rel => exact ⟨k + 1, by omega, by go_num, by rw [HPS.out]; go_num, S2.out⟩
        case measure => simp [intOf]; omega
      · obtain rfl : k1 = k := by omega
        go_wp2
        go_ret
        refine ⟨?_, K0.out.trans S1.out⟩
        rw [HB.out, E1.out]
        simp
  · go_enter Tryd.func16, Tryd.ntmps16
    go_wp2
    go_loopw [3, 4] (fun s i wr => ∃ k : Nat, k ≤ k1 ∧ i = .int .i64 k ∧ s = .int .i64 (16 + (n.pre k : Nat)) ∧ Same (w.alloc (.cells #[.bool true, .slice a1 k1 c1, .slice a2 k2 c2, .slice a3 k3 c3] 25)) wr) (fun _ i _ => k1 - (intOf i).toNat)
    case atStart => exact ⟨0, Nat.zero_le _, rfl, rfl, Kept.refl _ _⟩
    case round =>
      obtain ⟨k, hk, rfl, rfl, hs⟩ := hrel
      have S1 := hidden hs
      obtain ⟨z0, z1, z2, z3⟩ := BX.out wr hs
      clear hs
      by_cases hlt : k < k1
      · have hp1 := HP.out k (by rw [E1.out]; omega)
        have hp2 := HP.out (k + 1) (by rw [E1.out]; omega)
        have hps : n.pre (k + 1) = n.pre k + n.es k := rfl
        have HPS := hidden hps
        have hes : n.es k ≤ 130 * (k + 1) := by omega
        clear hps
        go_wp2_with (first
          | (go_at_call 42; refine (HE.out _ (K0.out.trans S1.out) k (by rw [E1.out]; exact hlt)).mono ?_; rintro e w2 ⟨rfl, q2⟩; have S2 := hidden (S1.out.trans q2); clear q2))
        go_roundw
        case rel => exact ⟨k + 1, by omega, by go_num, by rw [HPS.out]; go_num, S2.out⟩
        case measure => simp [intOf]; omega
      · obtain rfl : k1 = k := by omega
        go_wp2
        go_ret
        refine ⟨?_, K0.out.trans S1.out⟩
        rw [HB.out, E1.out]
        simp
end Go.Proofs.YtpjgghalnkfdkaaDoor
