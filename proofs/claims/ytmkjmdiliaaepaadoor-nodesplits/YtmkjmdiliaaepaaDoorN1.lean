/- node: mayKey, mayValue, noKid, mayEntries, mayLists, rise, checkPart, Check. -/
import Derived.Test.YtmkjmdiliaaepaaDoorN0
namespace Go.Proofs.YtmkjmdiliaaepaaDoor
open Go.RowKit
set_option linter.unusedVariables false
theorem box_cell {w w1 : World} {cs : Array Value} {t : TypeId} {v : Value} (j : Nat) (k : Same (w.alloc (.cells cs t)) w1) (h : cs[j]? = some v) : w1.cell? ⟨w.heap.size, j, none⟩ = some v :=
  k.cell (p := ⟨w.heap.size, j, none⟩) (fun h => h) (by rw [cell_of_row _ _ _ _ _ _ (heap_alloc_new w _)]; exact h)
set_option maxHeartbeats 1000000 in
set_option maxRecDepth 100000 in
theorem mayKey_any (k : ByteArray) (w : World) : Calls Tryd.prog 47 #[.string k] w fun e w' => e = .returned (.bool (mayK k)) ∧ w = w' := by
  by_cases h : 1 ≤ k.size
  · have h1 : (1 : Int) ≤ (k.size : Int) := by omega
    go_enter Tryd.func47, Tryd.ntmps47
    go_wp2
    go_returns
    simp [mayK, h]
    omega
  · have h1 : ¬ (1 : Int) ≤ (k.size : Int) := by omega
    go_enter Tryd.func47, Tryd.ntmps47
    go_wp2
    go_returns
    simp [mayK, h]
set_option maxHeartbeats 1000000 in
set_option maxRecDepth 100000 in
theorem mayValue_any (k : ByteArray) (w : World) : Calls Tryd.prog 48 #[.string k] w fun e w' => e = .returned (.bool (mayV k)) ∧ w = w' := by
  go_enter Tryd.func48, Tryd.ntmps48
  go_wp2
  go_returns
  simp [mayV]
  omega
set_option maxHeartbeats 1000000 in
set_option maxRecDepth 100000 in
theorem noKid_any (z : Int) (w : World) : Calls Tryd.prog 67 #[.int .i64 z] w fun e w' => e = .returned (.bool (noKid z)) ∧ w = w' := by
  by_cases h : z < 0
  · go_enter Tryd.func67, Tryd.ntmps67
    go_wp2
    go_returns
    simp [noKid, h]
  · go_enter Tryd.func67, Tryd.ntmps67
    go_wp2
    go_returns
    have h2 : decide (z < 0) = false := by simp; omega
    rw [noKid, h2, Bool.false_or]
    exact ⟨rfl, rfl⟩
set_option maxHeartbeats 2000000 in
set_option maxRecDepth 100000 in
theorem mayEntries_any (n : Nd) (a1 a2 a3 : Option Addr) (k1 c1 k2 c2 k3 c3 : Nat) (w : World) (r1 : Row w (.slice a1 k1 c1) (TS n.keys)) (r2 : Row w (.slice a2 k2 c2) (TS n.vals)) (r3 : Row w (.slice a3 k3 c3) (IS n.kids)) (hb : n.Bd) :
    Calls Tryd.prog 65 #[.agg #[.bool n.leaf, .slice a1 k1 c1, .slice a2 k2 c2, .slice a3 k3 c3]] w fun e w' => e = .returned (.bool n.ents) ∧ Same w w' := by
  have hbk : k1 ≤ 17592186044416 := by have := hb.k; rw [r1.tl] at this; exact this
  have hbv : k2 ≤ 17592186044416 := by have := hb.v; rw [r2.tl] at this; exact this
  have HK := hidden (fun k w => mayKey_any k w)
  have HV := hidden (fun k w => mayValue_any k w)
  have HW := hidden (same_alloc w (.cells #[.bool n.leaf, .slice a1 k1 c1, .slice a2 k2 c2, .slice a3 k3 c3] 25))
  have R1 := hidden (r1.same HW.out)
  have R2 := hidden (r2.same HW.out)
  have HNK := hidden r1.tl
  have HNV := hidden r2.tl
  clear r1 r2 r3 hb
  go_enter Tryd.func65, Tryd.ntmps65
  go_wp2
  go_loopw [10] (fun i wr => ∃ i' : Nat, i = .int .i64 i' ∧ i' ≤ k1 ∧ (n.keys.take i').all mayK = true ∧ w.alloc (.cells #[.bool n.leaf, .slice a1 k1 c1, .slice a2 k2 c2, .slice a3 k3 c3] 25) = wr) (fun i _ => k1 - (intOf i).toNat)
  case atStart => exact ⟨0, rfl, Nat.zero_le _, rfl, rfl⟩
  case round =>
    obtain ⟨i, rfl, hi, ha, rfl⟩ := hrel
    have HA := hidden ha
    clear ha
    by_cases h1 : i < k1
    · have hil : i < n.keys.length := by rw [HNK.out]; exact h1
      obtain ⟨b, off, rfl, hc⟩ := R1.out.text hil
      obtain ⟨x, hx⟩ : ∃ x, n.keys[i] = x := ⟨_, rfl⟩
      have HX := hidden hx
      rw [hx] at hc
      have hall : Hid ((n.keys.take (i + 1)).all mayK = mayK x) := by
        rw [Hid, List.take_add_one, List.all_append, HA.out, List.getElem?_eq_getElem hil, hx]
        simp
      clear hx
      cases hm : mayK x
      · have HM := hidden hm
        have HKx := HK.out x
        rw [hm] at HKx
        have HKX := hidden HKx
        clear hm HKx
        go_wp2_with (go_at_call 47; refine (HKX.out _).mono ?_; rintro e w1 ⟨rfl, rfl⟩)
        go_returns
        refine ⟨?_, HW.out⟩
        have : n.keys.all mayK = false := by
          rw [Bool.eq_false_iff]
          intro h
          have := List.all_eq_true.1 h x (by rw [← HX.out]; exact List.getElem_mem _)
          rw [HM.out] at this
          cases this
        simp [Nd.ents, this]
      · have HKx := HK.out x
        rw [hm] at HKx hall
        have HKX := hidden HKx
        clear hm HKx
        go_wp2_with (go_at_call 47; refine (HKX.out _).mono ?_; rintro e w1 ⟨rfl, rfl⟩)
        go_roundw
        case rel => exact ⟨i + 1, by go_num, by omega, hall.out, trivial⟩
        case measure => simp [intOf]; omega
    · obtain rfl : i = k1 := by omega
      have hke : Hid (n.keys.all mayK = true) := by rw [Hid, ← HA.out, ← HNK.out, List.take_length]
      go_wp2
      go_loopw [21] (fun k wr => ∃ i' : Nat, k = .int .i64 i' ∧ i' ≤ k2 ∧ (n.vals.take i').all mayV = true ∧ w.alloc (.cells #[.bool n.leaf, .slice a1 i c1, .slice a2 k2 c2, .slice a3 k3 c3] 25) = wr) (fun i _ => k2 - (intOf i).toNat)
      case atStart => exact ⟨0, rfl, Nat.zero_le _, rfl, rfl⟩
      case round =>
        obtain ⟨j, rfl, hj, ha, rfl⟩ := hrel
        have HA2 := hidden ha
        clear ha
        by_cases h2 : j < k2
        · have hil : j < n.vals.length := by rw [HNV.out]; exact h2
          obtain ⟨b, off, rfl, hc⟩ := R2.out.text hil
          obtain ⟨x, hx⟩ : ∃ x, n.vals[j] = x := ⟨_, rfl⟩
          have HX := hidden hx
          rw [hx] at hc
          have hall : Hid ((n.vals.take (j + 1)).all mayV = mayV x) := by
            rw [Hid, List.take_add_one, List.all_append, HA2.out, List.getElem?_eq_getElem hil, hx]
            simp
          clear hx
          cases hm : mayV x
          · have HM := hidden hm
            have HKx := HV.out x
            rw [hm] at HKx
            have HKX := hidden HKx
            clear hm HKx
            go_wp2_with (go_at_call 48; refine (HKX.out _).mono ?_; rintro e w1 ⟨rfl, rfl⟩)
            go_returns
            refine ⟨?_, HW.out⟩
            have : n.vals.all mayV = false := by
              rw [Bool.eq_false_iff]
              intro h
              have := List.all_eq_true.1 h x (by rw [← HX.out]; exact List.getElem_mem _)
              rw [HM.out] at this
              cases this
            simp [Nd.ents, this]
          · have HKx := HV.out x
            rw [hm] at HKx hall
            have HKX := hidden HKx
            clear hm HKx
            go_wp2_with (go_at_call 48; refine (HKX.out _).mono ?_; rintro e w1 ⟨rfl, rfl⟩)
            go_roundw
            case rel => exact ⟨j + 1, by go_num, by omega, hall.out, trivial⟩
            case measure => simp [intOf]; omega
        · obtain rfl : j = k2 := by omega
          have hve : Hid (n.vals.all mayV = true) := by rw [Hid, ← HA2.out, ← HNV.out, List.take_length]
          go_wp2
          go_returns
          refine ⟨?_, HW.out⟩
          simp only [Nd.ents, hke.out, hve.out]
          rfl
end Go.Proofs.YtmkjmdiliaaepaaDoor
