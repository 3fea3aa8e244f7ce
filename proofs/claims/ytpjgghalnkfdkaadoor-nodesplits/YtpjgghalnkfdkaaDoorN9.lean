/- node: maySize, Size; the entries' bytes of a leaf. -/
import Derived.Test.YtpjgghalnkfdkaaDoorN8
namespace Go.Proofs.YtpjgghalnkfdkaaDoor
open Go.RowKit
set_option linter.unusedVariables false
set_option linter.unusedSimpArgs false
set_option maxHeartbeats 1000000 in
set_option maxRecDepth 100000 in
theorem maySize_512 (w : World) : Calls Tryd.prog 31 #[.int .i64 512] w fun e w' => e = .returned (.bool true) ∧ w = w' := by
  go_enter Tryd.func31, Tryd.ntmps31
  go_wp2
  go_returns
  exact ⟨by first | rfl | simp [go_sem] | decide, rfl⟩
def Nd.size (n : Nd) : Nat := (if n.leaf then 16 else 20) + (n.keys.map fun k => (if n.leaf then 2 else 5) + k.size).sum + (n.vals.map fun v => v.size).sum
theorem sum_step {α : Type} (l : List α) (f : α → Nat) {i : Nat} (h : i < l.length) : ((l.take (i + 1)).map f).sum = ((l.take i).map f).sum + f l[i] := by
  rw [List.take_add_one, List.map_append, List.sum_append, List.getElem?_eq_getElem h]
  simp
theorem sum_le {α : Type} (f : α → Nat) : ∀ (l : List α) (i : Nat), ((l.take i).map f).sum ≤ (l.map f).sum
  | [], _ => by simp
  | a :: l, 0 => by simp
  | a :: l, i + 1 => by
    have := sum_le f l i
    simp only [List.take_succ_cons, List.map_cons, List.sum_cons]
    omega
set_option maxHeartbeats 2000000 in
set_option maxRecDepth 100000 in
theorem size_leaf (n : Nd) (a1 a2 a3 : Option Addr) (k1 c1 k2 c2 k3 c3 : Nat) (w : World) (r1 : Row w (.slice a1 k1 c1) (TS n.keys)) (r2 : Row w (.slice a2 k2 c2) (TS n.vals)) (r3 : Row w (.slice a3 k3 c3) (IS n.kids)) (hl : n.leaf = true) (hb : n.Bd) (hs : 16 + (n.keys.map fun k => 2 + k.size).sum + (n.vals.map fun v => v.size).sum ≤ 4611686018427387904) :
    Calls Tryd.prog 15 #[.agg #[.bool n.leaf, .slice a1 k1 c1, .slice a2 k2 c2, .slice a3 k3 c3]] w fun e w' => e = .returned (.int .i64 (16 + (n.keys.map fun k => 2 + k.size).sum + (n.vals.map fun v => v.size).sum : Nat)) ∧ Same w w' := by
  rw [hl]
  have hbk : k1 ≤ 17592186044416 := by have := hb.k; rw [r1.tl] at this; exact this
  have hbv : k2 ≤ 17592186044416 := by have := hb.v; rw [r2.tl] at this; exact this
  have HW := hidden (same_alloc w (.cells #[.bool true, .slice a1 k1 c1, .slice a2 k2 c2, .slice a3 k3 c3] 25))
  have R1 := hidden (r1.same HW.out)
  have R2 := hidden (r2.same HW.out)
  have E1 := hidden r1.tl
  have E2 := hidden r2.tl
  have HK9 := hidden (fun i => sum_le (fun k : ByteArray => 2 + k.size) n.keys i)
  have HV9 := hidden (fun i => sum_le (fun k : ByteArray => k.size) n.vals i)
  obtain ⟨TK, hTK⟩ : ∃ TK, (n.keys.map fun k => 2 + k.size).sum = TK := ⟨_, rfl⟩
  obtain ⟨TV, hTV⟩ : ∃ TV, (n.vals.map fun v => v.size).sum = TV := ⟨_, rfl⟩
  rw [hTK, hTV] at hs ⊢
  rw [hTK] at HK9
  rw [hTV] at HV9
  have HTK := hidden hTK
  have HTV := hidden hTV
  clear hTK hTV r1 r2 r3 hb hl
  go_enter Tryd.func15, Tryd.ntmps15
  go_wp2
  go_loopw [3, 15] (fun s i wr => ∃ (i' s' : Nat), s = .int .i64 s' ∧ i = .int .i64 i' ∧ i' ≤ k1 ∧ s' ≤ 16 + TK ∧ 16 + ((n.keys.take i').map fun k => 2 + k.size).sum = s' ∧ w.alloc (.cells #[.bool true, .slice a1 k1 c1, .slice a2 k2 c2, .slice a3 k3 c3] 25) = wr) (fun _ i _ => k1 - (intOf i).toNat)
  case atStart => exact ⟨0, 16, rfl, rfl, Nat.zero_le _, by omega, rfl, rfl⟩
  case round =>
    obtain ⟨i, s, rfl, rfl, hi, hsl, hse, rfl⟩ := hrel
    have HSE := hidden hse
    clear hse
    by_cases h1 : i < k1
    · have hil : i < n.keys.length := by rw [E1.out]; exact h1
      obtain ⟨b, off, rfl, hc⟩ := R1.out.text hil
      have hst := sum_step n.keys (fun k : ByteArray => 2 + k.size) hil
      have hle := HK9.out (i + 1)
      rw [hst] at hle
      obtain ⟨x, hx⟩ : ∃ x, n.keys[i] = x := ⟨_, rfl⟩
      rw [hx] at hc hst hle
      obtain ⟨y, hy⟩ : ∃ y, x.size = y := ⟨_, rfl⟩
      simp only [hy] at hst hle
      have HST := hidden hst
      have hsy : s + (2 + y) ≤ 16 + TK := by have := HSE.out; omega
      have hxs : (x.size : Int) = (y : Int) := by rw [hy]
      clear hst hle hx hy
      go_wp2
      go_roundw
      case rel => exact ⟨i + 1, s + (2 + y), by go_num, by go_num, by omega, by omega, by rw [HST.out]; have := HSE.out; omega, trivial⟩
      case measure => simp [intOf]; omega
    · obtain rfl : i = k1 := by omega
      have hfin : Hid (16 + TK = s) := by rw [Hid, ← HSE.out, ← HTK.out, ← E1.out, List.take_length]
      go_wp2
      go_loopw [3, 29] (fun t i' wr => ∃ (j s' : Nat), t = .int .i64 s' ∧ i' = .int .i64 j ∧ j ≤ k2 ∧ s' ≤ 16 + TK + TV ∧ 16 + TK + ((n.vals.take j).map fun k => k.size).sum = s' ∧ w.alloc (.cells #[.bool true, .slice a1 i c1, .slice a2 k2 c2, .slice a3 k3 c3] 25) = wr) (fun _ i' _ => k2 - (intOf i').toNat)
      case atStart => exact ⟨0, s, rfl, rfl, Nat.zero_le _, by omega, by have := hfin.out; simp; omega, rfl⟩
      case round =>
        obtain ⟨j, s2, rfl, rfl, hj, hsl2, hse2, rfl⟩ := hrel
        have HSE2 := hidden hse2
        clear hse2
        by_cases h2 : j < k2
        · have hil : j < n.vals.length := by rw [E2.out]; exact h2
          obtain ⟨b, off, rfl, hc⟩ := R2.out.text hil
          have hst := sum_step n.vals (fun k : ByteArray => k.size) hil
          have hle := HV9.out (j + 1)
          rw [hst] at hle
          obtain ⟨x, hx⟩ : ∃ x, n.vals[j] = x := ⟨_, rfl⟩
          rw [hx] at hc hst hle
          obtain ⟨y, hy⟩ : ∃ y, x.size = y := ⟨_, rfl⟩
          simp only [hy] at hst hle
          have HST := hidden hst
          have hsy : s2 + y ≤ 16 + TK + TV := by have := HSE2.out; omega
          have hxs : (x.size : Int) = (y : Int) := by rw [hy]
          clear hst hle hx hy
          go_wp2
          go_roundw
          case rel => exact ⟨j + 1, s2 + y, by go_num, by go_num, by omega, by omega, by rw [HST.out]; have := HSE2.out; omega, trivial⟩
          case measure => simp [intOf]; omega
        · obtain rfl : j = k2 := by omega
          have hfin2 : Hid (16 + TK + TV = s2) := by rw [Hid, ← HSE2.out, ← HTV.out, ← E2.out, List.take_length]
          go_wp2
          go_returns
          exact ⟨by rw [hfin2.out]; rfl, HW.out⟩
set_option maxHeartbeats 2000000 in
set_option maxRecDepth 100000 in
theorem size_inner (n : Nd) (a1 a2 a3 : Option Addr) (k1 c1 k2 c2 k3 c3 : Nat) (w : World) (r1 : Row w (.slice a1 k1 c1) (TS n.keys)) (r2 : Row w (.slice a2 k2 c2) (TS n.vals)) (r3 : Row w (.slice a3 k3 c3) (IS n.kids)) (hl : n.leaf = false) (hb : n.Bd) (hs : 20 + (n.keys.map fun k => 5 + k.size).sum + (n.vals.map fun v => v.size).sum ≤ 4611686018427387904) :
    Calls Tryd.prog 15 #[.agg #[.bool n.leaf, .slice a1 k1 c1, .slice a2 k2 c2, .slice a3 k3 c3]] w fun e w' => e = .returned (.int .i64 (20 + (n.keys.map fun k => 5 + k.size).sum + (n.vals.map fun v => v.size).sum : Nat)) ∧ Same w w' := by
  rw [hl]
  have hbk : k1 ≤ 17592186044416 := by have := hb.k; rw [r1.tl] at this; exact this
  have hbv : k2 ≤ 17592186044416 := by have := hb.v; rw [r2.tl] at this; exact this
  have HW := hidden (same_alloc w (.cells #[.bool false, .slice a1 k1 c1, .slice a2 k2 c2, .slice a3 k3 c3] 25))
  have R1 := hidden (r1.same HW.out)
  have R2 := hidden (r2.same HW.out)
  have E1 := hidden r1.tl
  have E2 := hidden r2.tl
  have HK9 := hidden (fun i => sum_le (fun k : ByteArray => 5 + k.size) n.keys i)
  have HV9 := hidden (fun i => sum_le (fun k : ByteArray => k.size) n.vals i)
  obtain ⟨TK, hTK⟩ : ∃ TK, (n.keys.map fun k => 5 + k.size).sum = TK := ⟨_, rfl⟩
  obtain ⟨TV, hTV⟩ : ∃ TV, (n.vals.map fun v => v.size).sum = TV := ⟨_, rfl⟩
  rw [hTK, hTV] at hs ⊢
  rw [hTK] at HK9
  rw [hTV] at HV9
  have HTK := hidden hTK
  have HTV := hidden hTV
  clear hTK hTV r1 r2 r3 hb hl
  go_enter Tryd.func15, Tryd.ntmps15
  go_wp2
  go_loopw [3, 15] (fun s i wr => ∃ (i' s' : Nat), s = .int .i64 s' ∧ i = .int .i64 i' ∧ i' ≤ k1 ∧ s' ≤ 20 + TK ∧ 20 + ((n.keys.take i').map fun k => 5 + k.size).sum = s' ∧ w.alloc (.cells #[.bool false, .slice a1 k1 c1, .slice a2 k2 c2, .slice a3 k3 c3] 25) = wr) (fun _ i _ => k1 - (intOf i).toNat)
  case atStart => exact ⟨0, 20, rfl, rfl, Nat.zero_le _, by omega, rfl, rfl⟩
  case round =>
    obtain ⟨i, s, rfl, rfl, hi, hsl, hse, rfl⟩ := hrel
    have HSE := hidden hse
    clear hse
    by_cases h1 : i < k1
    · have hil : i < n.keys.length := by rw [E1.out]; exact h1
      obtain ⟨b, off, rfl, hc⟩ := R1.out.text hil
      have hst := sum_step n.keys (fun k : ByteArray => 5 + k.size) hil
      have hle := HK9.out (i + 1)
      rw [hst] at hle
      obtain ⟨x, hx⟩ : ∃ x, n.keys[i] = x := ⟨_, rfl⟩
      rw [hx] at hc hst hle
      obtain ⟨y, hy⟩ : ∃ y, x.size = y := ⟨_, rfl⟩
      simp only [hy] at hst hle
      have HST := hidden hst
      have hsy : s + (5 + y) ≤ 20 + TK := by have := HSE.out; omega
      have hxs : (x.size : Int) = (y : Int) := by rw [hy]
      clear hst hle hx hy
      go_wp2
      go_roundw
      case rel => exact ⟨i + 1, s + (5 + y), by go_num, by go_num, by omega, by omega, by rw [HST.out]; have := HSE.out; omega, trivial⟩
      case measure => simp [intOf]; omega
    · obtain rfl : i = k1 := by omega
      have hfin : Hid (20 + TK = s) := by rw [Hid, ← HSE.out, ← HTK.out, ← E1.out, List.take_length]
      go_wp2
      go_loopw [3, 29] (fun t i' wr => ∃ (j s' : Nat), t = .int .i64 s' ∧ i' = .int .i64 j ∧ j ≤ k2 ∧ s' ≤ 20 + TK + TV ∧ 20 + TK + ((n.vals.take j).map fun k => k.size).sum = s' ∧ w.alloc (.cells #[.bool false, .slice a1 i c1, .slice a2 k2 c2, .slice a3 k3 c3] 25) = wr) (fun _ i' _ => k2 - (intOf i').toNat)
      case atStart => exact ⟨0, s, rfl, rfl, Nat.zero_le _, by omega, by have := hfin.out; simp; omega, rfl⟩
      case round =>
        obtain ⟨j, s2, rfl, rfl, hj, hsl2, hse2, rfl⟩ := hrel
        have HSE2 := hidden hse2
        clear hse2
        by_cases h2 : j < k2
        · have hil : j < n.vals.length := by rw [E2.out]; exact h2
          obtain ⟨b, off, rfl, hc⟩ := R2.out.text hil
          have hst := sum_step n.vals (fun k : ByteArray => k.size) hil
          have hle := HV9.out (j + 1)
          rw [hst] at hle
          obtain ⟨x, hx⟩ : ∃ x, n.vals[j] = x := ⟨_, rfl⟩
          rw [hx] at hc hst hle
          obtain ⟨y, hy⟩ : ∃ y, x.size = y := ⟨_, rfl⟩
          simp only [hy] at hst hle
          have HST := hidden hst
          have hsy : s2 + y ≤ 20 + TK + TV := by have := HSE2.out; omega
          have hxs : (x.size : Int) = (y : Int) := by rw [hy]
          clear hst hle hx hy
          go_wp2
          go_roundw
          case rel => exact ⟨j + 1, s2 + y, by go_num, by go_num, by omega, by omega, by rw [HST.out]; have := HSE2.out; omega, trivial⟩
          case measure => simp [intOf]; omega
        · obtain rfl : j = k2 := by omega
          have hfin2 : Hid (20 + TK + TV = s2) := by rw [Hid, ← HSE2.out, ← HTV.out, ← E2.out, List.take_length]
          go_wp2
          go_returns
          exact ⟨by rw [hfin2.out]; rfl, HW.out⟩
end Go.Proofs.YtpjgghalnkfdkaaDoor
