/- node: the document's Find, where keys rise. -/
import Derived.Test.YtilnogadopmboaaDoorN17
namespace Go.Proofs.YtilnogadopmboaaDoor
open Go.RowKit
set_option linter.unusedVariables false
set_option linter.unusedSimpArgs false
theorem lt_trans' {a b c : ByteArray} (h1 : ltS a b = true) (h2 : ltS b c = true) : ltS a c = true := by
  simp only [ltS, decide_eq_true_eq] at *
  exact List.lt_trans h1 h2
theorem rises_lt {l : List ByteArray} (h : rises l = true) : ∀ (k i : Nat) (hi : i + (k + 1) < l.length), ltS (l[i]'(by omega)) l[i + (k + 1)] = true
  | 0, i, hi => rises_at.1 h i hi
  | k + 1, i, hi => by
    have h1 := rises_lt h k i (by omega)
    have h2 := rises_at.1 h (i + (k + 1)) (by omega)
    exact lt_trans' h1 h2
theorem ahead_down {l : List ByteArray} (h : rises l = true) (lf : Bool) (key : ByteArray) {i j : Nat} (hij : i < j) (hj : j < l.length) (ha : ahead lf key l[j] = true) : ahead lf key (l[i]'(by omega)) = true := by
  obtain ⟨k, rfl⟩ : ∃ k, j = i + (k + 1) := ⟨j - i - 1, by omega⟩
  have h1 := rises_lt h k i hj
  unfold ahead at ha ⊢
  simp only [Bool.or_eq_true, Bool.and_eq_true] at ha ⊢
  left
  rcases ha with ha | ⟨_, ha⟩
  · exact lt_trans' h1 ha
  · have he : l[i + (k + 1)] = key := bytes_ext (by simpa using ha)
    rw [he] at h1
    exact h1
theorem count_first {l : List ByteArray} (p : ByteArray → Bool) {m : Nat} (hm : m ≤ l.length) (h1 : ∀ i (h : i < m), p (l[i]'(by omega)) = true) (h2 : ∀ i (h : i < l.length), m ≤ i → p l[i] = false) : l.countP p = m := by
  conv => lhs; rw [← List.take_append_drop m l]
  rw [List.countP_append]
  have e1 : (l.take m).countP p = m := by
    rw [List.countP_eq_length.2 (fun a ha => by
      obtain ⟨i, hi, rfl⟩ := List.mem_iff_getElem.1 ha
      rw [List.getElem_take]
      exact h1 i (by rw [List.length_take] at hi; omega)), List.length_take]
    omega
  have e2 : (l.drop m).countP p = 0 := by
    rw [List.countP_eq_zero.2 (fun a ha => by
      obtain ⟨i, hi, rfl⟩ := List.mem_iff_getElem.1 ha
      rw [List.getElem_drop]
      rw [h2 (m + i) (by rw [List.length_drop] at hi; omega) (by omega)]
      simp)]
  omega
theorem cnt_first {n : Nd} (h : rises n.keys = true) (key : ByteArray) {m : Nat} (hm : m ≤ n.keys.length) (h1 : ∀ i (h : i < m), ahead n.leaf key (n.keys[i]'(by omega)) = true) (h2 : ∀ (hl : m < n.keys.length), ahead n.leaf key n.keys[m] = false) : n.cnt key = m := by
  refine count_first _ hm h1 (fun i hi hmi => ?_)
  rcases Nat.eq_or_lt_of_le hmi with rfl | hlt
  · exact h2 hi
  · rw [Bool.eq_false_iff]
    intro ha
    have := ahead_down h n.leaf key hlt hi ha
    rw [h2 (by omega)] at this
    cases this
set_option maxHeartbeats 4000000 in
set_option maxRecDepth 100000 in
theorem refFind_leaf (n : Nd) (a1 a2 a3 : Option Addr) (k1 c1 k2 c2 k3 c3 : Nat) (key : ByteArray) (w : World) (r1 : Row w (.slice a1 k1 c1) (TS n.keys)) (r2 : Row w (.slice a2 k2 c2) (TS n.vals)) (r3 : Row w (.slice a3 k3 c3) (IS n.kids)) (hb : n.Bd) (hr : rises n.keys = true) (hl : n.leaf = true) :
    Calls Tryd.prog 21 #[.agg #[.bool n.leaf, .slice a1 k1 c1, .slice a2 k2 c2, .slice a3 k3 c3], .string key] w fun e w' => e = .returned (.tuple #[.int .i64 (n.cnt key : Nat), .bool (n.has key)]) ∧ Same w w' := by
  have hbk : k1 ≤ 17592186044416 := by have := hb.k; rw [r1.tl] at this; exact this
  have K0 := hidden (same_alloc w (.cells #[.bool true, .slice a1 k1 c1, .slice a2 k2 c2, .slice a3 k3 c3] 25))
  have R1 := hidden (r1.same K0.out)
  have E1 := hidden r1.tl
  have HCF := hidden (fun m h1 h2 h3 => cnt_first (n := n) hr key (m := m) h1 h2 h3)
  have HH : Hid (n.has key = (n.leaf && (match n.keys[n.cnt key]? with | some k => k.toList == key.toList | none => false))) := rfl
  rw [hl] at HCF HH ⊢
  generalize n.cnt key = cn at *
  generalize n.has key = hs at *
  clear r1 r2 r3 hb hl hr
  go_enter Tryd.func21, Tryd.ntmps21
  go_wp2
  go_loopw [6] (fun p wr => ∃ p' : Nat, p = .int .i64 p' ∧ p' ≤ k1 ∧ (∀ i (h : i < n.keys.length), i < p' → ahead true key n.keys[i] = true) ∧ w.alloc (.cells #[.bool true, .slice a1 k1 c1, .slice a2 k2 c2, .slice a3 k3 c3] 25) = wr) (fun i _ => k1 - (intOf i).toNat)
  case atStart => exact ⟨0, rfl, Nat.zero_le _, (fun i h hi => by omega), rfl⟩
  case round =>
    obtain ⟨i, rfl, hi, ha, rfl⟩ := hrel
    have HA := hidden ha
    clear ha
    by_cases h1 : i < k1
    · have hil : i < n.keys.length := by rw [E1.out]; exact h1
      obtain ⟨b, off, rfl, hc⟩ := R1.out.text hil
      obtain ⟨x, hx⟩ : ∃ x, n.keys[i] = x := ⟨_, rfl⟩
      rw [hx] at hc
      have HX := hidden hx
      have q1 : (i : Int) < (k1 : Int) := by omega
      have q1d : decide ((i : Int) < (k1 : Int)) = true := by simp; omega
      have q1e : decide (i < k1) = true := by simp; omega
      have q0 : (0 : Int) ≤ (i : Int) := Int.natCast_nonneg _
      cases hm : ltS x key
      · have f1 := less_of hm
        have hno : ahead true key x = false := by unfold ahead; rw [hm]; rfl
        have hcn : Hid (cn = i) := hidden (HCF.out i (by omega) (fun j hj => HA.out j (by omega) hj) (fun h => by rw [hx]; exact hno))
        cases he : (x.toList == key.toList)
        · have hhs : Hid (hs = false) := by rw [Hid, HH.out, hcn.out, List.getElem?_eq_getElem hil, hx]; show (true && (x.toList == key.toList)) = _; rw [he]; rfl
          clear hx hm hno
          go_wp2
          go_quiet (fail)
          go_wp2
          go_returns
          exact ⟨by rw [hcn.out, hhs.out]; rfl, K0.out.trans ((Kept.refl _ _).drewN _)⟩
        · have hhs : Hid (hs = true) := by rw [Hid, HH.out, hcn.out, List.getElem?_eq_getElem hil, hx]; show (true && (x.toList == key.toList)) = _; rw [he]; rfl
          clear hx hm hno
          go_wp2
          go_quiet (fail)
          go_wp2
          go_returns
          exact ⟨by rw [hcn.out, hhs.out]; rfl, K0.out.trans ((Kept.refl _ _).drewN _)⟩
      · have f1 := less_of hm
        have hyes : Hid (ahead true key x = true) := by rw [Hid]; unfold ahead; rw [hm]; rfl
        clear hx hm
        go_wp2
        go_roundw
        case rel =>
          refine ⟨i + 1, by go_num, by omega, (fun j h hj => ?_), trivial⟩
          rcases Nat.lt_or_ge j i with h3 | h3
          · exact HA.out j h h3
          · obtain rfl : j = i := by omega
            rw [HX.out]
            exact hyes.out
        case measure => simp [intOf]; omega
    · obtain rfl : i = k1 := by omega
      have q1 : ¬ (i : Int) < (i : Int) := by omega
      have q1d : decide ((i : Int) < (i : Int)) = false := by simp
      have q1e : decide (i < i) = false := by simp
      have hcn : Hid (cn = i) := hidden (HCF.out i (by rw [E1.out]; exact Nat.le_refl _) (fun j hj => HA.out j (by rw [E1.out]; omega) hj) (fun h => by rw [E1.out] at h; omega))
      have hhs : Hid (hs = false) := by rw [Hid, HH.out, hcn.out, List.getElem?_eq_none (by rw [E1.out]; exact Nat.le_refl _)]; rfl
      go_wp2
      go_quiet (fail)
      go_wp2
      go_returns
      exact ⟨by rw [hcn.out, hhs.out]; rfl, K0.out.trans ((Kept.refl _ _).drewN _)⟩
set_option maxHeartbeats 4000000 in
set_option maxRecDepth 100000 in
theorem refFind_inner (n : Nd) (a1 a2 a3 : Option Addr) (k1 c1 k2 c2 k3 c3 : Nat) (key : ByteArray) (w : World) (r1 : Row w (.slice a1 k1 c1) (TS n.keys)) (r2 : Row w (.slice a2 k2 c2) (TS n.vals)) (r3 : Row w (.slice a3 k3 c3) (IS n.kids)) (hb : n.Bd) (hr : rises n.keys = true) (hl : n.leaf = false) :
    Calls Tryd.prog 21 #[.agg #[.bool n.leaf, .slice a1 k1 c1, .slice a2 k2 c2, .slice a3 k3 c3], .string key] w fun e w' => e = .returned (.tuple #[.int .i64 (n.cnt key : Nat), .bool (n.has key)]) ∧ Same w w' := by
  have hbk : k1 ≤ 17592186044416 := by have := hb.k; rw [r1.tl] at this; exact this
  have K0 := hidden (same_alloc w (.cells #[.bool false, .slice a1 k1 c1, .slice a2 k2 c2, .slice a3 k3 c3] 25))
  have R1 := hidden (r1.same K0.out)
  have E1 := hidden r1.tl
  have HCF := hidden (fun m h1 h2 h3 => cnt_first (n := n) hr key (m := m) h1 h2 h3)
  have HH : n.has key = false := by unfold Nd.has; rw [hl]; rfl
  rw [HH]
  rw [hl] at HCF ⊢
  generalize n.cnt key = cn at *
  clear r1 r2 r3 hb hl hr HH
  go_enter Tryd.func21, Tryd.ntmps21
  go_wp2
  go_loopw [6] (fun p wr => ∃ p' : Nat, p = .int .i64 p' ∧ p' ≤ k1 ∧ (∀ i (h : i < n.keys.length), i < p' → ahead false key n.keys[i] = true) ∧ w.alloc (.cells #[.bool false, .slice a1 k1 c1, .slice a2 k2 c2, .slice a3 k3 c3] 25) = wr) (fun i _ => k1 - (intOf i).toNat)
  case atStart => exact ⟨0, rfl, Nat.zero_le _, (fun i h hi => by omega), rfl⟩
  case round =>
    obtain ⟨i, rfl, hi, ha, rfl⟩ := hrel
    have HA := hidden ha
    clear ha
    by_cases h1 : i < k1
    · have hil : i < n.keys.length := by rw [E1.out]; exact h1
      obtain ⟨b, off, rfl, hc⟩ := R1.out.text hil
      obtain ⟨x, hx⟩ : ∃ x, n.keys[i] = x := ⟨_, rfl⟩
      rw [hx] at hc
      have HX := hidden hx
      have q1 : (i : Int) < (k1 : Int) := by omega
      have q0 : (0 : Int) ≤ (i : Int) := Int.natCast_nonneg _
      cases hm : ltS x key
      · have f1 := less_of hm
        cases he : (x.toList == key.toList)
        · have hno : ahead false key x = false := by unfold ahead; rw [hm, he]; rfl
          have hcn : Hid (cn = i) := hidden (HCF.out i (by omega) (fun j hj => HA.out j (by omega) hj) (fun h => by rw [hx]; exact hno))
          clear hx hm hno
          go_wp2
          go_returns
          exact ⟨by rw [hcn.out]; rfl, K0.out⟩
        · have hyes : Hid (ahead false key x = true) := by rw [Hid]; unfold ahead; rw [hm, he]; rfl
          clear hx hm
          go_wp2
          go_roundw
          case rel =>
            refine ⟨i + 1, by go_num, by omega, (fun j h hj => ?_), trivial⟩
            rcases Nat.lt_or_ge j i with h3 | h3
            · exact HA.out j h h3
            · obtain rfl : j = i := by omega
              rw [HX.out]
              exact hyes.out
          case measure => simp [intOf]; omega
      · have f1 := less_of hm
        have hyes : Hid (ahead false key x = true) := by rw [Hid]; unfold ahead; rw [hm]; rfl
        clear hx hm
        go_wp2
        go_roundw
        case rel =>
          refine ⟨i + 1, by go_num, by omega, (fun j h hj => ?_), trivial⟩
          rcases Nat.lt_or_ge j i with h3 | h3
          · exact HA.out j h h3
          · obtain rfl : j = i := by omega
            rw [HX.out]
            exact hyes.out
        case measure => simp [intOf]; omega
    · obtain rfl : i = k1 := by omega
      have q1 : ¬ (i : Int) < (i : Int) := by omega
      have hcn : Hid (cn = i) := hidden (HCF.out i (by rw [E1.out]; exact Nat.le_refl _) (fun j hj => HA.out j (by rw [E1.out]; omega) hj) (fun h => by rw [E1.out] at h; omega))
      go_wp2
      go_returns
      exact ⟨by rw [hcn.out]; rfl, K0.out⟩
theorem refFind_any (n : Nd) (a1 a2 a3 : Option Addr) (k1 c1 k2 c2 k3 c3 : Nat) (key : ByteArray) (w : World) (r1 : Row w (.slice a1 k1 c1) (TS n.keys)) (r2 : Row w (.slice a2 k2 c2) (TS n.vals)) (r3 : Row w (.slice a3 k3 c3) (IS n.kids)) (hb : n.Bd) (hr : rises n.keys = true) :
    Calls Tryd.prog 21 #[.agg #[.bool n.leaf, .slice a1 k1 c1, .slice a2 k2 c2, .slice a3 k3 c3], .string key] w fun e w' => e = .returned (.tuple #[.int .i64 (n.cnt key : Nat), .bool (n.has key)]) ∧ Same w w' := by
  cases h : n.leaf
  · have := refFind_inner n a1 a2 a3 k1 c1 k2 c2 k3 c3 key w r1 r2 r3 hb hr h
    rw [h] at this
    exact this
  · have := refFind_leaf n a1 a2 a3 k1 c1 k2 c2 k3 c3 key w r1 r2 r3 hb hr h
    rw [h] at this
    exact this
end Go.Proofs.YtilnogadopmboaaDoor
