/- node: Find; slices.Index, Contains of texts. -/
import Derived.Test.YtmkjmdiliaaepaaDoorN2
namespace Go.Proofs.YtmkjmdiliaaepaaDoor
open Go.RowKit
set_option linter.unusedVariables false
/-- Is it ahead of a key's place? -/
def ahead (lf : Bool) (key k : ByteArray) : Bool := ltS k key || (!lf && k.toList == key.toList)
def Nd.cnt (n : Nd) (key : ByteArray) : Nat := n.keys.countP (ahead n.leaf key)
def Nd.has (n : Nd) (key : ByteArray) : Bool := n.leaf && (match n.keys[n.cnt key]? with | some k => k.toList == key.toList | none => false)
theorem cnt_step (l : List ByteArray) (f : ByteArray → Bool) {i : Nat} (h : i < l.length) : (l.take (i + 1)).countP f = (l.take i).countP f + (if f l[i] then 1 else 0) := by
  rw [List.take_add_one, List.countP_append, List.getElem?_eq_getElem h]
  simp [List.countP_cons]
set_option maxHeartbeats 4000000 in
set_option maxRecDepth 100000 in
theorem find_any (n : Nd) (a1 a2 a3 : Option Addr) (k1 c1 k2 c2 k3 c3 : Nat) (key : ByteArray) (w : World) (r1 : Row w (.slice a1 k1 c1) (TS n.keys)) (r2 : Row w (.slice a2 k2 c2) (TS n.vals)) (r3 : Row w (.slice a3 k3 c3) (IS n.kids)) (hb : n.Bd) :
    Calls Tryd.prog 20 #[.agg #[.bool n.leaf, .slice a1 k1 c1, .slice a2 k2 c2, .slice a3 k3 c3], .string key] w fun e w' => e = .returned (.tuple #[.int .i64 (n.cnt key : Nat), .bool (n.has key)]) ∧ Same w w' := by
  have hbk : k1 ≤ 17592186044416 := by have := hb.k; rw [r1.tl] at this; exact this
  have K0 := hidden (same_alloc w (.cells #[.bool n.leaf, .slice a1 k1 c1, .slice a2 k2 c2, .slice a3 k3 c3] 25))
  have R1 := hidden (r1.same K0.out)
  have E1 := hidden r1.tl
  have HC : Hid (n.keys.countP (ahead n.leaf key) = n.cnt key) := rfl
  have HH : Hid (n.has key = (n.leaf && (match n.keys[n.cnt key]? with | some k => k.toList == key.toList | none => false))) := rfl
  generalize n.cnt key = cn at *
  generalize n.has key = hs at *
  obtain ⟨lf, hlf⟩ : ∃ lf, n.leaf = lf := ⟨_, rfl⟩
  rw [hlf] at K0 R1 HC HH ⊢
  clear r1 r2 r3 hb hlf
  have hcn : cn ≤ k1 := by rw [← HC.out, ← E1.out]; exact List.countP_le_length
  go_enter Tryd.func20, Tryd.ntmps20
  go_wp2
  go_loopw [6, 12] (fun p i wr => ∃ (i' p' : Nat), p = .int .i64 p' ∧ i = .int .i64 i' ∧ i' ≤ k1 ∧ p' ≤ i' ∧ (n.keys.take i').countP (ahead lf key) = p' ∧ w.alloc (.cells #[.bool lf, .slice a1 k1 c1, .slice a2 k2 c2, .slice a3 k3 c3] 25) = wr) (fun _ i _ => k1 - (intOf i).toNat)
  case atStart => exact ⟨0, 0, rfl, rfl, Nat.zero_le _, Nat.le_refl _, rfl, rfl⟩
  case round =>
    obtain ⟨i, p, rfl, rfl, hi, hp, ha, rfl⟩ := hrel
    have HA := hidden ha
    clear ha
    by_cases h1 : i < k1
    · have hil : i < n.keys.length := by rw [E1.out]; exact h1
      obtain ⟨b, off, rfl, hc⟩ := R1.out.text hil
      have hst := cnt_step n.keys (ahead lf key) hil
      rw [HA.out] at hst
      obtain ⟨x, hx⟩ : ∃ x, n.keys[i] = x := ⟨_, rfl⟩
      rw [hx] at hc hst
      clear hx
      have HST := hidden hst
      clear hst
      cases hm : ltS x key
      · have f1 := less_of hm
        cases he : (x.toList == key.toList)
        · have hah : Hid (ahead lf key x = false) := by rw [Hid, ahead, hm, he]; simp
          clear hm
          go_wp2
          go_roundw
          case rel => exact ⟨i + 1, p, rfl, by go_num, by omega, by omega, by rw [HST.out, hah.out]; rfl, trivial⟩
          case measure => simp [intOf]; omega
        · cases lf
          · have hah : Hid (ahead false key x = true) := by rw [Hid, ahead, hm, he]; rfl
            clear hm
            go_wp2
            go_roundw
            case rel => exact ⟨i + 1, p + 1, by go_num, by go_num, by omega, by omega, by rw [HST.out, hah.out]; rfl, trivial⟩
            case measure => simp [intOf]; omega
          · have hah : Hid (ahead true key x = false) := by rw [Hid, ahead, hm]; rfl
            clear hm
            go_wp2
            go_roundw
            case rel => exact ⟨i + 1, p, rfl, by go_num, by omega, by omega, by rw [HST.out, hah.out]; rfl, trivial⟩
            case measure => simp [intOf]; omega
      · have f1 := less_of hm
        have hah : Hid (ahead lf key x = true) := by rw [Hid, ahead, hm]; rfl
        clear hm
        go_wp2
        go_roundw
        case rel => exact ⟨i + 1, p + 1, by go_num, by go_num, by omega, by omega, by rw [HST.out, hah.out]; rfl, trivial⟩
        case measure => simp [intOf]; omega
    · obtain rfl : i = k1 := by omega
      have hpc : p = cn := by rw [← HA.out, ← HC.out, ← E1.out, List.take_length]
      subst hpc
      have q1 : ¬ (i : Int) < (i : Int) := by omega
      cases lf
      · go_wp2
        go_quiet (fail)
        go_wp2
        go_returns
        exact ⟨by rw [HH.out]; rfl, K0.out.trans ((Kept.refl _ _).drewN _)⟩
      · by_cases h2 : p < i
        · have h3 : decide ((p : Int) < (i : Int)) = true := by simp; omega
          have h4 : decide (p < i) = true := by simp; omega
          have h5 : (p : Int) < (i : Int) := by omega
          have q0 : (0 : Int) ≤ (p : Int) := Int.natCast_nonneg _
          have hil : p < n.keys.length := by rw [E1.out]; exact h2
          obtain ⟨b, off, rfl, hc⟩ := R1.out.text hil
          obtain ⟨x, hx⟩ : ∃ x, n.keys[p] = x := ⟨_, rfl⟩
          have hhs : Hid (hs = (x.toList == key.toList)) := by rw [Hid, HH.out, List.getElem?_eq_getElem hil, hx]; rfl
          rw [hx] at hc
          clear hx
          generalize he : (x.toList == key.toList) = t at *
          go_wp2
          go_quiet (fail)
          go_wp2
          go_returns
          exact ⟨by rw [hhs.out]; rfl, K0.out.trans ((Kept.refl _ _).drewN _)⟩
        · have h3 : decide ((p : Int) < (i : Int)) = false := by simp; omega
          have h4 : decide (p < i) = false := by simp; omega
          have h5 : ¬ (p : Int) < (i : Int) := by omega
          have hhs : Hid (hs = false) := by rw [Hid, HH.out, List.getElem?_eq_none (by rw [E1.out]; omega)]; rfl
          go_wp2
          go_quiet (fail)
          go_wp2
          go_returns
          exact ⟨by rw [hhs.out]; rfl, K0.out.trans ((Kept.refl _ _).drewN _)⟩
set_option maxHeartbeats 2000000 in
set_option maxRecDepth 100000 in
theorem index_any (key : ByteArray) (l : List ByteArray) (a : Option Addr) (k c : Nat) (w : World) (r : Row w (.slice a k c) (TS l)) (hb : l.length ≤ 17592186044416) :
    Calls Tryd.prog 80 #[.slice a k c, .string key] w fun e w' => ∃ z : Int, e = .returned (.int .i64 z) ∧ decide (0 ≤ z) = l.any (fun x => x.toList == key.toList) ∧ Same w w' := by
  have e1 := r.tl
  rw [e1] at hb
  have E1 := hidden e1
  have R := hidden r
  clear e1 r
  go_enter Tryd.func80, Tryd.ntmps80
  go_wp2
  go_loopw [8] (fun i wr => ∃ i' : Nat, i = .int .i64 i' ∧ i' ≤ k ∧ (l.take i').any (fun x => x.toList == key.toList) = false ∧ Same w wr) (fun i _ => k - (intOf i).toNat)
  case atStart => exact ⟨0, rfl, Nat.zero_le _, rfl, Kept.refl _ _⟩
  case round =>
    obtain ⟨i, rfl, hi, ha, hsm⟩ := hrel
    have HA := hidden ha
    have HSM := hidden hsm
    clear ha hsm
    by_cases h1 : i < k
    · have hil : i < l.length := by rw [E1.out]; exact h1
      obtain ⟨b, off, rfl, hc⟩ := (R.out.same HSM.out).text hil
      obtain ⟨x, hx⟩ : ∃ x, l[i] = x := ⟨_, rfl⟩
      have HX := hidden hx
      rw [hx] at hc
      have hall : Hid ((l.take (i + 1)).any (fun x => x.toList == key.toList) = (x.toList == key.toList)) := by
        rw [Hid, List.take_add_one, List.any_append, HA.out, List.getElem?_eq_getElem hil, hx]
        simp
      clear hx
      have q0 : (0 : Int) ≤ (i : Int) := Int.natCast_nonneg _
      have q1 : (i : Int) < (k : Int) := by omega
      cases hm : (x.toList == key.toList)
      · have hm2 : (key.toList == x.toList) = false := by rw [beq_eq_false_iff_ne] at hm ⊢; exact fun e => hm e.symm
        rw [hm] at hall
        go_wp2
        go_roundw
        case rel => exact ⟨i + 1, by go_num, by omega, hall.out, HSM.out⟩
        case measure => simp [intOf]; omega
      · have hm2 : (key.toList == x.toList) = true := by rw [beq_iff_eq] at hm ⊢; exact hm.symm
        have HM := hidden hm
        clear hm
        go_wp2
        go_returns
        refine ⟨_, rfl, ?_, HSM.out⟩
        rw [List.any_eq_true.2 ⟨x, by rw [← HX.out]; exact List.getElem_mem _, HM.out⟩]
        simp
    · obtain rfl : i = k := by omega
      go_wp2
      go_returns
      refine ⟨_, rfl, ?_, HSM.out⟩
      have := HA.out
      rw [← E1.out, List.take_length] at this
      rw [this]
      rfl
set_option maxHeartbeats 2000000 in
set_option maxRecDepth 100000 in
theorem contains_any (key : ByteArray) (l : List ByteArray) (a : Option Addr) (k c : Nat) (w : World) (r : Row w (.slice a k c) (TS l)) (hb : l.length ≤ 17592186044416) :
    Calls Tryd.prog 52 #[.slice a k c, .string key] w fun e w' => e = .returned (.bool (l.any (fun x => x.toList == key.toList))) ∧ Same w w' := by
  have HI := hidden (index_any key l a k c w r hb)
  clear r hb
  generalize l.any (fun x => x.toList == key.toList) = t at *
  go_enter Tryd.func52, Tryd.ntmps52
  go_wp2_with (go_at_call 80; refine HI.out.mono ?_; rintro e w1 ⟨z, rfl, hz, k1⟩; have HZ := hidden hz; have K1 := hidden k1; clear hz k1)
  go_returns
  refine ⟨?_, K1.out⟩
  rw [← HZ.out]
  simp [go_sem]
end Go.Proofs.YtmkjmdiliaaepaaDoor
