/- node: mayLists, rise, ContainsFunc at noKid, checkPart, Check. -/
import Derived.Test.YtmkjmdiliaaepaaDoorN1
namespace Go.Proofs.YtmkjmdiliaaepaaDoor
open Go.RowKit
set_option linter.unusedVariables false
theorem beqN (a b : Nat) : ((a : Int) == (b : Int)) = decide (a = b) := by
  by_cases h : a = b
  · simp [h]
  · rw [beq_eq_false_iff_ne.2 (by omega), decide_eq_false h]
theorem beqN0 (a : Nat) : ((a : Int) == 0) = decide (a = 0) := beqN a 0
theorem beqN1 (a b : Nat) : ((a : Int) == (b : Int) + 1) = decide (a = b + 1) := beqN a (b + 1)
set_option maxHeartbeats 1000000 in
set_option maxRecDepth 100000 in
theorem mayLists_any (n : Nd) (a1 a2 a3 : Option Addr) (k1 c1 k2 c2 k3 c3 : Nat) (w : World) (r1 : Row w (.slice a1 k1 c1) (TS n.keys)) (r2 : Row w (.slice a2 k2 c2) (TS n.vals)) (r3 : Row w (.slice a3 k3 c3) (IS n.kids)) (hb : n.Bd) :
    Calls Tryd.prog 51 #[.agg #[.bool n.leaf, .slice a1 k1 c1, .slice a2 k2 c2, .slice a3 k3 c3]] w fun e w' => e = .returned (.bool n.lists) ∧ Same w w' := by
  have e1 := r1.tl
  have e2 := r2.tl
  have e3 := r3.il
  have hbk : k1 ≤ 17592186044416 := by have := hb.k; rw [r1.tl] at this; exact this
  have HR : Hid (n.lists = if n.leaf then decide (k2 = k1) && decide (k3 = 0) else decide (k2 = 0) && decide (k3 = k1 + 1)) := by rw [Hid, Nd.lists, e1, e2, e3]
  have HW := hidden (same_alloc w (.cells #[.bool n.leaf, .slice a1 k1 c1, .slice a2 k2 c2, .slice a3 k3 c3] 25))
  obtain ⟨lf, hlf⟩ : ∃ lf, n.leaf = lf := ⟨_, rfl⟩
  rw [hlf] at HR HW ⊢
  clear r1 r2 r3 hb hlf e1 e2 e3
  cases lf
  · by_cases h : k2 = 0
    · subst h
      go_enter Tryd.func51, Tryd.ntmps51
      go_wp2
      go_returns
      refine ⟨?_, HW.out⟩
      rw [HR.out]
      simp [beqN1]
    · have h1 : ¬ (k2 : Int) = 0 := by omega
      have h2 : ((k2 : Int) == 0) = false := beq_eq_false_iff_ne.2 (by omega)
      go_enter Tryd.func51, Tryd.ntmps51
      go_wp2
      go_returns
      refine ⟨?_, HW.out⟩
      rw [HR.out]
      simp [h]
  · by_cases h : k2 = k1
    · subst h
      go_enter Tryd.func51, Tryd.ntmps51
      go_wp2
      go_returns
      refine ⟨?_, HW.out⟩
      rw [HR.out]
      simp [beqN0]
    · have h1 : ¬ (k2 : Int) = (k1 : Int) := by omega
      have h2 : ((k2 : Int) == (k1 : Int)) = false := beq_eq_false_iff_ne.2 (by omega)
      go_enter Tryd.func51, Tryd.ntmps51
      go_wp2
      go_returns
      refine ⟨?_, HW.out⟩
      rw [HR.out]
      simp [h]
set_option maxHeartbeats 2000000 in
set_option maxRecDepth 100000 in
theorem rise_any (l : List ByteArray) (a : Option Addr) (k c : Nat) (w : World) (r : Row w (.slice a k c) (TS l)) (hb : l.length ≤ 17592186044416) :
    Calls Tryd.prog 56 #[.slice a k c] w fun e w' => e = .returned (.bool (rises l)) ∧ Same w w' := by
  have e1 := r.tl
  rw [e1] at hb
  have E1 := hidden e1
  have R := hidden r
  clear e1 r
  go_enter Tryd.func56, Tryd.ntmps56
  go_wp2
  go_loopw [3] (fun i wr => ∃ i' : Nat, i = .int .i64 i' ∧ 1 ≤ i' ∧ (i' ≤ k ∨ i' = 1) ∧ (∀ t (h : t + 1 < l.length), t + 1 < i' → ltS l[t] l[t + 1] = true) ∧ Same w wr) (fun i _ => k - (intOf i).toNat)
  case atStart => exact ⟨1, rfl, Nat.le_refl _, .inr rfl, (fun t h h1 => by omega), Kept.refl _ _⟩
  case round =>
    obtain ⟨i, rfl, hi1, hi, ha, hsm⟩ := hrel
    have HA := hidden ha
    have HSM := hidden hsm
    clear ha hsm
    by_cases h1 : i < k
    · have hil : i < l.length := by rw [E1.out]; exact h1
      obtain ⟨b, off, rfl, hc⟩ := (R.out.same HSM.out).text hil
      obtain ⟨p, hp⟩ : ∃ p, i = p + 1 := ⟨i - 1, by omega⟩
      have HP := hidden hp
      have hpl : p < l.length := by omega
      have hc2 := (R.out.same HSM.out).textAt hpl
      obtain ⟨x, hx⟩ : ∃ x, l[i] = x := ⟨_, rfl⟩
      obtain ⟨y, hy⟩ : ∃ y, l[p] = y := ⟨_, rfl⟩
      rw [hx] at hc
      rw [hy] at hc2
      have HX := hidden hx
      have HY := hidden hy
      clear hx hy
      have q0 : (i : Int) < (k : Int) := by omega
      have q1 : (i : Int) - 1 = (p : Int) := by omega
      have q2 : IntKind.i64.wrap (p : Int) = (p : Int) := wrapN (by omega) (by omega)
      have q4 : (0 : Int) ≤ (p : Int) := Int.natCast_nonneg _
      have q5 : (0 : Int) ≤ (i : Int) := Int.natCast_nonneg _
      have q3 : (p : Int) < (k : Int) := by omega
      clear hp
      cases hm : ltS y x
      · have HM := hidden hm
        have hfin : Hid (rises l = false) := by
          rw [Hid, Bool.eq_false_iff]
          intro h
          have hi9 := HP.out
          subst hi9
          have h3 := rises_at.1 h p hil
          rw [HX.out, HY.out, HM.out] at h3
          cases h3
        rcases lt_no hm with hq | hq
        · obtain ⟨f1, f2, f3, f4⟩ := lt_yes hq
          clear hm hq
          go_wp2
          go_quiet (fail)
          go_wp2
          go_returns
          exact ⟨by rw [hfin.out]; rfl, HSM.out.trans ((Kept.refl _ _).drewN _)⟩
        · obtain ⟨f1, f2⟩ := lt_self x
          subst hq
          clear hm
          go_wp2
          go_quiet (fail)
          go_wp2
          go_returns
          exact ⟨by rw [hfin.out]; rfl, HSM.out.trans ((Kept.refl _ _).drewN _)⟩
      · have HM := hidden hm
        obtain ⟨f1, f2, f3, f4⟩ := lt_yes hm
        clear hm
        go_wp2
        go_quiet (fail)
        go_wp2
        go_roundw
        case rel =>
          refine ⟨i + 1, by go_num, by omega, .inl (by omega), (fun t h h2 => ?_), HSM.out.trans ((Kept.refl _ _).drewN _)⟩
          have hi9 := HP.out
          rcases Nat.lt_or_ge (t + 1) i with h3 | h3
          · exact HA.out t h h3
          · obtain rfl : t = p := by omega
            subst hi9
            rw [HX.out, HY.out]
            exact HM.out
        case measure => simp [intOf]; omega
    · have q0 : ¬ (i : Int) < (k : Int) := by omega
      go_wp2
      go_returns
      refine ⟨?_, HSM.out⟩
      have : rises l = true := rises_at.2 (fun t h => HA.out t h (by rw [E1.out] at h; omega))
      rw [this]
      rfl
set_option maxHeartbeats 2000000 in
set_option maxRecDepth 100000 in
theorem indexFunc_any (l : List Int) (a : Option Addr) (k c : Nat) (w : World) (r : Row w (.slice a k c) (IS l)) (hb : l.length ≤ 35184372088832) :
    Calls Tryd.prog 88 #[.slice a k c, .func (.func 67) #[] #[]] w fun e w' => ∃ z : Int, e = .returned (.int .i64 z) ∧ decide (0 ≤ z) = l.any noKid ∧ w = w' := by
  have e1 := r.il
  rw [e1] at hb
  have E1 := hidden e1
  have R := hidden r
  have HN := hidden (fun z w => noKid_any z w)
  clear e1 r
  go_enter Tryd.func88, Tryd.ntmps88
  go_wp2
  go_loopw [8] (fun i wr => ∃ i' : Nat, i = .int .i64 i' ∧ i' ≤ k ∧ (l.take i').any noKid = false ∧ w = wr) (fun i _ => k - (intOf i).toNat)
  case atStart => exact ⟨0, rfl, Nat.zero_le _, rfl, rfl⟩
  case round =>
    obtain ⟨i, rfl, hi, ha, rfl⟩ := hrel
    have HA := hidden ha
    clear ha
    by_cases h1 : i < k
    · have hil : i < l.length := by rw [E1.out]; exact h1
      obtain ⟨b, off, rfl, hc⟩ := R.out.int hil
      obtain ⟨x, hx⟩ : ∃ x, l[i] = x := ⟨_, rfl⟩
      have HX := hidden hx
      rw [hx] at hc
      have hall : Hid ((l.take (i + 1)).any noKid = noKid x) := by
        rw [Hid, List.take_add_one, List.any_append, HA.out, List.getElem?_eq_getElem hil, hx]
        simp
      clear hx
      cases hm : noKid x
      · have HKx := HN.out x
        rw [hm] at HKx hall
        have HKX := hidden HKx
        clear hm HKx
        go_wp2_with (go_at_call 67; refine (HKX.out _).mono ?_; rintro e w1 ⟨rfl, rfl⟩)
        go_roundw
        case rel => exact ⟨i + 1, by go_num, by omega, hall.out, trivial⟩
        case measure => simp [intOf]; omega
      · have HM := hidden hm
        have HKx := HN.out x
        rw [hm] at HKx
        have HKX := hidden HKx
        clear hm HKx
        go_wp2_with (go_at_call 67; refine (HKX.out _).mono ?_; rintro e w1 ⟨rfl, rfl⟩)
        go_returns
        refine ⟨_, rfl, ?_, rfl⟩
        rw [List.any_eq_true.2 ⟨x, by rw [← HX.out]; exact List.getElem_mem _, HM.out⟩]
        simp
    · obtain rfl : i = k := by omega
      go_wp2
      go_returns
      refine ⟨_, rfl, ?_, rfl⟩
      have := HA.out
      rw [← E1.out, List.take_length] at this
      rw [this]
      rfl
set_option maxHeartbeats 2000000 in
set_option maxRecDepth 100000 in
theorem containsFunc_any (l : List Int) (a : Option Addr) (k c : Nat) (w : World) (r : Row w (.slice a k c) (IS l)) (hb : l.length ≤ 35184372088832) :
    Calls Tryd.prog 66 #[.slice a k c, .func (.func 67) #[] #[]] w fun e w' => e = .returned (.bool (l.any noKid)) ∧ w = w' := by
  have HI := hidden (indexFunc_any l a k c w r hb)
  clear r hb
  go_enter Tryd.func66, Tryd.ntmps66
  go_wp2_with (go_at_call 88; refine HI.out.mono ?_; rintro e w1 ⟨z, rfl, hz, rfl⟩; have HZ := hidden hz; clear hz)
  go_returns
  refine ⟨?_, rfl⟩
  rw [← HZ.out]
  simp [go_sem]
def Nd.part (n : Nd) : Int := if n.ents then (if n.shape then 0 else 90) else 91
def Nd.chk (n : Nd) : Int := if n.ents then (if n.shape && (n.leaf || decide (n.keys.length ≠ 0)) then 0 else 90) else 91
set_option maxHeartbeats 2000000 in
set_option maxRecDepth 100000 in
theorem checkPart_any (n : Nd) (a1 a2 a3 : Option Addr) (k1 c1 k2 c2 k3 c3 : Nat) (w : World) (r1 : Row w (.slice a1 k1 c1) (TS n.keys)) (r2 : Row w (.slice a2 k2 c2) (TS n.vals)) (r3 : Row w (.slice a3 k3 c3) (IS n.kids)) (hb : n.Bd) :
    Calls Tryd.prog 39 #[.agg #[.bool n.leaf, .slice a1 k1 c1, .slice a2 k2 c2, .slice a3 k3 c3]] w fun e w' => e = .returned (.int .i64 n.part) ∧ Same w w' := by
  have K0 := hidden (same_alloc w (.cells #[.bool n.leaf, .slice a1 k1 c1, .slice a2 k2 c2, .slice a3 k3 c3] 25))
  have HE := hidden (fun W (k : Same w W) => mayEntries_any n a1 a2 a3 k1 c1 k2 c2 k3 c3 W (r1.same k) (r2.same k) (r3.same k) hb)
  have HL := hidden (fun W (k : Same w W) => mayLists_any n a1 a2 a3 k1 c1 k2 c2 k3 c3 W (r1.same k) (r2.same k) (r3.same k) hb)
  have HC := hidden (fun W (k : Same w W) => containsFunc_any n.kids a3 k3 c3 W (r3.same k) hb.i)
  have HR := hidden (fun W (k : Same w W) => rise_any n.keys a1 k1 c1 W (r1.same k) hb.k)
  have HP : Hid (n.part = if n.ents then (if n.lists && !n.kids.any noKid && rises n.keys then 0 else 90) else 91) := rfl
  clear r1 r2 r3 hb
  generalize n.part = z at *
  generalize n.ents = t1 at *
  generalize n.lists = t2 at *
  generalize n.kids.any noKid = t3 at *
  generalize rises n.keys = t4 at *
  cases t1
  · go_enter Tryd.func39, Tryd.ntmps39
    go_wp2_with (go_at_call 65; refine (HE.out _ K0.out).mono ?_; rintro e w1 ⟨rfl, k1'⟩; have K1 := hidden (K0.out.trans k1'); clear k1')
    go_returns
    exact ⟨by rw [HP.out]; rfl, K1.out⟩
  · cases t2
    · go_enter Tryd.func39, Tryd.ntmps39
      go_wp2_with (first
        | (go_at_call 65; refine (HE.out _ K0.out).mono ?_; rintro e w1 ⟨rfl, k1'⟩; have b0 : w1.heap[w.heap.size]? = some (.cells #[.bool n.leaf, .slice a1 k1 c1, .slice a2 k2 c2, .slice a3 k3 c3] 25 (0, 0)) := blk_kept k1' (fun h => h) (blk_new _ _); have c0 : w1.cell? ⟨w.heap.size, 0, none⟩ = some (.bool n.leaf) := blk_cell b0; have c1' : w1.cell? ⟨w.heap.size, 1, none⟩ = some (.slice a1 k1 c1) := blk_cell b0; have c2' : w1.cell? ⟨w.heap.size, 2, none⟩ = some (.slice a2 k2 c2) := blk_cell b0; have c3' : w1.cell? ⟨w.heap.size, 3, none⟩ = some (.slice a3 k3 c3) := blk_cell b0; have K1 := hidden (K0.out.trans k1'); clear k1')
        | (go_at_call 51; refine (HL.out _ K1.out).mono ?_; rintro e w2 ⟨rfl, k2'⟩; have K2 := hidden (K1.out.trans k2'); clear k2'))
      go_returns
      exact ⟨by rw [HP.out]; rfl, K2.out⟩
    · cases t3
      · cases t4
        all_goals
          go_enter Tryd.func39, Tryd.ntmps39
          go_wp2_with (first
            | (go_at_call 65; refine (HE.out _ K0.out).mono ?_; rintro e w1 ⟨rfl, k1'⟩; have b0 : w1.heap[w.heap.size]? = some (.cells #[.bool n.leaf, .slice a1 k1 c1, .slice a2 k2 c2, .slice a3 k3 c3] 25 (0, 0)) := blk_kept k1' (fun h => h) (blk_new _ _); have c0 : w1.cell? ⟨w.heap.size, 0, none⟩ = some (.bool n.leaf) := blk_cell b0; have c1' : w1.cell? ⟨w.heap.size, 1, none⟩ = some (.slice a1 k1 c1) := blk_cell b0; have c2' : w1.cell? ⟨w.heap.size, 2, none⟩ = some (.slice a2 k2 c2) := blk_cell b0; have c3' : w1.cell? ⟨w.heap.size, 3, none⟩ = some (.slice a3 k3 c3) := blk_cell b0; have B0 := hidden b0; have K1 := hidden (K0.out.trans k1'); clear k1' b0)
            | (go_at_call 51; refine (HL.out _ K1.out).mono ?_; rintro e w2 ⟨rfl, k2'⟩; have b1 := blk_kept k2' (fun h => h) B0.out; have d1 : w2.cell? ⟨w.heap.size, 1, none⟩ = some (.slice a1 k1 c1) := blk_cell b1; have d3 : w2.cell? ⟨w.heap.size, 3, none⟩ = some (.slice a3 k3 c3) := blk_cell b1; have K2 := hidden (K1.out.trans k2'); clear k2' b1)
            | (go_at_call 66; refine (HC.out _ K2.out).mono ?_; rintro e w3 ⟨rfl, rfl⟩)
            | (go_at_call 56; refine (HR.out _ K2.out).mono ?_; rintro e w4 ⟨rfl, k4'⟩; have K4 := hidden (K2.out.trans k4'); clear k4'))
          go_returns
          exact ⟨by rw [HP.out]; rfl, K4.out⟩
      · go_enter Tryd.func39, Tryd.ntmps39
        go_wp2_with (first
          | (go_at_call 65; refine (HE.out _ K0.out).mono ?_; rintro e w1 ⟨rfl, k1'⟩; have b0 : w1.heap[w.heap.size]? = some (.cells #[.bool n.leaf, .slice a1 k1 c1, .slice a2 k2 c2, .slice a3 k3 c3] 25 (0, 0)) := blk_kept k1' (fun h => h) (blk_new _ _); have c0 : w1.cell? ⟨w.heap.size, 0, none⟩ = some (.bool n.leaf) := blk_cell b0; have c1' : w1.cell? ⟨w.heap.size, 1, none⟩ = some (.slice a1 k1 c1) := blk_cell b0; have c2' : w1.cell? ⟨w.heap.size, 2, none⟩ = some (.slice a2 k2 c2) := blk_cell b0; have c3' : w1.cell? ⟨w.heap.size, 3, none⟩ = some (.slice a3 k3 c3) := blk_cell b0; have B0 := hidden b0; have K1 := hidden (K0.out.trans k1'); clear k1' b0)
          | (go_at_call 51; refine (HL.out _ K1.out).mono ?_; rintro e w2 ⟨rfl, k2'⟩; have b1 := blk_kept k2' (fun h => h) B0.out; have d3 : w2.cell? ⟨w.heap.size, 3, none⟩ = some (.slice a3 k3 c3) := blk_cell b1; have K2 := hidden (K1.out.trans k2'); clear k2' b1)
          | (go_at_call 66; refine (HC.out _ K2.out).mono ?_; rintro e w3 ⟨rfl, rfl⟩))
        go_returns
        exact ⟨by rw [HP.out]; rfl, K2.out⟩
set_option maxHeartbeats 2000000 in
set_option maxRecDepth 100000 in
theorem check_any (n : Nd) (a1 a2 a3 : Option Addr) (k1 c1 k2 c2 k3 c3 : Nat) (w : World) (r1 : Row w (.slice a1 k1 c1) (TS n.keys)) (r2 : Row w (.slice a2 k2 c2) (TS n.vals)) (r3 : Row w (.slice a3 k3 c3) (IS n.kids)) (hb : n.Bd) :
    Calls Tryd.prog 13 #[.agg #[.bool n.leaf, .slice a1 k1 c1, .slice a2 k2 c2, .slice a3 k3 c3]] w fun e w' => e = .returned (.int .i64 n.chk) ∧ Same w w' := by
  have K0 := hidden (same_alloc w (.cells #[.bool n.leaf, .slice a1 k1 c1, .slice a2 k2 c2, .slice a3 k3 c3] 25))
  have HP := hidden (fun W (k : Same w W) => checkPart_any n a1 a2 a3 k1 c1 k2 c2 k3 c3 W (r1.same k) (r2.same k) (r3.same k) hb)
  have hz : n.part = 0 ∨ n.part = 90 ∨ n.part = 91 := by unfold Nd.part; split <;> (try split) <;> simp
  have hcp : Hid (n.chk = if n.part = 0 then (if n.leaf || decide (k1 ≠ 0) then 0 else 90) else n.part) := by
    rw [Hid, Nd.chk, Nd.part, ← r1.tl]
    cases n.ents <;> cases n.shape <;> cases n.leaf <;> simp
  clear r1 r2 r3 hb
  generalize n.part = z at *
  generalize n.chk = y at *
  rcases hz with rfl | rfl | rfl
  · obtain ⟨lf, hlf⟩ : ∃ lf, n.leaf = lf := ⟨_, rfl⟩
    rw [hlf] at hcp K0 HP ⊢
    clear hlf
    cases lf
    · by_cases h0 : k1 = 0
      · subst h0
        go_enter Tryd.func13, Tryd.ntmps13
        go_wp2_with (go_at_call 39; refine (HP.out _ K0.out).mono ?_; rintro e w1 ⟨rfl, k1'⟩; have b0 : w1.heap[w.heap.size]? = some (.cells #[.bool false, .slice a1 0 c1, .slice a2 k2 c2, .slice a3 k3 c3] 25 (0, 0)) := blk_kept k1' (fun h => h) (blk_new _ _); have d0 : w1.cell? ⟨w.heap.size, 0, none⟩ = some (.bool false) := blk_cell b0; have d1 : w1.cell? ⟨w.heap.size, 1, none⟩ = some (.slice a1 0 c1) := blk_cell b0; have K1 := hidden (K0.out.trans k1'); clear k1' b0)
        go_returns
        exact ⟨by rw [hcp.out]; rfl, K1.out⟩
      · have h1 : ¬ (k1 : Int) = 0 := by omega
        have h2 : ((k1 : Int) == 0) = false := beq_eq_false_iff_ne.2 h1
        go_enter Tryd.func13, Tryd.ntmps13
        go_wp2_with (go_at_call 39; refine (HP.out _ K0.out).mono ?_; rintro e w1 ⟨rfl, k1'⟩; have b0 : w1.heap[w.heap.size]? = some (.cells #[.bool false, .slice a1 k1 c1, .slice a2 k2 c2, .slice a3 k3 c3] 25 (0, 0)) := blk_kept k1' (fun h => h) (blk_new _ _); have d0 : w1.cell? ⟨w.heap.size, 0, none⟩ = some (.bool false) := blk_cell b0; have d1 : w1.cell? ⟨w.heap.size, 1, none⟩ = some (.slice a1 k1 c1) := blk_cell b0; have K1 := hidden (K0.out.trans k1'); clear k1' b0)
        go_returns
        refine ⟨?_, K1.out⟩
        rw [hcp.out]
        simp [h0]
    · go_enter Tryd.func13, Tryd.ntmps13
      go_wp2_with (go_at_call 39; refine (HP.out _ K0.out).mono ?_; rintro e w1 ⟨rfl, k1'⟩; have b0 : w1.heap[w.heap.size]? = some (.cells #[.bool true, .slice a1 k1 c1, .slice a2 k2 c2, .slice a3 k3 c3] 25 (0, 0)) := blk_kept k1' (fun h => h) (blk_new _ _); have d0 : w1.cell? ⟨w.heap.size, 0, none⟩ = some (.bool true) := blk_cell b0; have K1 := hidden (K0.out.trans k1'); clear k1' b0)
      go_returns
      exact ⟨by rw [hcp.out]; rfl, K1.out⟩
  all_goals
    go_enter Tryd.func13, Tryd.ntmps13
    go_wp2_with (go_at_call 39; refine (HP.out _ K0.out).mono ?_; rintro e w1 ⟨rfl, k1'⟩; have K1 := hidden (K0.out.trans k1'); clear k1')
    go_returns
    exact ⟨by rw [hcp.out]; rfl, K1.out⟩
end Go.Proofs.YtmkjmdiliaaepaaDoor
