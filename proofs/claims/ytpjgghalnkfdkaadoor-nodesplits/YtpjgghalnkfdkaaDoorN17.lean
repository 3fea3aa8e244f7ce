/- node: the document's lengths, shape, Check. -/
import Derived.Test.YtpjgghalnkfdkaaDoorN16
namespace Go.Proofs.YtpjgghalnkfdkaaDoor
open Go.RowKit
set_option linter.unusedVariables false
set_option linter.unusedSimpArgs false
set_option maxHeartbeats 2000000 in
set_option maxRecDepth 100000 in
theorem lengths_any (n : Nd) (a1 a2 a3 : Option Addr) (k1 c1 k2 c2 k3 c3 : Nat) (w : World) (r1 : Row w (.slice a1 k1 c1) (TS n.keys)) (r2 : Row w (.slice a2 k2 c2) (TS n.vals)) (r3 : Row w (.slice a3 k3 c3) (IS n.kids)) (hb : n.Bd) :
    Calls Tryd.prog 40 #[.agg #[.bool n.leaf, .slice a1 k1 c1, .slice a2 k2 c2, .slice a3 k3 c3]] w fun e w' => e = .returned (.bool n.ents) ∧ Same w w' := by
  have hbk : k1 ≤ 17592186044416 := by have := hb.k; rw [r1.tl] at this; exact this
  have hbv : k2 ≤ 17592186044416 := by have := hb.v; rw [r2.tl] at this; exact this
  have HW := hidden (same_alloc w (.cells #[.bool n.leaf, .slice a1 k1 c1, .slice a2 k2 c2, .slice a3 k3 c3] 25))
  have R1 := hidden (r1.same HW.out)
  have R2 := hidden (r2.same HW.out)
  have HNK := hidden r1.tl
  have HNV := hidden r2.tl
  clear r1 r2 r3 hb
  go_enter Tryd.func40, Tryd.ntmps40
  go_wp2
  go_loopw [3] (fun i wr => ∃ i' : Nat, i = .int .i64 i' ∧ i' ≤ k1 ∧ (n.keys.take i').all mayK = true ∧ w.alloc (.cells #[.bool n.leaf, .slice a1 k1 c1, .slice a2 k2 c2, .slice a3 k3 c3] 25) = wr) (fun i _ => k1 - (intOf i).toNat)
  case atStart => exact ⟨0, rfl, Nat.zero_le _, rfl, rfl⟩
  case round =>
    obtain ⟨i, rfl, hi, ha, rfl⟩ := hrel
    have HA := hidden ha
    clear ha
    by_cases h1 : i < k1
    · have hil : i < n.keys.length := by rw [HNK.out]; exact h1
      obtain ⟨b, off, rfl, hc⟩ := R1.out.text hil
      obtain ⟨x, hx⟩ : ∃ x, n.keys[i] = x := ⟨_, rfl⟩
      have HX := hidden hx
      rw [hx] at hc
      have hall : Hid ((n.keys.take (i + 1)).all mayK = mayK x) := by
        rw [Hid, List.take_add_one, List.all_append, HA.out, List.getElem?_eq_getElem hil, hx]
        simp
      have hno : mayK x = false → n.ents = false := fun hm => by
        have : n.keys.all mayK = false := by
          rw [Bool.eq_false_iff]
          intro h
          have := List.all_eq_true.1 h x (by rw [← hx]; exact List.getElem_mem _)
          rw [hm] at this
          cases this
        simp [Nd.ents, this]
      clear hx
      by_cases hs1 : x.size < 1
      · have hm : mayK x = false := by simp [mayK]; omega
        have hf := hidden (hno hm)
        have s1 : (x.size : Int) < 1 := by omega
        clear hno hm
        go_wp2
        go_returns
        exact ⟨by rw [hf.out]; rfl, HW.out⟩
      · by_cases hs2 : 64 < x.size
        · have hm : mayK x = false := by simp [mayK]; omega
          have hf := hidden (hno hm)
          have s1 : ¬ (x.size : Int) < 1 := by omega
          have s2 : (64 : Int) < (x.size : Int) := by omega
          clear hno hm
          go_wp2
          go_returns
          exact ⟨by rw [hf.out]; rfl, HW.out⟩
        · have hm : mayK x = true := by simp [mayK]; omega
          rw [hm] at hall
          have s1 : ¬ (x.size : Int) < 1 := by omega
          have s2 : ¬ (64 : Int) < (x.size : Int) := by omega
          clear hno hm
          go_wp2
          go_roundw
          case rel => exact ⟨i + 1, by go_num, by omega, hall.out, trivial⟩
          case measure => simp [intOf]; omega
    · obtain rfl : i = k1 := by omega
      have hke : Hid (n.keys.all mayK = true) := by rw [Hid, ← HA.out, ← HNK.out, List.take_length]
      go_wp2
      go_loopw [4] (fun k wr => ∃ i' : Nat, k = .int .i64 i' ∧ i' ≤ k2 ∧ (n.vals.take i').all mayV = true ∧ w.alloc (.cells #[.bool n.leaf, .slice a1 i c1, .slice a2 k2 c2, .slice a3 k3 c3] 25) = wr) (fun i _ => k2 - (intOf i).toNat)
      case atStart => exact ⟨0, rfl, Nat.zero_le _, rfl, rfl⟩
      case round =>
        obtain ⟨j, rfl, hj, ha, rfl⟩ := hrel
        have HA2 := hidden ha
        clear ha
        by_cases h2 : j < k2
        · have hil : j < n.vals.length := by rw [HNV.out]; exact h2
          obtain ⟨b, off, rfl, hc⟩ := R2.out.text hil
          obtain ⟨x, hx⟩ : ∃ x, n.vals[j] = x := ⟨_, rfl⟩
          rw [hx] at hc
          have hall : Hid ((n.vals.take (j + 1)).all mayV = mayV x) := by
            rw [Hid, List.take_add_one, List.all_append, HA2.out, List.getElem?_eq_getElem hil, hx]
            simp
          by_cases hs2 : 64 < x.size
          · have hm : mayV x = false := by simp [mayV]; omega
            have hf : Hid (n.ents = false) := by
              have : n.vals.all mayV = false := by
                rw [Bool.eq_false_iff]
                intro h
                have := List.all_eq_true.1 h x (by rw [← hx]; exact List.getElem_mem _)
                rw [hm] at this
                cases this
              rw [Hid]
              simp [Nd.ents, this]
            have s2 : (64 : Int) < (x.size : Int) := by omega
            clear hx hm
            go_wp2
            go_returns
            exact ⟨by rw [hf.out]; rfl, HW.out⟩
          · have hm : mayV x = true := by simp [mayV]; omega
            rw [hm] at hall
            have s2 : ¬ (64 : Int) < (x.size : Int) := by omega
            clear hx hm
            go_wp2
            go_roundw
            case rel => exact ⟨j + 1, by go_num, by omega, hall.out, trivial⟩
            case measure => simp [intOf]; omega
        · obtain rfl : j = k2 := by omega
          have hve : Hid (n.vals.all mayV = true) := by rw [Hid, ← HA2.out, ← HNV.out, List.take_length]
          go_wp2
          go_returns
          refine ⟨?_, HW.out⟩
          simp only [Nd.ents, hke.out, hve.out]
          rfl
set_option maxHeartbeats 4000000 in
set_option maxRecDepth 100000 in
theorem shape_leaf (n : Nd) (a1 a2 a3 : Option Addr) (k1 c1 k2 c2 k3 c3 : Nat) (w : World) (r1 : Row w (.slice a1 k1 c1) (TS n.keys)) (r2 : Row w (.slice a2 k2 c2) (TS n.vals)) (r3 : Row w (.slice a3 k3 c3) (IS n.kids)) (hb : n.Bd) (hl : n.leaf = true) :
    Calls Tryd.prog 41 #[.agg #[.bool n.leaf, .slice a1 k1 c1, .slice a2 k2 c2, .slice a3 k3 c3]] w fun e w' => e = .returned (.bool n.shape) ∧ Same w w' := by
  have hbk : k1 ≤ 17592186044416 := by have := hb.k; rw [r1.tl] at this; exact this
  have hbi : k3 ≤ 35184372088832 := by have := hb.i; rw [r3.il] at this; exact this
  have E1 := hidden r1.tl
  have E2 := hidden r2.tl
  have E3 := hidden r3.il
  have R1 := hidden r1
  have R3 := hidden r3
  have HW := hidden (same_alloc w (.cells #[.bool true, .slice a1 k1 c1, .slice a2 k2 c2, .slice a3 k3 c3] 25))
  have HLI : Hid (n.lists = (decide (k2 = k1) && decide (k3 = 0))) := by rw [Hid, Nd.lists, hl, E1.out, E2.out, E3.out]; rfl
  rw [hl]
  clear r1 r2 r3 hb hl
  cases hls : n.lists
  · have hfin : Hid (n.shape = false) := by rw [Hid]; simp [Nd.shape, hls]
    rw [HLI.out] at hls
    clear HLI
    by_cases h1 : k2 = k1
    · have h3 : ¬ k3 = 0 := by intro h; simp [h1, h] at hls
      have u1 : ((k3 : Int) == 0) = false := beq_eq_false_iff_ne.2 (by omega)
      have u2 : ¬ (k3 : Int) = 0 := by omega
      have h1' := h1.symm
      subst h1'
      clear hls
      go_enter Tryd.func41, Tryd.ntmps41
      go_wp2
      go_returns
      exact ⟨by rw [hfin.out]; rfl, HW.out⟩
    · have u1 : ((k2 : Int) == (k1 : Int)) = false := beq_eq_false_iff_ne.2 (by omega)
      have u2 : ¬ (k2 : Int) = (k1 : Int) := by omega
      clear hls
      go_enter Tryd.func41, Tryd.ntmps41
      go_wp2
      go_returns
      exact ⟨by rw [hfin.out]; rfl, HW.out⟩
  · have HLS := hidden hls
    rw [HLI.out] at hls
    simp only [Bool.and_eq_true, decide_eq_true_eq] at hls
    obtain ⟨h1, h3⟩ := hls
    have h1' := h1.symm
    subst h1'
    clear HLI
    have hk3 : ((k3 : Int) == 0) = true := by rw [h3]; rfl
    have hk3' : (k3 : Int) = 0 := by omega
    have HK3 := hidden h3
    clear h3
    go_enter Tryd.func41, Tryd.ntmps41
    go_wp2
    go_loopw [3] (fun i wr => ∃ i' : Nat, i = .int .i64 i' ∧ i' ≤ k3 ∧ (n.kids.take i').any noKid = false ∧ Same w wr ∧ wr.heap[w.heap.size]? = some (.cells #[.bool true, .slice a1 k1 c1, .slice a2 k1 c2, .slice a3 k3 c3] 25 (0, 0))) (fun i _ => k3 - (intOf i).toNat)
    case atStart => exact ⟨0, rfl, Nat.zero_le _, rfl, HW.out, blk_new _ _⟩
    case round =>
      obtain ⟨i, rfl, hi, ha, hsm, hbx⟩ := hrel
      have HA := hidden ha
      have HSM := hidden hsm
      have HBX := hidden hbx
      have z1 : wr.cell? ⟨w.heap.size, 1, none⟩ = some (.slice a1 k1 c1) := blk_cell hbx
      have z3 : wr.cell? ⟨w.heap.size, 3, none⟩ = some (.slice a3 k3 c3) := blk_cell hbx
      clear ha hsm hbx
      by_cases h1 : i < k3
      · exact absurd h1 (by have := HK3.out; omega)
      · obtain rfl : i = k3 := by omega
        have hka : Hid (n.kids.any noKid = false) := by rw [Hid, ← HA.out, ← E3.out, List.take_length]
        go_wp2
        go_loopw [4] (fun jv wr => ∃ i' : Nat, jv = .int .i64 i' ∧ 1 ≤ i' ∧ (i' ≤ k1 ∨ i' = 1) ∧ (∀ t (h : t + 1 < n.keys.length), t + 1 < i' → ltS n.keys[t] n.keys[t + 1] = true) ∧ Same w wr ∧ wr.heap[w.heap.size]? = some (.cells #[.bool true, .slice a1 k1 c1, .slice a2 k1 c2, .slice a3 i c3] 25 (0, 0))) (fun i _ => k1 - (intOf i).toNat)
        case atStart => exact ⟨1, rfl, Nat.le_refl _, .inr rfl, (fun t h h1 => by omega), HSM.out, HBX.out⟩
        case round =>
          obtain ⟨j, rfl, hj1, hj, ha, hsm, hbx⟩ := hrel
          have HA2 := hidden ha
          have HSM2 := hidden hsm
          have HBX2 := hidden hbx
          have y1 : wr.cell? ⟨w.heap.size, 1, none⟩ = some (.slice a1 k1 c1) := blk_cell hbx
          clear ha hsm hbx z1 z3
          by_cases h2 : j < k1
          · have hil : j < n.keys.length := by rw [E1.out]; exact h2
            obtain ⟨b, off, hab, hc⟩ := (R1.out.same HSM2.out).text hil
            subst hab
            obtain ⟨p, hp⟩ : ∃ p, j = p + 1 := ⟨j - 1, by omega⟩
            have HP := hidden hp
            have hpl : p < n.keys.length := by omega
            have hc2 := (R1.out.same HSM2.out).textAt hpl
            obtain ⟨x, hx⟩ : ∃ x, n.keys[j] = x := ⟨_, rfl⟩
            obtain ⟨y, hy⟩ : ∃ y, n.keys[p] = y := ⟨_, rfl⟩
            rw [hx] at hc
            rw [hy] at hc2
            have HX := hidden hx
            have HY := hidden hy
            clear hx hy
            have q0 : (j : Int) < (k1 : Int) := by omega
            have q1 : (j : Int) - 1 = (p : Int) := by omega
            have q2 : IntKind.i64.wrap (p : Int) = (p : Int) := wrapN (by omega) (by omega)
            have q4 : (0 : Int) ≤ (p : Int) := Int.natCast_nonneg _
            have q5 : (0 : Int) ≤ (j : Int) := Int.natCast_nonneg _
            have q3 : (p : Int) < (k1 : Int) := by omega
            clear hp
            cases hm : ltS y x
            · have HM := hidden hm
              have f1 := less_of hm
              have hfin : Hid (n.shape = false) := by
                have : rises n.keys = false := by
                  rw [Bool.eq_false_iff]
                  intro h
                  have hi9 := HP.out
                  subst hi9
                  have h3 := rises_at.1 h p hil
                  rw [HX.out, HY.out, HM.out] at h3
                  cases h3
                rw [Hid]
                simp [Nd.shape, this]
              clear hm
              go_wp2
              go_quiet (fail)
              go_wp2
              go_returns
              exact ⟨by rw [hfin.out]; rfl, HSM2.out.trans ((Kept.refl _ _).drewN _)⟩
            · have HM := hidden hm
              obtain ⟨f1, f2, f3, f4⟩ := lt_yes hm
              clear hm
              go_wp2
              go_quiet (fail)
              go_wp2
              go_roundw
              case rel =>
                refine ⟨j + 1, by go_num, by omega, .inl (by omega), (fun t h h2 => ?_), HSM2.out.trans ((Kept.refl _ _).drewN _), blk_kept ((Kept.refl (fun _ => False) _).drewN _) (fun h => h) HBX2.out⟩
                have hi9 := HP.out
                rcases Nat.lt_or_ge (t + 1) j with h3 | h3
                · exact HA2.out t h h3
                · obtain rfl : t = p := by omega
                  subst hi9
                  rw [HX.out, HY.out]
                  exact HM.out
              case measure => simp [intOf]; omega
          · have q0 : ¬ (j : Int) < (k1 : Int) := by omega
            go_wp2
            go_returns
            refine ⟨?_, HSM2.out⟩
            have hr : rises n.keys = true := rises_at.2 (fun t h => HA2.out t h (by rw [E1.out] at h; omega))
            have : n.shape = true := by simp [Nd.shape, hr, hka.out, HLS.out]
            rw [this]
            rfl
set_option maxHeartbeats 4000000 in
set_option maxRecDepth 100000 in
theorem shape_inner (n : Nd) (a1 a2 a3 : Option Addr) (k1 c1 k2 c2 k3 c3 : Nat) (w : World) (r1 : Row w (.slice a1 k1 c1) (TS n.keys)) (r2 : Row w (.slice a2 k2 c2) (TS n.vals)) (r3 : Row w (.slice a3 k3 c3) (IS n.kids)) (hb : n.Bd) (hl : n.leaf = false) :
    Calls Tryd.prog 41 #[.agg #[.bool n.leaf, .slice a1 k1 c1, .slice a2 k2 c2, .slice a3 k3 c3]] w fun e w' => e = .returned (.bool n.shape) ∧ Same w w' := by
  have hbk : k1 ≤ 17592186044416 := by have := hb.k; rw [r1.tl] at this; exact this
  have hbi : k3 ≤ 35184372088832 := by have := hb.i; rw [r3.il] at this; exact this
  have E1 := hidden r1.tl
  have E2 := hidden r2.tl
  have E3 := hidden r3.il
  have R1 := hidden r1
  have R3 := hidden r3
  have HW := hidden (same_alloc w (.cells #[.bool false, .slice a1 k1 c1, .slice a2 k2 c2, .slice a3 k3 c3] 25))
  have HLI : Hid (n.lists = (decide (k2 = 0) && decide (k3 = k1 + 1))) := by rw [Hid, Nd.lists, hl, E1.out, E2.out, E3.out]; rfl
  rw [hl]
  clear r1 r2 r3 hb hl
  cases hls : n.lists
  · have hfin : Hid (n.shape = false) := by rw [Hid]; simp [Nd.shape, hls]
    rw [HLI.out] at hls
    clear HLI
    by_cases h1 : k3 = k1 + 1
    · have h3 : ¬ k2 = 0 := by intro h; simp [h1, h] at hls
      have u1 : ((k2 : Int) == 0) = false := beq_eq_false_iff_ne.2 (by omega)
      have u2 : ¬ (k2 : Int) = 0 := by omega
      have u3 : ((k3 : Int) == (k1 : Int) + 1) = true := by rw [beqN1]; simp [h1]
      have u4 : (k3 : Int) = (k1 : Int) + 1 := by omega
      clear hls h1
      go_enter Tryd.func41, Tryd.ntmps41
      go_wp2
      go_returns
      exact ⟨by rw [hfin.out]; rfl, HW.out⟩
    · have u1 : ((k3 : Int) == (k1 : Int) + 1) = false := by rw [beqN1]; simp [h1]
      have u2 : ¬ (k3 : Int) = (k1 : Int) + 1 := by omega
      clear hls
      go_enter Tryd.func41, Tryd.ntmps41
      go_wp2
      go_returns
      exact ⟨by rw [hfin.out]; rfl, HW.out⟩
  · have HLS := hidden hls
    rw [HLI.out] at hls
    simp only [Bool.and_eq_true, decide_eq_true_eq] at hls
    obtain ⟨h1, h3⟩ := hls
    subst h1
    clear HLI
    have u3 : ((k3 : Int) == (k1 : Int) + 1) = true := by rw [beqN1]; simp [h3]
    have u4 : (k3 : Int) = (k1 : Int) + 1 := by omega
    have HK3 := hidden h3
    clear h3
    go_enter Tryd.func41, Tryd.ntmps41
    go_wp2
    go_loopw [3] (fun i wr => ∃ i' : Nat, i = .int .i64 i' ∧ i' ≤ k3 ∧ (n.kids.take i').any noKid = false ∧ Same w wr ∧ wr.heap[w.heap.size]? = some (.cells #[.bool false, .slice a1 k1 c1, .slice a2 0 c2, .slice a3 k3 c3] 25 (0, 0))) (fun i _ => k3 - (intOf i).toNat)
    case atStart => exact ⟨0, rfl, Nat.zero_le _, rfl, HW.out, blk_new _ _⟩
    case round =>
      obtain ⟨i, rfl, hi, ha, hsm, hbx⟩ := hrel
      have HA := hidden ha
      have HSM := hidden hsm
      have HBX := hidden hbx
      have z1 : wr.cell? ⟨w.heap.size, 1, none⟩ = some (.slice a1 k1 c1) := blk_cell hbx
      have z3 : wr.cell? ⟨w.heap.size, 3, none⟩ = some (.slice a3 k3 c3) := blk_cell hbx
      clear ha hsm hbx
      by_cases h1 : i < k3
      · have hil : i < n.kids.length := by rw [E3.out]; exact h1
        obtain ⟨b, off, hab, hc⟩ := (R3.out.same HSM.out).int hil
        subst hab
        obtain ⟨x, hx⟩ : ∃ x, n.kids[i] = x := ⟨_, rfl⟩
        rw [hx] at hc
        have hall : Hid ((n.kids.take (i + 1)).any noKid = noKid x) := by
          rw [Hid, List.take_add_one, List.any_append, HA.out, List.getElem?_eq_getElem hil, hx]
          simp
        have hno : noKid x = true → n.shape = false := fun hm => by
          have : n.kids.any noKid = true := List.any_eq_true.2 ⟨x, by rw [← hx]; exact List.getElem_mem _, hm⟩
          simp [Nd.shape, this]
        clear hx
        by_cases hs1 : x < 0
        · have hf := hidden (hno (by simp [noKid]; omega))
          clear hno
          go_wp2
          go_returns
          exact ⟨by rw [hf.out]; rfl, HSM.out⟩
        · by_cases hs2 : 4294967295 < x
          · have hf := hidden (hno (by simp [noKid]; omega))
            clear hno
            go_wp2
            go_returns
            exact ⟨by rw [hf.out]; rfl, HSM.out⟩
          · have hm : noKid x = false := by simp [noKid]; omega
            rw [hm] at hall
            clear hno hm
            go_wp2
            go_roundw
            case rel => exact ⟨i + 1, by go_num, by omega, hall.out, HSM.out, HBX.out⟩
            case measure => simp [intOf]; omega
      · obtain rfl : i = k3 := by omega
        have hka : Hid (n.kids.any noKid = false) := by rw [Hid, ← HA.out, ← E3.out, List.take_length]
        go_wp2
        go_loopw [4] (fun jv wr => ∃ i' : Nat, jv = .int .i64 i' ∧ 1 ≤ i' ∧ (i' ≤ k1 ∨ i' = 1) ∧ (∀ t (h : t + 1 < n.keys.length), t + 1 < i' → ltS n.keys[t] n.keys[t + 1] = true) ∧ Same w wr ∧ wr.heap[w.heap.size]? = some (.cells #[.bool false, .slice a1 k1 c1, .slice a2 0 c2, .slice a3 i c3] 25 (0, 0))) (fun i _ => k1 - (intOf i).toNat)
        case atStart => exact ⟨1, rfl, Nat.le_refl _, .inr rfl, (fun t h h1 => by omega), HSM.out, HBX.out⟩
        case round =>
          obtain ⟨j, rfl, hj1, hj, ha, hsm, hbx⟩ := hrel
          have HA2 := hidden ha
          have HSM2 := hidden hsm
          have HBX2 := hidden hbx
          have y1 : wr.cell? ⟨w.heap.size, 1, none⟩ = some (.slice a1 k1 c1) := blk_cell hbx
          clear ha hsm hbx z1 z3
          by_cases h2 : j < k1
          · have hil : j < n.keys.length := by rw [E1.out]; exact h2
            obtain ⟨b, off, hab, hc⟩ := (R1.out.same HSM2.out).text hil
            subst hab
            obtain ⟨p, hp⟩ : ∃ p, j = p + 1 := ⟨j - 1, by omega⟩
            have HP := hidden hp
            have hpl : p < n.keys.length := by omega
            have hc2 := (R1.out.same HSM2.out).textAt hpl
            obtain ⟨x, hx⟩ : ∃ x, n.keys[j] = x := ⟨_, rfl⟩
            obtain ⟨y, hy⟩ : ∃ y, n.keys[p] = y := ⟨_, rfl⟩
            rw [hx] at hc
            rw [hy] at hc2
            have HX := hidden hx
            have HY := hidden hy
            clear hx hy
            have q0 : (j : Int) < (k1 : Int) := by omega
            have q1 : (j : Int) - 1 = (p : Int) := by omega
            have q2 : IntKind.i64.wrap (p : Int) = (p : Int) := wrapN (by omega) (by omega)
            have q4 : (0 : Int) ≤ (p : Int) := Int.natCast_nonneg _
            have q5 : (0 : Int) ≤ (j : Int) := Int.natCast_nonneg _
            have q3 : (p : Int) < (k1 : Int) := by omega
            clear hp
            cases hm : ltS y x
            · have HM := hidden hm
              have f1 := less_of hm
              have hfin : Hid (n.shape = false) := by
                have : rises n.keys = false := by
                  rw [Bool.eq_false_iff]
                  intro h
                  have hi9 := HP.out
                  subst hi9
                  have h3 := rises_at.1 h p hil
                  rw [HX.out, HY.out, HM.out] at h3
                  cases h3
                rw [Hid]
                simp [Nd.shape, this]
              clear hm
              go_wp2
              go_quiet (fail)
              go_wp2
              go_returns
              exact ⟨by rw [hfin.out]; rfl, HSM2.out.trans ((Kept.refl _ _).drewN _)⟩
            · have HM := hidden hm
              obtain ⟨f1, f2, f3, f4⟩ := lt_yes hm
              clear hm
              go_wp2
              go_quiet (fail)
              go_wp2
              go_roundw
              case rel =>
                refine ⟨j + 1, by go_num, by omega, .inl (by omega), (fun t h h2 => ?_), HSM2.out.trans ((Kept.refl _ _).drewN _), blk_kept ((Kept.refl (fun _ => False) _).drewN _) (fun h => h) HBX2.out⟩
                have hi9 := HP.out
                rcases Nat.lt_or_ge (t + 1) j with h3 | h3
                · exact HA2.out t h h3
                · obtain rfl : t = p := by omega
                  subst hi9
                  rw [HX.out, HY.out]
                  exact HM.out
              case measure => simp [intOf]; omega
          · have q0 : ¬ (j : Int) < (k1 : Int) := by omega
            go_wp2
            go_returns
            refine ⟨?_, HSM2.out⟩
            have hr : rises n.keys = true := rises_at.2 (fun t h => HA2.out t h (by rw [E1.out] at h; omega))
            have : n.shape = true := by simp [Nd.shape, hr, hka.out, HLS.out]
            rw [this]
            rfl
theorem shape_any (n : Nd) (a1 a2 a3 : Option Addr) (k1 c1 k2 c2 k3 c3 : Nat) (w : World) (r1 : Row w (.slice a1 k1 c1) (TS n.keys)) (r2 : Row w (.slice a2 k2 c2) (TS n.vals)) (r3 : Row w (.slice a3 k3 c3) (IS n.kids)) (hb : n.Bd) :
    Calls Tryd.prog 41 #[.agg #[.bool n.leaf, .slice a1 k1 c1, .slice a2 k2 c2, .slice a3 k3 c3]] w fun e w' => e = .returned (.bool n.shape) ∧ Same w w' := by
  cases h : n.leaf
  · have := shape_inner n a1 a2 a3 k1 c1 k2 c2 k3 c3 w r1 r2 r3 hb h
    rw [h] at this
    exact this
  · have := shape_leaf n a1 a2 a3 k1 c1 k2 c2 k3 c3 w r1 r2 r3 hb h
    rw [h] at this
    exact this
set_option maxHeartbeats 2000000 in
set_option maxRecDepth 100000 in
theorem refCheck_any (n : Nd) (a1 a2 a3 : Option Addr) (k1 c1 k2 c2 k3 c3 : Nat) (w : World) (r1 : Row w (.slice a1 k1 c1) (TS n.keys)) (r2 : Row w (.slice a2 k2 c2) (TS n.vals)) (r3 : Row w (.slice a3 k3 c3) (IS n.kids)) (hb : n.Bd) :
    Calls Tryd.prog 14 #[.agg #[.bool n.leaf, .slice a1 k1 c1, .slice a2 k2 c2, .slice a3 k3 c3]] w fun e w' => e = .returned (.int .i64 n.chk) ∧ Same w w' := by
  have K0 := hidden (same_alloc w (.cells #[.bool n.leaf, .slice a1 k1 c1, .slice a2 k2 c2, .slice a3 k3 c3] 25))
  have HE := hidden (fun W (k : Same w W) => lengths_any n a1 a2 a3 k1 c1 k2 c2 k3 c3 W (r1.same k) (r2.same k) (r3.same k) hb)
  have HS := hidden (fun W (k : Same w W) => shape_any n a1 a2 a3 k1 c1 k2 c2 k3 c3 W (r1.same k) (r2.same k) (r3.same k) hb)
  have hcp : Hid (n.chk = if n.ents then (if n.shape && (n.leaf || decide (k1 ≠ 0)) then 0 else 90) else 91) := by rw [Hid, Nd.chk, r1.tl]
  obtain ⟨lf, hlf⟩ : ∃ lf, n.leaf = lf := ⟨_, rfl⟩
  rw [hlf] at hcp K0 HE HS ⊢
  clear r1 r2 r3 hb hlf
  generalize n.chk = z at *
  generalize n.ents = t1 at *
  generalize n.shape = t2 at *
  have arm1 : True := trivial
  cases t1
  · go_enter Tryd.func14, Tryd.ntmps14
    go_wp2_with (go_at_call 40; refine (HE.out _ K0.out).mono ?_; rintro e w1 ⟨rfl, k1'⟩; have K1 := hidden (K0.out.trans k1'); clear k1')
    go_returns
    exact ⟨by rw [hcp.out]; rfl, K1.out⟩
  · cases t2
    · go_enter Tryd.func14, Tryd.ntmps14
      go_wp2_with (first
        | (go_at_call 40; refine (HE.out _ K0.out).mono ?_; rintro e w1 ⟨rfl, k1'⟩; have b0 := blk_kept k1' (fun h => h) (blk_new w (.cells #[.bool lf, .slice a1 k1 c1, .slice a2 k2 c2, .slice a3 k3 c3] 25)); have c0 : w1.cell? ⟨w.heap.size, 0, none⟩ = some (.bool lf) := blk_cell b0; have c1' : w1.cell? ⟨w.heap.size, 1, none⟩ = some (.slice a1 k1 c1) := blk_cell b0; have c2' : w1.cell? ⟨w.heap.size, 2, none⟩ = some (.slice a2 k2 c2) := blk_cell b0; have c3' : w1.cell? ⟨w.heap.size, 3, none⟩ = some (.slice a3 k3 c3) := blk_cell b0; have K1 := hidden (K0.out.trans k1'); clear k1')
        | (go_at_call 41; refine (HS.out _ K1.out).mono ?_; rintro e w2 ⟨rfl, k2'⟩; have K2 := hidden (K1.out.trans k2'); clear k2'))
      go_returns
      exact ⟨by rw [hcp.out]; rfl, K2.out⟩
    · cases lf
      · by_cases h0 : k1 = 0
        · have h1 : (k1 : Int) = 0 := by omega
          have h2 : ((k1 : Int) == 0) = true := by rw [h1]; rfl
          have hfin : Hid (z = 90) := by rw [Hid, hcp.out]; simp [h0]
          clear h0
          go_enter Tryd.func14, Tryd.ntmps14
          go_wp2_with (first
            | (go_at_call 40; refine (HE.out _ K0.out).mono ?_; rintro e w1 ⟨rfl, k1'⟩; have b0 := blk_kept k1' (fun h => h) (blk_new w (.cells #[.bool false, .slice a1 k1 c1, .slice a2 k2 c2, .slice a3 k3 c3] 25)); have c0 : w1.cell? ⟨w.heap.size, 0, none⟩ = some (.bool false) := blk_cell b0; have c1' : w1.cell? ⟨w.heap.size, 1, none⟩ = some (.slice a1 k1 c1) := blk_cell b0; have c2' : w1.cell? ⟨w.heap.size, 2, none⟩ = some (.slice a2 k2 c2) := blk_cell b0; have c3' : w1.cell? ⟨w.heap.size, 3, none⟩ = some (.slice a3 k3 c3) := blk_cell b0; have B0 := hidden b0; have K1 := hidden (K0.out.trans k1'); clear k1' b0)
            | (go_at_call 41; refine (HS.out _ K1.out).mono ?_; rintro e w2 ⟨rfl, k2'⟩; have b1 := blk_kept k2' (fun h => h) B0.out; have d0 : w2.cell? ⟨w.heap.size, 0, none⟩ = some (.bool false) := blk_cell b1; have d1 : w2.cell? ⟨w.heap.size, 1, none⟩ = some (.slice a1 k1 c1) := blk_cell b1; have K2 := hidden (K1.out.trans k2'); clear k2' b1))
          go_returns
          exact ⟨by rw [hfin.out]; rfl, K2.out⟩
        · have h1 : ¬ (k1 : Int) = 0 := by omega
          have h2 : ((k1 : Int) == 0) = false := beq_eq_false_iff_ne.2 h1
          have hfin : Hid (z = 0) := by rw [Hid, hcp.out]; simp [h0]
          go_enter Tryd.func14, Tryd.ntmps14
          go_wp2_with (first
            | (go_at_call 40; refine (HE.out _ K0.out).mono ?_; rintro e w1 ⟨rfl, k1'⟩; have b0 := blk_kept k1' (fun h => h) (blk_new w (.cells #[.bool false, .slice a1 k1 c1, .slice a2 k2 c2, .slice a3 k3 c3] 25)); have c0 : w1.cell? ⟨w.heap.size, 0, none⟩ = some (.bool false) := blk_cell b0; have c1' : w1.cell? ⟨w.heap.size, 1, none⟩ = some (.slice a1 k1 c1) := blk_cell b0; have c2' : w1.cell? ⟨w.heap.size, 2, none⟩ = some (.slice a2 k2 c2) := blk_cell b0; have c3' : w1.cell? ⟨w.heap.size, 3, none⟩ = some (.slice a3 k3 c3) := blk_cell b0; have B0 := hidden b0; have K1 := hidden (K0.out.trans k1'); clear k1' b0)
            | (go_at_call 41; refine (HS.out _ K1.out).mono ?_; rintro e w2 ⟨rfl, k2'⟩; have b1 := blk_kept k2' (fun h => h) B0.out; have d0 : w2.cell? ⟨w.heap.size, 0, none⟩ = some (.bool false) := blk_cell b1; have d1 : w2.cell? ⟨w.heap.size, 1, none⟩ = some (.slice a1 k1 c1) := blk_cell b1; have K2 := hidden (K1.out.trans k2'); clear k2' b1))
          go_returns
          exact ⟨by rw [hfin.out]; rfl, K2.out⟩
      · have hfin : Hid (z = 0) := by rw [Hid, hcp.out]; simp
        go_enter Tryd.func14, Tryd.ntmps14
        go_wp2_with (first
          | (go_at_call 40; refine (HE.out _ K0.out).mono ?_; rintro e w1 ⟨rfl, k1'⟩; have b0 := blk_kept k1' (fun h => h) (blk_new w (.cells #[.bool true, .slice a1 k1 c1, .slice a2 k2 c2, .slice a3 k3 c3] 25)); have c0 : w1.cell? ⟨w.heap.size, 0, none⟩ = some (.bool true) := blk_cell b0; have c1' : w1.cell? ⟨w.heap.size, 1, none⟩ = some (.slice a1 k1 c1) := blk_cell b0; have c2' : w1.cell? ⟨w.heap.size, 2, none⟩ = some (.slice a2 k2 c2) := blk_cell b0; have c3' : w1.cell? ⟨w.heap.size, 3, none⟩ = some (.slice a3 k3 c3) := blk_cell b0; have B0 := hidden b0; have K1 := hidden (K0.out.trans k1'); clear k1' b0)
          | (go_at_call 41; refine (HS.out _ K1.out).mono ?_; rintro e w2 ⟨rfl, k2'⟩; have b1 := blk_kept k2' (fun h => h) B0.out; have d0 : w2.cell? ⟨w.heap.size, 0, none⟩ = some (.bool true) := blk_cell b1; have K2 := hidden (K1.out.trans k2'); clear k2' b1))
        go_returns
        exact ⟨by rw [hfin.out]; rfl, K2.out⟩
end Go.Proofs.YtpjgghalnkfdkaaDoor
