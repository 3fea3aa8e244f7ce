/- node: the law's sameTexts and Same, of equal ones. -/
import Derived.Test.YtpjgghalnkfdkaaDoorN15
namespace Go.Proofs.YtpjgghalnkfdkaaDoor
open Go.RowKit
set_option linter.unusedVariables false
set_option linter.unusedSimpArgs false
set_option maxHeartbeats 2000000 in
set_option maxRecDepth 100000 in
theorem sameTexts_eq (l : List ByteArray) (a b : Option Addr) (k k' c c' : Nat) (w : World) (r : Row w (.slice a k c) (TS l)) (s : Row w (.slice b k' c') (TS l)) (hb : l.length ≤ 17592186044416) :
    Calls Tryd.prog 30 #[.slice a k c, .slice b k' c'] w fun e w' => e = .returned (.bool true) ∧ Same w w' := by
  have e1 := r.tl
  have e2 := s.tl
  have hkk : k' = k := by omega
  subst hkk
  rw [e1] at hb
  have E1 := hidden e1
  have R := hidden r
  have S := hidden s
  clear e1 e2 r s
  go_enter Tryd.func30, Tryd.ntmps30
  go_wp2
  go_loopw [5] (fun i wr => ∃ i' : Nat, i = .int .i64 i' ∧ i' ≤ k' ∧ Same w wr) (fun i _ => k' - (intOf i).toNat)
  case atStart => exact ⟨0, rfl, Nat.zero_le _, Kept.refl _ _⟩
  case round =>
    obtain ⟨i, rfl, hi, hsm⟩ := hrel
    have HSM := hidden hsm
    clear hsm
    by_cases h1 : i < k'
    · have hil : i < l.length := by rw [E1.out]; exact h1
      obtain ⟨g, off, rfl, hc⟩ := (R.out.same HSM.out).text hil
      obtain ⟨g', off', rfl, hc'⟩ := (S.out.same HSM.out).text hil
      obtain ⟨x, hx⟩ : ∃ x, l[i] = x := ⟨_, rfl⟩
      rw [hx] at hc hc'
      have q0 : (0 : Int) ≤ (i : Int) := Int.natCast_nonneg _
      have q1 : (i : Int) < (k' : Int) := by omega
      have q2 : (x.toList == x.toList) = true := by simp
      clear hx
      go_wp2
      go_quiet (fail)
      go_wp2
      go_roundw
      case rel => exact ⟨i + 1, by go_num, by omega, HSM.out.trans ((Kept.refl _ _).drewN _)⟩
      case measure => simp [intOf]; omega
    · obtain rfl : i = k' := by omega
      have q1 : ¬ (i : Int) < (i : Int) := by omega
      go_wp2
      go_returns
      exact ⟨rfl, HSM.out⟩
set_option maxHeartbeats 4000000 in
set_option maxRecDepth 100000 in
theorem same_leaf (n : Nd) (a1 a2 a3 : Option Addr) (k1 c1 k2 c2 k3 c3 : Nat) (b1 b2 b3 : Option Addr) (l1 d1 l2 d2 l3 d3 : Nat) (w : World) (r1 : Row w (.slice a1 k1 c1) (TS n.keys)) (r2 : Row w (.slice a2 k2 c2) (TS n.vals)) (r3 : Row w (.slice a3 k3 c3) (IS n.kids)) (s1 : Row w (.slice b1 l1 d1) (TS n.keys)) (s2 : Row w (.slice b2 l2 d2) (TS n.vals)) (s3 : Row w (.slice b3 l3 d3) (IS n.kids)) (hb : n.Bd) (hlf : n.leaf = true) :
    Calls Tryd.prog 17 #[.agg #[.bool n.leaf, .slice a1 k1 c1, .slice a2 k2 c2, .slice a3 k3 c3], .agg #[.bool n.leaf, .slice b1 l1 d1, .slice b2 l2 d2, .slice b3 l3 d3]] w fun e w' => e = .returned (.bool true) ∧ Same w w' := by
  have HK := hidden (fun W (k : Same w W) => sameTexts_eq n.keys a1 b1 k1 l1 c1 d1 W (r1.same k) (s1.same k) hb.k)
  have HV := hidden (fun W (k : Same w W) => sameTexts_eq n.vals a2 b2 k2 l2 c2 d2 W (r2.same k) (s2.same k) hb.v)
  have e3 := r3.il
  have e3' := s3.il
  have hb3 : k3 ≤ 35184372088832 := by have := hb.i; omega
  have hkk : k3 = l3 := by omega
  subst hkk
  have E3 := hidden e3
  have R3 := hidden r3
  have S3 := hidden s3
  have K0 : Hid (Same w ((w.alloc (.cells #[.bool n.leaf, .slice a1 k1 c1, .slice a2 k2 c2, .slice a3 k3 c3] 25)).alloc (.cells #[.bool n.leaf, .slice b1 l1 d1, .slice b2 l2 d2, .slice b3 k3 d3] 25))) := hidden (((Kept.refl _ w).alloc _).alloc _)
  rw [hlf] at K0 ⊢
  clear r1 r2 r3 s1 s2 s3 hb e3 e3' hlf
  have t1 : True := trivial
  go_enter Tryd.func17, Tryd.ntmps17
  go_wp2_with (first
    | (go_at_call 30; have _t := t1; refine (HK.out _ K0.out).mono ?_; rintro e w1 ⟨rfl, q1⟩; clear t1; have g0 := blk_kept q1 (fun h => h) (box_blk w #[.bool true, .slice a1 k1 c1, .slice a2 k2 c2, .slice a3 k3 c3] (.cells #[.bool true, .slice b1 l1 d1, .slice b2 l2 d2, .slice b3 k3 d3] 25)); have g1 : w1.heap[w.heap.size + 1]? = some (.cells #[.bool true, .slice b1 l1 d1, .slice b2 l2 d2, .slice b3 k3 d3] 25 (0, 0)) := blk_kept q1 (fun h => h) (by have := blk_new (w.alloc (.cells #[.bool true, .slice a1 k1 c1, .slice a2 k2 c2, .slice a3 k3 c3] 25)) (.cells #[.bool true, .slice b1 l1 d1, .slice b2 l2 d2, .slice b3 k3 d3] 25); simpa using this); have x2 : w1.cell? ⟨w.heap.size, 2, none⟩ = some (.slice a2 k2 c2) := blk_cell g0; have y2 : w1.cell? ⟨w.heap.size + 1, 2, none⟩ = some (.slice b2 l2 d2) := blk_cell g1; have G0 := hidden g0; have G1 := hidden g1; have K1 := hidden (K0.out.trans q1); have t2 : True := trivial; clear q1 g0 g1)
    | (go_at_call 30; have _t := t2; refine (HV.out _ K1.out).mono ?_; rintro e w2 ⟨rfl, q2⟩; clear t2; have g0 := blk_kept q2 (fun h => h) G0.out; have g1 := blk_kept q2 (fun h => h) G1.out; have x3 : w2.cell? ⟨w.heap.size, 3, none⟩ = some (.slice a3 k3 c3) := blk_cell g0; have y3 : w2.cell? ⟨w.heap.size + 1, 3, none⟩ = some (.slice b3 k3 d3) := blk_cell g1; have H0 := hidden g0; have H1 := hidden g1; have K2 := hidden (K1.out.trans q2); clear q2 g0 g1))
  go_loopw [5] (fun i wr => ∃ i' : Nat, i = .int .i64 i' ∧ i' ≤ k3 ∧ Same w2 wr) (fun i _ => k3 - (intOf i).toNat)
  case atStart => exact ⟨0, rfl, Nat.zero_le _, Kept.refl _ _⟩
  case round =>
    obtain ⟨i, rfl, hi, hsm⟩ := hrel
    have HSM := hidden hsm
    have g0 := blk_kept hsm (fun h => h) H0.out
    have g1 := blk_kept hsm (fun h => h) H1.out
    have x4 : wr.cell? ⟨w.heap.size, 3, none⟩ = some (.slice a3 k3 c3) := blk_cell g0
    have y4 : wr.cell? ⟨w.heap.size + 1, 3, none⟩ = some (.slice b3 k3 d3) := blk_cell g1
    clear hsm g0 g1 x3 y3
    by_cases h1 : i < k3
    · have hil : i < n.kids.length := by rw [E3.out]; exact h1
      obtain ⟨g, off, ha, hc⟩ := (R3.out.same (K2.out.trans HSM.out)).int hil
      obtain ⟨g', off', ha', hc'⟩ := (S3.out.same (K2.out.trans HSM.out)).int hil
      subst ha ha'
      obtain ⟨z, hz⟩ : ∃ z, n.kids[i] = z := ⟨_, rfl⟩
      rw [hz] at hc hc'
      have q0 : (0 : Int) ≤ (i : Int) := Int.natCast_nonneg _
      have q1 : (i : Int) < (k3 : Int) := by omega
      have q2 : (z == z) = true := by simp
      have q3 : (z != z) = false := by simp
      clear hz
      go_wp2
      go_quiet (fail)
      go_wp2
      go_roundw
      case rel => exact ⟨i + 1, by go_num, by omega, HSM.out.trans ((Kept.refl _ _).drewN _)⟩
      case measure => simp [intOf]; omega
    · obtain rfl : i = k3 := by omega
      have q1 : ¬ (i : Int) < (i : Int) := by omega
      go_wp2
      go_returns
      exact ⟨rfl, K2.out.trans HSM.out⟩
set_option maxHeartbeats 4000000 in
set_option maxRecDepth 100000 in
theorem same_inner (n : Nd) (a1 a2 a3 : Option Addr) (k1 c1 k2 c2 k3 c3 : Nat) (b1 b2 b3 : Option Addr) (l1 d1 l2 d2 l3 d3 : Nat) (w : World) (r1 : Row w (.slice a1 k1 c1) (TS n.keys)) (r2 : Row w (.slice a2 k2 c2) (TS n.vals)) (r3 : Row w (.slice a3 k3 c3) (IS n.kids)) (s1 : Row w (.slice b1 l1 d1) (TS n.keys)) (s2 : Row w (.slice b2 l2 d2) (TS n.vals)) (s3 : Row w (.slice b3 l3 d3) (IS n.kids)) (hb : n.Bd) (hlf : n.leaf = false) :
    Calls Tryd.prog 17 #[.agg #[.bool n.leaf, .slice a1 k1 c1, .slice a2 k2 c2, .slice a3 k3 c3], .agg #[.bool n.leaf, .slice b1 l1 d1, .slice b2 l2 d2, .slice b3 l3 d3]] w fun e w' => e = .returned (.bool true) ∧ Same w w' := by
  have HK := hidden (fun W (k : Same w W) => sameTexts_eq n.keys a1 b1 k1 l1 c1 d1 W (r1.same k) (s1.same k) hb.k)
  have HV := hidden (fun W (k : Same w W) => sameTexts_eq n.vals a2 b2 k2 l2 c2 d2 W (r2.same k) (s2.same k) hb.v)
  have e3 := r3.il
  have e3' := s3.il
  have hb3 : k3 ≤ 35184372088832 := by have := hb.i; omega
  have hkk : k3 = l3 := by omega
  subst hkk
  have E3 := hidden e3
  have R3 := hidden r3
  have S3 := hidden s3
  have K0 : Hid (Same w ((w.alloc (.cells #[.bool n.leaf, .slice a1 k1 c1, .slice a2 k2 c2, .slice a3 k3 c3] 25)).alloc (.cells #[.bool n.leaf, .slice b1 l1 d1, .slice b2 l2 d2, .slice b3 k3 d3] 25))) := hidden (((Kept.refl _ w).alloc _).alloc _)
  rw [hlf] at K0 ⊢
  clear r1 r2 r3 s1 s2 s3 hb e3 e3' hlf
  have t1 : True := trivial
  go_enter Tryd.func17, Tryd.ntmps17
  go_wp2_with (first
    | (go_at_call 30; have _t := t1; refine (HK.out _ K0.out).mono ?_; rintro e w1 ⟨rfl, q1⟩; clear t1; have g0 := blk_kept q1 (fun h => h) (box_blk w #[.bool false, .slice a1 k1 c1, .slice a2 k2 c2, .slice a3 k3 c3] (.cells #[.bool false, .slice b1 l1 d1, .slice b2 l2 d2, .slice b3 k3 d3] 25)); have g1 : w1.heap[w.heap.size + 1]? = some (.cells #[.bool false, .slice b1 l1 d1, .slice b2 l2 d2, .slice b3 k3 d3] 25 (0, 0)) := blk_kept q1 (fun h => h) (by have := blk_new (w.alloc (.cells #[.bool false, .slice a1 k1 c1, .slice a2 k2 c2, .slice a3 k3 c3] 25)) (.cells #[.bool false, .slice b1 l1 d1, .slice b2 l2 d2, .slice b3 k3 d3] 25); simpa using this); have x2 : w1.cell? ⟨w.heap.size, 2, none⟩ = some (.slice a2 k2 c2) := blk_cell g0; have y2 : w1.cell? ⟨w.heap.size + 1, 2, none⟩ = some (.slice b2 l2 d2) := blk_cell g1; have G0 := hidden g0; have G1 := hidden g1; have K1 := hidden (K0.out.trans q1); have t2 : True := trivial; clear q1 g0 g1)
    | (go_at_call 30; have _t := t2; refine (HV.out _ K1.out).mono ?_; rintro e w2 ⟨rfl, q2⟩; clear t2; have g0 := blk_kept q2 (fun h => h) G0.out; have g1 := blk_kept q2 (fun h => h) G1.out; have x3 : w2.cell? ⟨w.heap.size, 3, none⟩ = some (.slice a3 k3 c3) := blk_cell g0; have y3 : w2.cell? ⟨w.heap.size + 1, 3, none⟩ = some (.slice b3 k3 d3) := blk_cell g1; have H0 := hidden g0; have H1 := hidden g1; have K2 := hidden (K1.out.trans q2); clear q2 g0 g1))
  go_loopw [5] (fun i wr => ∃ i' : Nat, i = .int .i64 i' ∧ i' ≤ k3 ∧ Same w2 wr) (fun i _ => k3 - (intOf i).toNat)
  case atStart => exact ⟨0, rfl, Nat.zero_le _, Kept.refl _ _⟩
  case round =>
    obtain ⟨i, rfl, hi, hsm⟩ := hrel
    have HSM := hidden hsm
    have g0 := blk_kept hsm (fun h => h) H0.out
    have g1 := blk_kept hsm (fun h => h) H1.out
    have x4 : wr.cell? ⟨w.heap.size, 3, none⟩ = some (.slice a3 k3 c3) := blk_cell g0
    have y4 : wr.cell? ⟨w.heap.size + 1, 3, none⟩ = some (.slice b3 k3 d3) := blk_cell g1
    clear hsm g0 g1 x3 y3
    by_cases h1 : i < k3
    · have hil : i < n.kids.length := by rw [E3.out]; exact h1
      obtain ⟨g, off, ha, hc⟩ := (R3.out.same (K2.out.trans HSM.out)).int hil
      obtain ⟨g', off', ha', hc'⟩ := (S3.out.same (K2.out.trans HSM.out)).int hil
      subst ha ha'
      obtain ⟨z, hz⟩ : ∃ z, n.kids[i] = z := ⟨_, rfl⟩
      rw [hz] at hc hc'
      have q0 : (0 : Int) ≤ (i : Int) := Int.natCast_nonneg _
      have q1 : (i : Int) < (k3 : Int) := by omega
      have q2 : (z == z) = true := by simp
      have q3 : (z != z) = false := by simp
      clear hz
      go_wp2
      go_quiet (fail)
      go_wp2
      go_roundw
      case rel => exact ⟨i + 1, by go_num, by omega, HSM.out.trans ((Kept.refl _ _).drewN _)⟩
      case measure => simp [intOf]; omega
    · obtain rfl : i = k3 := by omega
      have q1 : ¬ (i : Int) < (i : Int) := by omega
      go_wp2
      go_returns
      exact ⟨rfl, K2.out.trans HSM.out⟩
theorem same_eq (n : Nd) (a1 a2 a3 : Option Addr) (k1 c1 k2 c2 k3 c3 : Nat) (b1 b2 b3 : Option Addr) (l1 d1 l2 d2 l3 d3 : Nat) (w : World) (r1 : Row w (.slice a1 k1 c1) (TS n.keys)) (r2 : Row w (.slice a2 k2 c2) (TS n.vals)) (r3 : Row w (.slice a3 k3 c3) (IS n.kids)) (s1 : Row w (.slice b1 l1 d1) (TS n.keys)) (s2 : Row w (.slice b2 l2 d2) (TS n.vals)) (s3 : Row w (.slice b3 l3 d3) (IS n.kids)) (hb : n.Bd) :
    Calls Tryd.prog 17 #[.agg #[.bool n.leaf, .slice a1 k1 c1, .slice a2 k2 c2, .slice a3 k3 c3], .agg #[.bool n.leaf, .slice b1 l1 d1, .slice b2 l2 d2, .slice b3 l3 d3]] w fun e w' => e = .returned (.bool true) ∧ Same w w' := by
  cases h : n.leaf
  · have := same_inner n a1 a2 a3 k1 c1 k2 c2 k3 c3 b1 b2 b3 l1 d1 l2 d2 l3 d3 w r1 r2 r3 s1 s2 s3 hb h
    rw [h] at this
    exact this
  · have := same_leaf n a1 a2 a3 k1 c1 k2 c2 k3 c3 b1 b2 b3 l1 d1 l2 d2 l3 d3 w r1 r2 r3 s1 s2 s3 hb h
    rw [h] at this
    exact this
end Go.Proofs.YtpjgghalnkfdkaaDoor
