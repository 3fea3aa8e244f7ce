/- The document's Space: all within, Mark, Free, Later. -/
import Derived.Test.YtbmbdidmbdanmaaDoorSpR3
namespace Go.Proofs.YtbmbdidmbdanmaaDoor
open Go.RowKit Go.Shelf
set_option linter.unusedVariables false
set_option linter.unusedSimpArgs false
variable {zp : Spare}
/-- All from p to p + m - 1 are x. -/
def allX (o : Nat → Int) (p m : Nat) (x : Int) : Prop := ∀ i, p ≤ i → i < p + m → o i = x
set_option maxHeartbeats 2000000 in
set_option maxRecDepth 100000 in
theorem rf_allIn (q r first count p m : Nat) (o : Nat → Int) (res : Nat) (af ac x : Int) (w : World) (h : RgAt zp q r first count o res w) (hf : first + count ≤ 4096) (hm1 : 1 ≤ m) (hp : p + m ≤ count) (hpv : af = (first : Int) + (p : Int)) (hmv : ac = (m : Int)) :
    Calls Tryd.prog 56 #[.pointer (some ⟨q, 0, none⟩), .agg #[.int .i64 af, .int .i64 ac], .int .i64 x] w fun e w' => ∃ b : Bool, e = .returned (.bool b) ∧ (b = true ↔ allX o p m x) ∧ Same w w' := by
  have c1 : ∀ ob, (w.alloc ob).cell? ⟨q, 1, none⟩ = some (.slice (some ⟨r, 0, none⟩) count zp.cap) := fun ob => (same_alloc w ob).cell (fun h => h) (blk_cell h.box)
  have c0 : ∀ ob, (w.alloc ob).cell? ⟨q, 0, none⟩ = some (.int .i64 first) := fun ob => (same_alloc w ob).cell (fun h => h) (blk_cell h.box)
  have HH := hidden (fun W (k : Same w W) => h.kept k (fun h => h) (fun h => h))
  have h1d : decide (ac < 1) = false := by simp; omega
  have h2d : decide ((count : Int) < ac) = false := by simp; omega
  have h3d : decide (af < (first : Int)) = false := by simp; omega
  have h1 : ¬ ac < 1 := by omega
  have h2 : ¬ (count : Int) < ac := by omega
  have h3 : ¬ af < (first : Int) := by omega
  have m1 : IntKind.i64.wrap (af - (first : Int)) = (p : Int) := by rw [IntKind.wrap_i64]; omega
  have m2 : IntKind.i64.wrap ((count : Int) - ac) = (count : Int) - ac := by rw [IntKind.wrap_i64]; omega
  have h4 : ¬ (count : Int) - ac < (p : Int) := by omega
  have h4d : decide ((count : Int) - ac < (p : Int)) = false := by simp; omega
  have HM := hidden hmv
  clear h hpv hmv
  go_enter Tryd.func56, Tryd.ntmps56
  go_wp2
  go_quiet (fail)
  have K1 := hidden ((same_alloc w (.cells #[.int .i64 af, .int .i64 ac] 30)).trans ((Kept.refl _ _).drewN nq))
  have B1 := hidden (blk_kept ((Kept.refl (fun _ => False) (w.alloc (.cells #[.int .i64 af, .int .i64 ac] 30))).drewN nq) (fun h => h) (blk_new w (.cells #[.int .i64 af, .int .i64 ac] 30)))
  generalize (w.alloc (.cells #[.int .i64 af, .int .i64 ac] 30)).drewN nq = w1 at *
  clear c0 c1
  go_wp2
  go_loopw [7] (fun a wr => ∃ j k : Nat, j ≤ m ∧ a = .int .i64 j ∧ k = p + j ∧ (∀ i, p ≤ i → i < k → o i = x) ∧ Same w1 wr) (fun a _ => m - (intOf a).toNat)
  case atStart => exact ⟨0, p, Nat.zero_le _, rfl, rfl, fun i h1 h2 => by omega, Kept.refl _ _⟩
  case round =>
    obtain ⟨j, k, hj, rfl, hk, hX, hK⟩ := hrel
    have hR := HH.out _ (K1.out.trans hK)
    have c1 : wr.cell? ⟨q, 1, none⟩ = some (.slice (some ⟨r, 0, none⟩) count zp.cap) := blk_cell hR.box
    have c0 : wr.cell? ⟨q, 0, none⟩ = some (.int .i64 first) := blk_cell hR.box
    have hB := blk_kept hK (fun h => h) B1.out
    have d0 : wr.cell? ⟨w.heap.size, 0, none⟩ = some (.int .i64 af) := blk_cell hB
    have d1 : wr.cell? ⟨w.heap.size, 1, none⟩ = some (.int .i64 ac) := blk_cell hB
    have HR := hidden hR
    have HK := hidden hK
    have HX := hidden hX
    have m3 : IntKind.i64.wrap ((p : Int) + (j : Int)) = (k : Int) := by rw [IntKind.wrap_i64]; omega
    have Hk := hidden hk
    have lk : p ≤ k ∧ (j < m → k < count) := by omega
    clear hR hB hK hk hX
    by_cases hlt : j < m
    · have kc := lk.2 hlt
      obtain ⟨z, hz⟩ : ∃ z, o k = z := ⟨_, rfl⟩
      have rr : wr.cell? ⟨r, k, none⟩ = some (.int .i64 z) := by rw [blk_cell HR.out.row, rwA_at _ _ kc, hz]
      have HZ := hidden hz
      clear hz
      have y1 : (j : Int) < ac := by have := HM.out; omega
      have y4 : (0 : Int) ≤ (k : Int) := Int.natCast_nonneg _
      have y5 : (k : Int) < (count : Int) := by omega
      have w4 : IntKind.i64.wrap ((j : Int) + 1) = (j : Int) + 1 := by rw [IntKind.wrap_i64]; omega
      by_cases hzx : z = x
      · go_wp2
        go_quiet (fail)
        go_wp2
        go_roundw
        case rel =>
          refine ⟨j + 1, k + 1, by omega, by go_num, by have := Hk.out; omega, fun i h1 h2 => ?_, HK.out.trans ((Kept.refl _ _).drewN _)⟩
          by_cases e : i = k
          · rw [e, HZ.out, hzx]
          · exact HX.out i h1 (by omega)
        case measure => simp [intOf]; omega
      · go_wp2
        go_quiet (fail)
        go_wp2
        go_returns
        refine ⟨false, rfl, ⟨(fun h => by cases h), fun h => ?_⟩, K1.out.trans (HK.out.trans ((Kept.refl _ _).drewN _))⟩
        exact absurd (HZ.out.symm.trans (h k lk.1 (by have := Hk.out; omega))) hzx
    · have he : j = m := by omega
      subst he
      have y1 : ¬ (j : Int) < ac := by have := HM.out; omega
      go_wp2
      go_returns
      exact .inr ⟨rfl, fun i h1 h2 => HX.out i h1 (by have := Hk.out; omega), K1.out.trans HK.out⟩
theorem wh_set {u v : Nat → Bool} {p m count : Nat} (hn : allNo (fun i => u i || v i) p m) : rwA zp count (pt (wh u v) p (p + m) 1) = rwA zp count (wh (fSet u p (p + m)) v) := by
  refine rwA_ext (fun k hk => ?_)
  unfold pt wh fSet
  by_cases e : p ≤ k ∧ k < p + m
  · have := hn k e.1 e.2
    simp at this
    simp [e.1, e.2, this.2]
  · have e' : (decide (p ≤ k) && decide (k < p + m)) = false := by simp; omega
    rw [if_neg e, e']
    simp
theorem wh_unset {u v : Nat → Bool} {p m count : Nat} (hd : ∀ i, i < count → u i = true → v i = false) (hp : p + m ≤ count) (hn : allNo (fun i => !u i) p m) : rwA zp count (pt (wh u v) p (p + m) 0) = rwA zp count (wh (fUnset u p (p + m)) v) := by
  refine rwA_ext (fun k hk => ?_)
  unfold pt wh fUnset
  by_cases e : p ≤ k ∧ k < p + m
  · have := hn k e.1 e.2
    simp at this
    simp [e.1, e.2, hd k hk this]
  · have e' : (decide (p ≤ k) && decide (k < p + m)) = false := by simp; omega
    rw [if_neg e, e']
    simp
theorem wh_later {u v : Nat → Bool} {p m count : Nat} : rwA zp count (pt (wh u v) p (p + m) 2) = rwA zp count (wh (fUnset u p (p + m)) (fSet v p (p + m))) := by
  refine rwA_ext (fun k hk => ?_)
  unfold pt wh fUnset fSet
  by_cases e : p ≤ k ∧ k < p + m
  · simp [e.1, e.2]
  · have e' : (decide (p ≤ k) && decide (k < p + m)) = false := by simp; omega
    rw [if_neg e, e']
    simp
theorem allX_free {u v : Nat → Bool} {p m : Nat} : allX (wh u v) p m 0 ↔ allNo (fun i => u i || v i) p m := by
  refine ⟨fun h i h1 h2 => ?_, fun h i h1 h2 => ?_⟩
  · have := h i h1 h2
    cases e1 : u i <;> cases e2 : v i <;> simp [wh, e1, e2] at this ⊢
  · have := h i h1 h2
    simp at this
    simp [wh, this.1, this.2]
theorem allX_used {u v : Nat → Bool} {p m count : Nat} (hd : ∀ i, i < count → u i = true → v i = false) (hp : p + m ≤ count) : allX (wh u v) p m 1 ↔ allNo (fun i => !u i) p m := by
  refine ⟨fun h i h1 h2 => ?_, fun h i h1 h2 => ?_⟩
  · have := h i h1 h2
    cases e1 : u i <;> cases e2 : v i <;> simp [wh, e1, e2] at this ⊢
  · have := h i h1 h2
    simp at this
    simp [wh, this, hd i (by omega) this]
/-- What the document's all tells of an area. -/
theorem rf_all (q r first count : Nat) (o : Nat → Int) (res : Nat) (af ac x : Int) (w : World) (h : RgAt zp q r first count o res w) (hf : first + count ≤ 4096) (ha : af ≤ 9223372036854775807) (b : Bool) (hb : b = true ↔ ∃ p m : Nat, af = (first : Int) + (p : Int) ∧ ac = (m : Int) ∧ 1 ≤ m ∧ p + m ≤ count ∧ allX o p m x) :
    Calls Tryd.prog 56 #[.pointer (some ⟨q, 0, none⟩), .agg #[.int .i64 af, .int .i64 ac], .int .i64 x] w fun e w' => e = .returned (.bool b) ∧ Same w w' := by
  by_cases h1 : Wi first count af ac
  · obtain ⟨q1, q2, q3⟩ := h1
    obtain ⟨p, hp⟩ := Int.eq_ofNat_of_zero_le (show 0 ≤ af - first by omega)
    obtain ⟨m, hm⟩ := Int.eq_ofNat_of_zero_le (show 0 ≤ ac by omega)
    refine (rf_allIn q r first count p m o res af ac x w h hf (by omega) (by omega) (by omega) hm).mono ?_
    rintro e w' ⟨b', rfl, hb', hk⟩
    refine ⟨?_, hk⟩
    have : b' = b := by
      rw [Bool.eq_iff_iff, hb', hb]
      constructor
      · exact fun hx => ⟨p, m, by omega, hm, by omega, by omega, hx⟩
      · rintro ⟨p', m', h1, h2, _, _, hx⟩
        have : p' = p := by omega
        have : m' = m := by omega
        subst_vars
        exact hx
    rw [this]
  · have : b = false := by
      cases b with
      | false => rfl
      | true =>
        obtain ⟨p, m, e1, e2, e3, e4, _⟩ := hb.1 rfl
        exact absurd ⟨by omega, by omega, by omega⟩ h1
    rw [this]
    exact rf_allOut q r first count o res af ac x w h hf ha h1
set_option maxHeartbeats 2000000 in
set_option maxRecDepth 100000 in
theorem rf_freeNo (q r first count : Nat) (u v : Nat → Bool) (res : Nat) (af ac : Int) (w : World) (h : RfAt zp q r first count u v res w) (hp : Pl first count u v res) (ha : af ≤ 9223372036854775807) (hn : ¬ ∃ p m : Nat, af = (first : Int) + (p : Int) ∧ ac = (m : Int) ∧ 1 ≤ m ∧ p + m ≤ count ∧ allNo (fun i => !u i) p m) :
    Calls Tryd.prog 34 #[.pointer (some ⟨q, 0, none⟩), .agg #[.int .i64 af, .int .i64 ac]] w fun e w' => e = .returned (.int .i64 60) ∧ Same w w' := by
  have A := hidden (fun W (k : Same w W) => rf_all q r first count (wh u v) res af ac 1 W (h.gen.kept k (fun h => h) (fun h => h)) hp.fits.2.1 ha false ⟨(fun h => by cases h), fun ⟨p, m, h1, h2, h3, h4, h5⟩ => absurd ⟨p, m, h1, h2, h3, h4, (allX_used hp.dis h4).1 h5⟩ hn⟩)
  clear h hn
  go_enter Tryd.func34, Tryd.ntmps34
  go_wp2_with (go_at_call 56; refine (A.out _ (same_alloc _ _)).mono ?_; rintro e w1 ⟨rfl, k1⟩; have K1 := hidden k1; clear k1)
  go_returns
  exact ⟨rfl, (same_alloc _ _).trans K1.out⟩
set_option maxHeartbeats 2000000 in
set_option maxRecDepth 100000 in
theorem rf_freeOk (q r first count p m : Nat) (u v : Nat → Bool) (res : Nat) (w : World) (h : RfAt zp q r first count u v res w) (hp : Pl first count u v res) (hm : 1 ≤ m) (hpm : p + m ≤ count) (hn : allNo (fun i => !u i) p m) :
    Calls Tryd.prog 34 #[.pointer (some ⟨q, 0, none⟩), .agg #[.int .i64 ((first + p : Nat) : Int), .int .i64 (m : Int)]] w fun e w' => e = .returned (.int .i64 0) ∧ RfAt zp q r first count (fUnset u p (p + m)) v res w' ∧ Kept (fun b => b = r) w w' := by
  have hfit := hp.fits
  have A := hidden (fun W (k : Same w W) => rf_all q r first count (wh u v) res ((first + p : Nat) : Int) (m : Int) 1 W (h.gen.kept k (fun h => h) (fun h => h)) hp.fits.2.1 (by omega) true ⟨fun _ => ⟨p, m, by omega, rfl, hm, hpm, (allX_used hp.dis hpm).2 hn⟩, fun _ => rfl⟩)
  have S := hidden (fun W (k : Same w W) => rf_set q r first count p m (wh u v) res 0 W (h.gen.kept k (fun h => h) (fun h => h)) hpm hp.fits.2.1)
  have E := hidden (wh_unset (zp := zp) (u := u) (v := v) hp.dis hpm hn)
  obtain ⟨lo, hlo⟩ : ∃ lo, lo = first + p := ⟨_, rfl⟩
  rw [← hlo] at A S ⊢
  clear h hn hp hlo
  go_enter Tryd.func34, Tryd.ntmps34
  go_wp2_with (first
    | (go_at_call 56; refine (A.out _ (same_alloc _ _)).mono ?_; rintro e w1 ⟨rfl, k1⟩; have K1 := hidden ((same_alloc _ _).trans k1); have b1 := blk_kept k1 (fun h => h) (blk_new w (.cells #[.int .i64 (lo : Int), .int .i64 (m : Int)] 30)); have d0 : w1.cell? ⟨w.heap.size, 0, none⟩ = some (.int .i64 (lo : Int)) := blk_cell b1; have d1 : w1.cell? ⟨w.heap.size, 1, none⟩ = some (.int .i64 (m : Int)) := blk_cell b1; clear k1 b1)
    | (go_at_call 55; refine (S.out _ K1.out).mono ?_; rintro e w2 ⟨rfl, r2, k2⟩; have R2 := hidden r2; have K2 := hidden k2; clear r2 k2))
  go_returns
  exact ⟨rfl, RfAt.of R2.out.box (by rw [← E.out]; exact R2.out.row), (K1.out.mono (fun _ _ h => h.elim)).trans K2.out⟩
set_option maxHeartbeats 2000000 in
set_option maxRecDepth 100000 in
theorem rf_laterNo (q r first count : Nat) (u v : Nat → Bool) (res : Nat) (af ac : Int) (w : World) (h : RfAt zp q r first count u v res w) (hp : Pl first count u v res) (ha : af ≤ 9223372036854775807) (hn : ¬ ∃ p m : Nat, af = (first : Int) + (p : Int) ∧ ac = (m : Int) ∧ 1 ≤ m ∧ p + m ≤ count ∧ allNo (fun i => !u i) p m) :
    Calls Tryd.prog 35 #[.pointer (some ⟨q, 0, none⟩), .agg #[.int .i64 af, .int .i64 ac]] w fun e w' => e = .returned (.int .i64 60) ∧ Same w w' := by
  have A := hidden (fun W (k : Same w W) => rf_all q r first count (wh u v) res af ac 1 W (h.gen.kept k (fun h => h) (fun h => h)) hp.fits.2.1 ha false ⟨(fun h => by cases h), fun ⟨p, m, h1, h2, h3, h4, h5⟩ => absurd ⟨p, m, h1, h2, h3, h4, (allX_used hp.dis h4).1 h5⟩ hn⟩)
  clear h hn
  go_enter Tryd.func35, Tryd.ntmps35
  go_wp2_with (go_at_call 56; refine (A.out _ (same_alloc _ _)).mono ?_; rintro e w1 ⟨rfl, k1⟩; have K1 := hidden k1; clear k1)
  go_returns
  exact ⟨rfl, (same_alloc _ _).trans K1.out⟩
set_option maxHeartbeats 2000000 in
set_option maxRecDepth 100000 in
theorem rf_laterOk (q r first count p m : Nat) (u v : Nat → Bool) (res : Nat) (w : World) (h : RfAt zp q r first count u v res w) (hp : Pl first count u v res) (hm : 1 ≤ m) (hpm : p + m ≤ count) (hn : allNo (fun i => !u i) p m) :
    Calls Tryd.prog 35 #[.pointer (some ⟨q, 0, none⟩), .agg #[.int .i64 ((first + p : Nat) : Int), .int .i64 (m : Int)]] w fun e w' => e = .returned (.int .i64 0) ∧ RfAt zp q r first count (fUnset u p (p + m)) (fSet v p (p + m)) res w' ∧ Kept (fun b => b = r) w w' := by
  have hfit := hp.fits
  have A := hidden (fun W (k : Same w W) => rf_all q r first count (wh u v) res ((first + p : Nat) : Int) (m : Int) 1 W (h.gen.kept k (fun h => h) (fun h => h)) hp.fits.2.1 (by omega) true ⟨fun _ => ⟨p, m, by omega, rfl, hm, hpm, (allX_used hp.dis hpm).2 hn⟩, fun _ => rfl⟩)
  have S := hidden (fun W (k : Same w W) => rf_set q r first count p m (wh u v) res 2 W (h.gen.kept k (fun h => h) (fun h => h)) hpm hp.fits.2.1)
  have E := hidden (wh_later (zp := zp) (u := u) (v := v) (p := p) (m := m) (count := count))
  obtain ⟨lo, hlo⟩ : ∃ lo, lo = first + p := ⟨_, rfl⟩
  rw [← hlo] at A S ⊢
  clear h hn hp hlo
  go_enter Tryd.func35, Tryd.ntmps35
  go_wp2_with (first
    | (go_at_call 56; refine (A.out _ (same_alloc _ _)).mono ?_; rintro e w1 ⟨rfl, k1⟩; have K1 := hidden ((same_alloc _ _).trans k1); have b1 := blk_kept k1 (fun h => h) (blk_new w (.cells #[.int .i64 (lo : Int), .int .i64 (m : Int)] 30)); have d0 : w1.cell? ⟨w.heap.size, 0, none⟩ = some (.int .i64 (lo : Int)) := blk_cell b1; have d1 : w1.cell? ⟨w.heap.size, 1, none⟩ = some (.int .i64 (m : Int)) := blk_cell b1; clear k1 b1)
    | (go_at_call 55; refine (S.out _ K1.out).mono ?_; rintro e w2 ⟨rfl, r2, k2⟩; have R2 := hidden r2; have K2 := hidden k2; clear r2 k2))
  go_returns
  exact ⟨rfl, RfAt.of R2.out.box (by rw [← E.out]; exact R2.out.row), (K1.out.mono (fun _ _ h => h.elim)).trans K2.out⟩
set_option maxHeartbeats 2000000 in
set_option maxRecDepth 100000 in
theorem rf_markNo (q r first count : Nat) (u v : Nat → Bool) (res : Nat) (af ac : Int) (w : World) (h : RfAt zp q r first count u v res w) (hp : Pl first count u v res) (ha : af ≤ 9223372036854775807) (hn : ¬ ∃ p m : Nat, af = (first : Int) + (p : Int) ∧ ac = (m : Int) ∧ 1 ≤ m ∧ p + m ≤ count ∧ allNo (fun i => u i || v i) p m) :
    Calls Tryd.prog 33 #[.pointer (some ⟨q, 0, none⟩), .agg #[.int .i64 af, .int .i64 ac]] w fun e w' => e = .returned (.int .i64 60) ∧ Same w w' := by
  have A := hidden (fun W (k : Same w W) => rf_all q r first count (wh u v) res af ac 0 W (h.gen.kept k (fun h => h) (fun h => h)) hp.fits.2.1 ha false ⟨(fun h => by cases h), fun ⟨p, m, h1, h2, h3, h4, h5⟩ => absurd ⟨p, m, h1, h2, h3, h4, allX_free.1 h5⟩ hn⟩)
  clear h hn
  go_enter Tryd.func33, Tryd.ntmps33
  go_wp2_with (go_at_call 56; refine (A.out _ (same_alloc _ _)).mono ?_; rintro e w1 ⟨rfl, k1⟩; have K1 := hidden k1; clear k1)
  go_returns
  exact ⟨rfl, (same_alloc _ _).trans K1.out⟩
set_option maxHeartbeats 2000000 in
set_option maxRecDepth 100000 in
theorem rf_markFull (q r first count p m : Nat) (u v : Nat → Bool) (res : Nat) (w : World) (h : RfAt zp q r first count u v res w) (hp : Pl first count u v res) (hm : 1 ≤ m) (hpm : p + m ≤ count) (hn : allNo (fun i => u i || v i) p m) (hl : leftZ count u v res < m) :
    Calls Tryd.prog 33 #[.pointer (some ⟨q, 0, none⟩), .agg #[.int .i64 ((first + p : Nat) : Int), .int .i64 (m : Int)]] w fun e w' => e = .returned (.int .i64 2) ∧ Same w w' := by
  have hfit := hp.fits
  have A := hidden (fun W (k : Same w W) => rf_all q r first count (wh u v) res ((first + p : Nat) : Int) (m : Int) 0 W (h.gen.kept k (fun h => h) (fun h => h)) hp.fits.2.1 (by omega) true ⟨fun _ => ⟨p, m, by omega, rfl, hm, hpm, allX_free.2 hn⟩, fun _ => rfl⟩)
  have S := hidden (fun W (k : Same w W) => rf_set q r first count p m (wh u v) res 1 W (h.gen.kept k (fun h => h) (fun h => h)) hpm hp.fits.2.1)
  have HL := hidden (fun W (k : Same w W) => rf_left q r first count u v res W (h.kept k (fun h => h) (fun h => h)) hp)
  have E := hidden (wh_set (zp := zp) (count := count) hn)
  obtain ⟨lo, hlo⟩ : ∃ lo, lo = first + p := ⟨_, rfl⟩
  rw [← hlo] at A S ⊢
  generalize leftZ count u v res = L at *
  clear h hn hp hlo
  go_enter Tryd.func33, Tryd.ntmps33
  go_wp2_with (go_at_call 56; refine (A.out _ (same_alloc _ _)).mono ?_; rintro e w1 ⟨rfl, k1⟩; have K1 := hidden ((same_alloc _ _).trans k1); have b1 := blk_kept k1 (fun h => h) (blk_new w (.cells #[.int .i64 (lo : Int), .int .i64 (m : Int)] 30)); have B1 := hidden b1; have d1 : w1.cell? ⟨w.heap.size, 1, none⟩ = some (.int .i64 (m : Int)) := blk_cell b1; clear k1 b1)
  have KD := hidden (fun nn => K1.out.trans ((Kept.refl (fun _ => False) w1).drewN nn))
  go_quiet (first | (go_at_call 26; exact Calls.quiet_of (HL.out _ (KD.out _))))
  have K2 := hidden (KD.out nq)
  have b2 := blk_kept ((Kept.refl (fun _ => False) w1).drewN nq) (fun h => h) B1.out
  have d2 : (w1.drewN nq).cell? ⟨w.heap.size, 0, none⟩ = some (.int .i64 (lo : Int)) := blk_cell b2
  have d3 : (w1.drewN nq).cell? ⟨w.heap.size, 1, none⟩ = some (.int .i64 (m : Int)) := blk_cell b2
  clear b2 d1 KD
  generalize w1.drewN nq = w2 at *
  go_wp2
  go_returns
  exact ⟨rfl, K2.out⟩
set_option maxHeartbeats 2000000 in
set_option maxRecDepth 100000 in
theorem rf_markOk (q r first count p m : Nat) (u v : Nat → Bool) (res : Nat) (w : World) (h : RfAt zp q r first count u v res w) (hp : Pl first count u v res) (hm : 1 ≤ m) (hpm : p + m ≤ count) (hn : allNo (fun i => u i || v i) p m) (hl : ¬ leftZ count u v res < m) :
    Calls Tryd.prog 33 #[.pointer (some ⟨q, 0, none⟩), .agg #[.int .i64 ((first + p : Nat) : Int), .int .i64 (m : Int)]] w fun e w' => e = .returned (.int .i64 0) ∧ RfAt zp q r first count (fSet u p (p + m)) v res w' ∧ Kept (fun b => b = r) w w' := by
  have hfit := hp.fits
  have A := hidden (fun W (k : Same w W) => rf_all q r first count (wh u v) res ((first + p : Nat) : Int) (m : Int) 0 W (h.gen.kept k (fun h => h) (fun h => h)) hp.fits.2.1 (by omega) true ⟨fun _ => ⟨p, m, by omega, rfl, hm, hpm, allX_free.2 hn⟩, fun _ => rfl⟩)
  have S := hidden (fun W (k : Same w W) => rf_set q r first count p m (wh u v) res 1 W (h.gen.kept k (fun h => h) (fun h => h)) hpm hp.fits.2.1)
  have HL := hidden (fun W (k : Same w W) => rf_left q r first count u v res W (h.kept k (fun h => h) (fun h => h)) hp)
  have E := hidden (wh_set (zp := zp) (count := count) hn)
  obtain ⟨lo, hlo⟩ : ∃ lo, lo = first + p := ⟨_, rfl⟩
  rw [← hlo] at A S ⊢
  generalize leftZ count u v res = L at *
  clear h hn hp hlo
  go_enter Tryd.func33, Tryd.ntmps33
  go_wp2_with (go_at_call 56; refine (A.out _ (same_alloc _ _)).mono ?_; rintro e w1 ⟨rfl, k1⟩; have K1 := hidden ((same_alloc _ _).trans k1); have b1 := blk_kept k1 (fun h => h) (blk_new w (.cells #[.int .i64 (lo : Int), .int .i64 (m : Int)] 30)); have B1 := hidden b1; have d1 : w1.cell? ⟨w.heap.size, 1, none⟩ = some (.int .i64 (m : Int)) := blk_cell b1; clear k1 b1)
  have KD := hidden (fun nn => K1.out.trans ((Kept.refl (fun _ => False) w1).drewN nn))
  go_quiet (first | (go_at_call 26; exact Calls.quiet_of (HL.out _ (KD.out _))))
  have K2 := hidden (KD.out nq)
  have b2 := blk_kept ((Kept.refl (fun _ => False) w1).drewN nq) (fun h => h) B1.out
  have d2 : (w1.drewN nq).cell? ⟨w.heap.size, 0, none⟩ = some (.int .i64 (lo : Int)) := blk_cell b2
  have d3 : (w1.drewN nq).cell? ⟨w.heap.size, 1, none⟩ = some (.int .i64 (m : Int)) := blk_cell b2
  clear b2 d1 KD
  generalize w1.drewN nq = w2 at *
  go_wp2_with (go_at_call 55; refine (S.out _ K2.out).mono ?_; rintro e w3 ⟨rfl, r2, k2⟩; have R2 := hidden r2; have K3 := hidden k2; clear r2 k2)
  go_returns
  exact ⟨rfl, RfAt.of R2.out.box (by rw [← E.out]; exact R2.out.row), (K2.out.mono (fun _ _ h => h.elim)).trans K3.out⟩
end Go.Proofs.YtbmbdidmbdanmaaDoor
