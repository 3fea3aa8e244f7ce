/- SpaceApart walked. -/
import Derived.Test.YtbmbdidmbdanmaaDoorSpA
namespace Go.Proofs.YtbmbdidmbdanmaaDoor
open Go.RowKit Go.Shelf
set_option linter.unusedVariables false
set_option linter.unusedSimpArgs false
/-- What stands ahead of a step. -/
structure AP (w : World) (g r first count : Nat) (a : Option Addr) (n c : Nat) (u v : Nat → Bool) (o : Nat → Int) (W : World) : Prop where
  sp : SpAt g first count u v 0 W
  tab : Tab W
  row : W.heap[r]? = some (.cells (ow o) 3 (0, 0))
  box : W.heap[w.heap.size]? = some (.cells #[.int .i64 first, .int .i64 count, .slice a n c] 24 (0, 0))
  same : Same w W
  owns : Owns first count u v o
theorem ow_zero : ow (fun _ => 0) = (List.replicate 4096 (Value.int .i64 0)).toArray := by
  rw [← wh_zero 4096]
  exact ow_ext (fun k _ => by simp [wh])
theorem make_own (W : World) : (Instr.makeSlice 39 (.int .i64 4096) (.int .i64 4096)).run Tryd.prog W = .ok (.slice (some ⟨W.heap.size, 0, none⟩) 4096 4096) (W.alloc (.cells (ow (fun _ => 0)) 3)) := by
  rw [ow_zero]
  exact make_ints 4096 (by omega) W
theorem AP.keep {w : World} {g r first count : Nat} {a : Option Addr} {n c : Nat} {u v : Nat → Bool} {o : Nat → Int} {W W' : World} (h : AP w g r first count a n c u v o W) (k : Same W W') : AP w g r first count a n c u v o W' :=
  ⟨h.sp.kept k (fun h => h), h.tab.same k, blk_kept k (fun h => h) h.row, blk_kept k (fun h => h) h.box, h.same.trans k, h.owns⟩
theorem pt_step {o : Nat → Int} {lo k : Nat} {x : Int} (h : lo ≤ k) : (fun j => if j = k then x else pt o lo k x j) = pt o lo (k + 1) x := by
  obtain ⟨j, rfl⟩ : ∃ j, k = lo + j := ⟨k - lo, by omega⟩
  exact pt_more o lo j x
theorem pt_at {o : Nat → Int} {lo k : Nat} {x : Int} : pt o lo k x k = o k := by
  unfold pt
  rw [if_neg (by omega)]
theorem AP.next {w : World} {g r first count : Nat} {a : Option Addr} {n c : Nat} {u v u' v' : Nat → Bool} {o o' : Nat → Int} {W W3 Wq : World} (h : AP w g r first count a n c u v o W) (k : Kept (fun b => b = g) W W3) (hs : SpAt g first count u' v' 0 W3) (kq : Kept (fun b => b = r) W3 Wq) (hr : Wq.heap[r]? = some (.cells (ow o') 3 (0, 0))) (hO : Owns first count u' v' o')
    (lT : 0 < w.heap.size) (lg : w.heap.size + 1 ≤ g) (lr : g < r) : AP w g r first count a n c u' v' o' Wq :=
  ⟨hs.kept kq (by omega), (h.tab.kept k (by omega)).kept kq (by omega), hr, blk_kept kq (by omega) (blk_kept k (by omega) h.box), (Kept.trans' (Kept.trans' h.same k (fun i hi e => by omega)) kq (fun i hi e => by omega)), hO⟩
set_option maxHeartbeats 4000000 in
set_option maxRecDepth 100000 in
theorem apart_no (first count : Int) (a : Option Addr) (n c : Nat) (w : World) (hf : I64 first) (hc : I64 count) (hT : Tab w) (h : ¬ (0 ≤ first ∧ 1 ≤ count ∧ first + count ≤ 4096)) :
    Calls Tryd.prog 6 #[.agg #[.int .i64 first, .int .i64 count, .slice a n c]] w fun e w' => e = .returned (.bool true) ∧ Same w w' := by
  have HB := hidden (fun W (k : Same w W) => begin_no first count (.slice a n c) ⟨a, n, c, rfl⟩ W hf hc (hT.same k) h)
  clear h hT hf hc
  go_enter Tryd.func6, Tryd.ntmps6
  go_wp2_with (go_at_call 10; refine (HB.out _ (same_alloc _ _)).mono ?_; rintro e w1 ⟨rfl, k1⟩; have K1 := hidden k1; clear k1)
  go_returns
  exact ⟨rfl, (same_alloc _ _).trans K1.out⟩
set_option maxHeartbeats 4000000 in
set_option maxRecDepth 100000 in
theorem apart_yes (first count : Nat) (a : Option Addr) (n c : Nat) (f : Nat → Op4) (w : World) (ho : SOps w a n f) (hn : n * 32 ≤ 140737488351232) (hT : Tab w) (h1 : 1 ≤ count) (h2 : first + count ≤ 4096) :
    Calls Tryd.prog 6 #[.agg #[.int .i64 first, .int .i64 count, .slice a n c]] w fun e w' => e = .returned (.bool true) ∧ Same w w' := by
  have HB := hidden (fun W (k : Same w W) => begin_ok first count (.slice a n c) ⟨a, n, c, rfl⟩ W (hT.same k) h1 h2)
  have HT := hidden hT
  have HO := hidden ho
  have hmk := make_own
  have lT := hT.lt
  clear hT ho
  go_enter Tryd.func6, Tryd.ntmps6
  go_wp2_with (go_at_call 10; refine (HB.out _ (same_alloc _ _)).mono ?_; rintro e w1 ⟨g, q, s, rfl, hb⟩; have b1 := blk_kept hb.same (fun h => h) (blk_new w (.cells #[.int .i64 first, .int .i64 count, .slice a n c] 24)); have B1 := hidden b1; have HBg := hidden hb; have x2 : ∀ o, (w1.alloc o).cell? ⟨w.heap.size, 2, none⟩ = some (.slice a n c) := fun o => (same_alloc w1 o).cell (fun h => h) (blk_cell b1); clear hb b1)
  have lg : w.heap.size + 1 ≤ g := by have := HBg.out.g0; rw [World.size_alloc] at this; exact this
  have lr : g < w1.heap.size := by obtain ⟨cs, hb, _⟩ := HBg.out.sp.box; exact blk_lt hb
  have S0 : Hid (AP w g w1.heap.size first count a n c (fun _ => false) (fun _ => false) (fun _ => 0) (w1.alloc (.cells (ow (fun _ => 0)) 3))) :=
    have k := (same_alloc w _).trans (HBg.out.same)
    ⟨HBg.out.sp.kept (same_alloc _ _) (fun h => h), HT.out.same (k.trans (same_alloc _ _)), blk_new _ _, blk_alloc B1.out _, k.trans (same_alloc _ _), Owns.start _ _⟩
  generalize w1.alloc (.cells (ow (fun _ => 0)) 3) = w2 at *
  obtain ⟨r, hr⟩ : ∃ r, r = w1.heap.size := ⟨_, rfl⟩
  rw [← hr] at S0 lr ⊢
  clear HB HBg B1 x2 hr hmk HT
  go_loopw [34] (fun x wr => ∃ (i : Nat) (u v : Nat → Bool) (o : Nat → Int), i ≤ n ∧ x = .int .i64 i ∧ AP w g r first count a n c u v o wr) (fun x _ => n - (intOf x).toNat)
  case atStart => exact ⟨0, _, _, _, Nat.zero_le _, rfl, S0.out⟩
  case round =>
    obtain ⟨i, u, v, o, hi, rfl, hA⟩ := hrel
    have HA := hidden hA
    obtain ⟨wo, hwo⟩ : ∃ wo, wo = wr := ⟨_, rfl⟩
    subst hwo
    clear hA S0
    by_cases hin : i < n
    · obtain ⟨ob, oo, rfl, hcs⟩ := HO.out (by omega)
      obtain ⟨p, hp⟩ : ∃ p, f i = p := ⟨_, rfl⟩
      have z := hcs i hin
      rw [hp] at z
      obtain ⟨kd, nn, af, ac⟩ := p
      obtain ⟨hok, z0, z1, z2, z3⟩ := z
      have e0 := HA.out.same.cell (fun h => h) z0
      have e1 := HA.out.same.cell (fun h => h) z1
      have e2 := HA.out.same.cell (fun h => h) z2
      have e3 := HA.out.same.cell (fun h => h) z3
      have HOK := hidden hok
      clear hcs z0 z1 z2 z3 hp hok
      have t1 : (i : Int) < (n : Int) := by omega
      have t0 : (0 : Int) ≤ (i : Int) := Int.natCast_nonneg _
      by_cases k0 : kd = 0
      · skip
        subst k0
        have lw := blk_lt HA.out.row
        rcases take_cases g first count u v 0 nn wo HA.out.sp HA.out.tab with ⟨er, hne, hC⟩ | ⟨p, m, rfl, hm1, hpm, hfree, hC⟩
        · have HC := hidden hC
          clear hC
          go_wp2_with (go_at_call 15; refine (HC.out _ (same_alloc _ _)).mono ?_; rintro e w3 ⟨rfl, k3⟩; have K3 := hidden ((same_alloc _ _).trans k3); clear k3)
          go_roundw
          case rel => exact ⟨i + 1, u, v, o, by omega, by go_num, HA.out.keep K3.out⟩
          case measure => simp [intOf]; omega
        · obtain ⟨lo, hlo⟩ : ∃ lo, lo = first + p := ⟨_, rfl⟩
          obtain ⟨hi', hhi⟩ : ∃ hi', hi' = lo + m := ⟨_, rfl⟩
          rw [← hlo] at hC
          have HC := hidden hC
          have HF := hidden hfree
          have HLO := hidden hlo
          have HHI := hidden hhi
          have b0 : lo ≤ hi' ∧ hi' ≤ first + count ∧ first ≤ lo ∧ hi' ≤ 4096 := by omega
          clear hC hfree hlo hhi
          go_wp2_with (go_at_call 15; refine (HC.out _ (same_alloc _ _)).mono ?_; rintro e w3 ⟨rfl, s3, k3⟩; have S3 := hidden s3; have BX := hidden (blk_kept k3 (by omega) (blk_new wo (.cells #[.int .i64 0, .int .i64 (m : Int), .int .i64 af, .int .i64 ac] 32))); have K3 := hidden (((same_alloc wo (.cells #[.int .i64 0, .int .i64 (m : Int), .int .i64 af, .int .i64 ac] 32)).mono (fun _ _ h => h.elim)).trans k3); clear k3 s3)
          go_loopw [11] (fun x wq => ∃ k : Nat, lo ≤ k ∧ k ≤ hi' ∧ x = .int .i64 k ∧ wq.heap[r]? = some (.cells (ow (pt o lo k ((i : Int) + 1))) 3 (0, 0)) ∧ Kept (fun b => b = r) w3 wq) (fun x _ => hi' - (intOf x).toNat)
          case atStart => exact ⟨lo, Nat.le_refl _, b0.1, rfl, by rw [pt_none]; exact blk_kept K3.out (by omega) HA.out.row, Kept.refl _ _⟩
          case round =>
            obtain ⟨k, hk1, hk2, rfl, hrow, hK⟩ := hrel
            have ROW := hidden hrow
            have KQ := hidden hK
            clear hrow hK
            have w1 : IntKind.i64.wrap ((lo : Int) + (m : Int)) = (hi' : Int) := by have := HHI.out; rw [IntKind.wrap_i64]; omega
            have d1 : wr.cell? ⟨wo.heap.size, 1, none⟩ = some (.int .i64 (m : Int)) := blk_cell (blk_kept KQ.out (by omega) BX.out)
            have bx := blk_kept KQ.out (by omega) (blk_kept K3.out (by omega) HA.out.box)
            have q0 : wr.cell? ⟨w.heap.size, 0, none⟩ = some (.int .i64 first) := blk_cell bx
            have q1 : wr.cell? ⟨w.heap.size, 1, none⟩ = some (.int .i64 count) := blk_cell bx
            clear bx
            by_cases hlt : k < hi'
            · have z1 : o k = 0 := by
                have hk : k < 4096 := by omega
                have h3 := HA.out.owns.pos k hk
                have h4 := HA.out.owns.neg k hk
                have := HLO.out
                have := HHI.out
                have h5 := HF.out (k - first) (by omega) (by omega)
                simp at h5
                have : ¬ 1 ≤ o k := fun h => by have := (h3.1 h).2.2; rw [h5.1] at this; cases this
                have : ¬ o k < 0 := fun h => by have := (h4.1 h).2.2; rw [h5.2] at this; cases this
                omega
              have rr : wr.cell? ⟨r, k, none⟩ = some (.int .i64 0) := by rw [blk_cell ROW.out, ow_at _ (by omega), pt_at, z1]
              have fz : wr.frozen? ⟨r, k, none⟩ = false := blk_free ROW.out
              have w2 : IntKind.i64.wrap ((first : Int) + (count : Int)) = (first : Int) + (count : Int) := by rw [IntKind.wrap_i64]; omega
              have w3' : IntKind.i64.wrap ((i : Int) + 1) = (i : Int) + 1 := by rw [IntKind.wrap_i64]; omega
              have w4 : IntKind.i64.wrap ((k : Int) + 1) = (k : Int) + 1 := by rw [IntKind.wrap_i64]; omega
              have y1 : (k : Int) < (hi' : Int) := by omega
              have y2 : ¬ (k : Int) < (first : Int) := by omega
              have y3 : ¬ (first : Int) + (count : Int) ≤ (k : Int) := by omega
              have y2d : decide ((k : Int) < (first : Int)) = false := by simp; omega
              have y3d : decide ((first : Int) + (count : Int) ≤ (k : Int)) = false := by simp; omega
              have y4 : (0 : Int) ≤ (k : Int) := Int.natCast_nonneg _
              have y5 : (k : Int) < 4096 := by omega
              go_wp2
              go_roundw
              case rel =>
                refine ⟨k + 1, by omega, by omega, by go_num, ?_, KQ.out.setCell (p := ⟨r, k, none⟩) rfl _⟩
                rw [← pt_step hk1, ← ow_set]
                exact blk_set ROW.out _
              case measure => simp [intOf]; omega
            · have he : k = hi' := by omega
              subst he
              have y1 : ¬ (k : Int) < (k : Int) := by omega
              go_wp2
              go_roundw
              case rel =>
                refine ⟨i + 1, fSet u p (p + m), v, pt o lo k ((i : Int) + 1), by omega, by go_num, HA.out.next K3.out S3.out KQ.out ROW.out ?_ lT lg lr⟩
                have := HA.out.owns.take (x := (i : Int) + 1) hpm HF.out (by omega)
                rw [HHI.out, HLO.out]
                exact this
              case measure => simp [intOf]; omega
      by_cases k2 : kd = 2
      · subst k2
        have lw := blk_lt HA.out.row
        rcases give_cases 16 true rfl g first count u v 0 af ac wo HA.out.sp HA.out.tab HOK.out.af with hC | ⟨p, m, haf, rfl, hm1, hpm, hfree, hC⟩
        · have HC := hidden hC
          clear hC
          go_wp2_with (go_at_call 16; refine (HC.out _ (same_alloc _ _)).mono ?_; rintro e w3 ⟨rfl, k3⟩; have K3 := hidden ((same_alloc _ _).trans k3); clear k3)
          go_roundw
          case rel => exact ⟨i + 1, u, v, o, by omega, by go_num, HA.out.keep K3.out⟩
          case measure => simp [intOf]; omega
        · obtain ⟨lo, hlo⟩ : ∃ lo, lo = first + p := ⟨_, rfl⟩
          obtain ⟨hi', hhi⟩ : ∃ hi', hi' = lo + m := ⟨_, rfl⟩
          rw [← hlo] at haf
          subst haf
          have HC := hidden hC
          have HF := hidden hfree
          have HLO := hidden hlo
          have HHI := hidden hhi
          have b0 : lo ≤ hi' ∧ hi' ≤ first + count ∧ first ≤ lo ∧ hi' ≤ 4096 := by omega
          clear hC hfree hlo hhi
          go_wp2_with (go_at_call 16; refine (HC.out _ (same_alloc _ _)).mono ?_; rintro e w3 ⟨rfl, s3, k3⟩; have S3 := hidden s3; have bb := blk_kept k3 (by omega) (blk_new wo (.cells #[.int .i64 2, .int .i64 nn, .int .i64 (lo : Int), .int .i64 (m : Int)] 32)); have BX := hidden bb; have d9 : w3.cell? ⟨wo.heap.size, 2, none⟩ = some (.int .i64 (lo : Int)) := blk_cell bb; clear bb; have K3 := hidden (((same_alloc wo (.cells #[.int .i64 2, .int .i64 nn, .int .i64 (lo : Int), .int .i64 (m : Int)] 32)).mono (fun _ _ h => h.elim)).trans k3); clear k3 s3)
          clear d9
          go_loopw [14] (fun x wq => ∃ k : Nat, lo ≤ k ∧ k ≤ hi' ∧ x = .int .i64 k ∧ wq.heap[r]? = some (.cells (ow (pt o lo k (0))) 3 (0, 0)) ∧ Kept (fun b => b = r) w3 wq) (fun x _ => hi' - (intOf x).toNat)
          case atStart => exact ⟨lo, Nat.le_refl _, b0.1, rfl, by rw [pt_none]; exact blk_kept K3.out (by omega) HA.out.row, Kept.refl _ _⟩
          case round =>
            obtain ⟨k, hk1, hk2, rfl, hrow, hK⟩ := hrel
            have ROW := hidden hrow
            have KQ := hidden hK
            clear hrow hK
            have w1 : IntKind.i64.wrap ((lo : Int) + (m : Int)) = (hi' : Int) := by have := HHI.out; rw [IntKind.wrap_i64]; omega
            have bq := blk_kept KQ.out (by omega) BX.out
            have d2 : wr.cell? ⟨wo.heap.size, 2, none⟩ = some (.int .i64 (lo : Int)) := blk_cell bq
            have d3 : wr.cell? ⟨wo.heap.size, 3, none⟩ = some (.int .i64 (m : Int)) := blk_cell bq
            clear bq
            by_cases hlt : k < hi'
            · obtain ⟨x, hx⟩ : ∃ x, o k = x := ⟨_, rfl⟩
              have z1 : ¬ x < 1 := by
                have hk : k < 4096 := by omega
                have h3 := HA.out.owns.pos k hk
                have := HLO.out
                have := HHI.out
                have h5 := HF.out (k - first) (by omega) (by omega)
                simp at h5
                have := h3.2 ⟨by omega, by omega, h5⟩
                omega
              have rr : wr.cell? ⟨r, k, none⟩ = some (.int .i64 x) := by rw [blk_cell ROW.out, ow_at _ (by omega), pt_at, hx]
              have HX := hidden hx
              clear hx
              have fz : wr.frozen? ⟨r, k, none⟩ = false := blk_free ROW.out
              have w4 : IntKind.i64.wrap ((k : Int) + 1) = (k : Int) + 1 := by rw [IntKind.wrap_i64]; omega
              have y1 : (k : Int) < (hi' : Int) := by omega
              have y2 : ¬ (k : Int) < 0 := by omega
              have y2d : decide ((k : Int) < 0) = false := by simp
              have y3 : ¬ (4096 : Int) ≤ (k : Int) := by omega
              have y3d : decide ((4096 : Int) ≤ (k : Int)) = false := by simp; omega
              have y3n : ¬ 4096 ≤ k := by omega
              have y3e : decide (4096 ≤ k) = false := by simp; omega
              have y4 : (0 : Int) ≤ (k : Int) := Int.natCast_nonneg _
              have y5 : (k : Int) < 4096 := by omega
              have y6 : decide (x < 1) = false := by simp; omega
              go_wp2
              go_roundw
              case rel =>
                refine ⟨k + 1, by omega, by omega, by go_num, ?_, KQ.out.setCell (p := ⟨r, k, none⟩) rfl _⟩
                rw [← pt_step hk1, ← ow_set]
                exact blk_set ROW.out _
              case measure => simp [intOf]; omega
            · have he : k = hi' := by omega
              subst he
              have y1 : ¬ (k : Int) < (k : Int) := by omega
              go_wp2
              go_roundw
              case rel =>
                refine ⟨i + 1, fUnset u p (p + m), v, pt o lo k (0), by omega, by go_num, HA.out.next K3.out S3.out KQ.out ROW.out ?_ lT lg lr⟩
                have := HA.out.owns.free hpm HF.out
                rw [HHI.out, HLO.out]
                exact this
              case measure => simp [intOf]; omega
      by_cases k3 : kd = 3
      · subst k3
        have lw := blk_lt HA.out.row
        rcases give_cases 17 false rfl g first count u v 0 af ac wo HA.out.sp HA.out.tab HOK.out.af with hC | ⟨p, m, haf, rfl, hm1, hpm, hfree, hC⟩
        · have HC := hidden hC
          clear hC
          go_wp2_with (go_at_call 17; refine (HC.out _ (same_alloc _ _)).mono ?_; rintro e w3 ⟨rfl, k3⟩; have K3 := hidden ((same_alloc _ _).trans k3); clear k3)
          go_roundw
          case rel => exact ⟨i + 1, u, v, o, by omega, by go_num, HA.out.keep K3.out⟩
          case measure => simp [intOf]; omega
        · obtain ⟨lo, hlo⟩ : ∃ lo, lo = first + p := ⟨_, rfl⟩
          obtain ⟨hi', hhi⟩ : ∃ hi', hi' = lo + m := ⟨_, rfl⟩
          rw [← hlo] at haf
          subst haf
          have HC := hidden hC
          have HF := hidden hfree
          have HLO := hidden hlo
          have HHI := hidden hhi
          have b0 : lo ≤ hi' ∧ hi' ≤ first + count ∧ first ≤ lo ∧ hi' ≤ 4096 := by omega
          clear hC hfree hlo hhi
          go_wp2_with (go_at_call 17; refine (HC.out _ (same_alloc _ _)).mono ?_; rintro e w3 ⟨rfl, s3, k3⟩; have S3 := hidden s3; have bb := blk_kept k3 (by omega) (blk_new wo (.cells #[.int .i64 3, .int .i64 nn, .int .i64 (lo : Int), .int .i64 (m : Int)] 32)); have BX := hidden bb; have d9 : w3.cell? ⟨wo.heap.size, 2, none⟩ = some (.int .i64 (lo : Int)) := blk_cell bb; clear bb; have K3 := hidden (((same_alloc wo (.cells #[.int .i64 3, .int .i64 nn, .int .i64 (lo : Int), .int .i64 (m : Int)] 32)).mono (fun _ _ h => h.elim)).trans k3); clear k3 s3)
          clear d9
          go_loopw [14] (fun x wq => ∃ k : Nat, lo ≤ k ∧ k ≤ hi' ∧ x = .int .i64 k ∧ wq.heap[r]? = some (.cells (ow (pt o lo k (-1))) 3 (0, 0)) ∧ Kept (fun b => b = r) w3 wq) (fun x _ => hi' - (intOf x).toNat)
          case atStart => exact ⟨lo, Nat.le_refl _, b0.1, rfl, by rw [pt_none]; exact blk_kept K3.out (by omega) HA.out.row, Kept.refl _ _⟩
          case round =>
            obtain ⟨k, hk1, hk2, rfl, hrow, hK⟩ := hrel
            have ROW := hidden hrow
            have KQ := hidden hK
            clear hrow hK
            have w1 : IntKind.i64.wrap ((lo : Int) + (m : Int)) = (hi' : Int) := by have := HHI.out; rw [IntKind.wrap_i64]; omega
            have bq := blk_kept KQ.out (by omega) BX.out
            have d2 : wr.cell? ⟨wo.heap.size, 2, none⟩ = some (.int .i64 (lo : Int)) := blk_cell bq
            have d3 : wr.cell? ⟨wo.heap.size, 3, none⟩ = some (.int .i64 (m : Int)) := blk_cell bq
            clear bq
            by_cases hlt : k < hi'
            · obtain ⟨x, hx⟩ : ∃ x, o k = x := ⟨_, rfl⟩
              have z1 : ¬ x < 1 := by
                have hk : k < 4096 := by omega
                have h3 := HA.out.owns.pos k hk
                have := HLO.out
                have := HHI.out
                have h5 := HF.out (k - first) (by omega) (by omega)
                simp at h5
                have := h3.2 ⟨by omega, by omega, h5⟩
                omega
              have rr : wr.cell? ⟨r, k, none⟩ = some (.int .i64 x) := by rw [blk_cell ROW.out, ow_at _ (by omega), pt_at, hx]
              have HX := hidden hx
              clear hx
              have fz : wr.frozen? ⟨r, k, none⟩ = false := blk_free ROW.out
              have w4 : IntKind.i64.wrap ((k : Int) + 1) = (k : Int) + 1 := by rw [IntKind.wrap_i64]; omega
              have y1 : (k : Int) < (hi' : Int) := by omega
              have y2 : ¬ (k : Int) < 0 := by omega
              have y2d : decide ((k : Int) < 0) = false := by simp
              have y3 : ¬ (4096 : Int) ≤ (k : Int) := by omega
              have y3d : decide ((4096 : Int) ≤ (k : Int)) = false := by simp; omega
              have y3n : ¬ 4096 ≤ k := by omega
              have y3e : decide (4096 ≤ k) = false := by simp; omega
              have y4 : (0 : Int) ≤ (k : Int) := Int.natCast_nonneg _
              have y5 : (k : Int) < 4096 := by omega
              have y6 : decide (x < 1) = false := by simp; omega
              go_wp2
              go_roundw
              case rel =>
                refine ⟨k + 1, by omega, by omega, by go_num, ?_, KQ.out.setCell (p := ⟨r, k, none⟩) rfl _⟩
                rw [← pt_step hk1, ← ow_set]
                exact blk_set ROW.out _
              case measure => simp [intOf]; omega
            · have he : k = hi' := by omega
              subst he
              have y1 : ¬ (k : Int) < (k : Int) := by omega
              go_wp2
              go_roundw
              case rel =>
                refine ⟨i + 1, fUnset u p (p + m), fSet v p (p + m), pt o lo k (-1), by omega, by go_num, HA.out.next K3.out S3.out KQ.out ROW.out ?_ lT lg lr⟩
                have := HA.out.owns.later hpm HF.out
                rw [HHI.out, HLO.out]
                exact this
              case measure => simp [intOf]; omega
      by_cases k4 : kd = 4
      · skip
        subst k4
        have lw := blk_lt HA.out.row
        have ls : g < wo.heap.size := by obtain ⟨cs, hb, _⟩ := HA.out.sp.box; exact blk_lt hb
        go_wp2
        go_loopw [139, 15] (fun x y wq => ∃ (k yy : Nat), k ≤ 4096 ∧ x = .int .i64 k ∧ y = .int .i64 yy ∧ yy = cnt (fun j => decide (o j < 0)) k ∧ wq.heap[r]? = some (.cells (ow (stl o k)) 3 (0, 0)) ∧ Kept (fun b => b = r) wo wq) (fun x _ _ => 4096 - (intOf x).toNat)
        case atStart => exact ⟨0, 0, by omega, rfl, rfl, rfl, by rw [stl_none]; exact blk_alloc HA.out.row _, (Kept.refl _ _).alloc _⟩
        case round =>
          obtain ⟨k, yy, hk2, rfl, rfl, hyy, hrow, hK⟩ := hrel
          have ROW := hidden hrow
          have KQ := hidden hK
          have HY := hidden hyy
          have yl : yy ≤ 4096 := by have := cnt_le (fun j => decide (o j < 0)) k; omega
          clear hrow hK hyy
          by_cases hlt : k < 4096
          · obtain ⟨x, hx⟩ : ∃ x, o k = x := ⟨_, rfl⟩
            have rr : wr.cell? ⟨r, k, none⟩ = some (.int .i64 x) := by rw [blk_cell ROW.out, ow_at _ (by omega), stl_at, hx]
            have HX := hidden hx
            clear hx
            have fz : wr.frozen? ⟨r, k, none⟩ = false := blk_free ROW.out
            have w4 : IntKind.i64.wrap ((k : Int) + 1) = (k : Int) + 1 := by rw [IntKind.wrap_i64]; omega
            have w5 : IntKind.i64.wrap ((yy : Int) + 1) = (yy : Int) + 1 := by rw [IntKind.wrap_i64]; omega
            have y4 : (0 : Int) ≤ (k : Int) := Int.natCast_nonneg _
            have y5 : (k : Int) < 4096 := by omega
            by_cases hneg : x < 0
            · go_wp2
              go_roundw
              case rel =>
                refine ⟨k + 1, yy + 1, by omega, by go_num, by go_num, ?_, ?_, KQ.out.setCell (p := ⟨r, k, none⟩) rfl _⟩
                · simp only [cnt]
                  rw [HY.out, HX.out]
                  simp [hneg]
                · rw [← stl_yes (by rw [HX.out]; exact hneg), ← ow_set]
                  exact blk_set ROW.out _
              case measure => simp [intOf]; omega
            · go_wp2
              go_roundw
              case rel =>
                refine ⟨k + 1, yy, by omega, by go_num, rfl, ?_, ?_, KQ.out⟩
                · simp only [cnt]
                  rw [HY.out, HX.out]
                  simp [hneg]
                · rw [← stl_no (by rw [HX.out]; exact hneg)]
                  exact ROW.out
              case measure => simp [intOf]; omega
          · have he : k = 4096 := by omega
            subst he
            have HS := hidden (sp_settle g first count u v 0 wr (HA.out.sp.kept KQ.out (by omega)))
            have hc : cnt v 4096 = yy := by rw [HY.out]; exact (HA.out.owns.count h2 HA.out.sp.inV).symm
            rw [hc] at HS
            go_wp2_with (go_at_call 18; refine (HS.out).mono ?_; rintro e w3 ⟨rfl, s3, k3⟩; have S3 := hidden s3; have K3 := hidden k3; clear s3 k3)
            go_roundw
            case rel =>
              refine ⟨i + 1, u, fun _ => false, stl o 4096, by omega, by go_num, ⟨S3.out, (HA.out.tab.kept KQ.out (by omega)).kept K3.out (by omega), blk_kept K3.out (by omega) ROW.out, blk_kept K3.out (by omega) (blk_kept KQ.out (by omega) HA.out.box), Kept.trans' (Kept.trans' HA.out.same KQ.out (fun i hi e => by omega)) K3.out (fun i hi e => by omega), HA.out.owns.settle⟩⟩
            case measure => simp [intOf]; omega
      · skip
        go_wp2
        go_roundw
        case rel => exact ⟨i + 1, u, v, o, by omega, by go_num, HA.out.keep (same_alloc _ _)⟩
        case measure => simp [intOf]; omega
    · have t1 : ¬ (i : Int) < (n : Int) := by omega
      go_wp2
      go_returns
      exact ⟨rfl, HA.out.same⟩
end Go.Proofs.YtbmbdidmbdanmaaDoor
