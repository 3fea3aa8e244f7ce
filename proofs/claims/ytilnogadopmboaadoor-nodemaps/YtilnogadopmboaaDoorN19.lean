/- node: the law's spoilt: it writes over the rows that it is handed, and nothing else. -/
import Derived.Test.YtilnogadopmboaaDoorN18
namespace Go.Proofs.YtilnogadopmboaaDoor
open Go.RowKit
set_option linter.unusedVariables false
set_option linter.unusedSimpArgs false
theorem own_any {w : World} {B : Nat} {e : TypeId} {v : Value} {n : Nat} {xs : List Value} (h : w.ownsRow B e 1 v n xs) : ∃ ys : List Value, ys.length = n ∧ w.ownsRow B e 1 v n ys := ⟨xs, by have := h.1; omega, h⟩
set_option maxHeartbeats 4000000 in
set_option maxRecDepth 100000 in
theorem spoilt_any (lf : Bool) (B : Nat) (a1 a2 a3 : Option Addr) (k1 c1 k2 c2 k3 c3 : Nat) (w : World) (x1 x2 x3 : List Value)
    (o1 : w.ownsRow B 9 1 (.slice a1 k1 c1) k1 x1) (o2 : w.ownsRow B 9 1 (.slice a2 k2 c2) k2 x2) (o3 : w.ownsRow B 3 1 (.slice a3 k3 c3) k3 x3)
    (hap : ∀ k, (Value.slice a1 k1 c1).ownBlock = some k → (Value.slice a2 k2 c2).ownBlock ≠ some k) (h1 : k1 ≤ 17592186044416) (h2 : k2 ≤ 17592186044416) (h3 : k3 ≤ 35184372088832) :
    Calls Tryd.prog 24 #[.agg #[.bool lf, .slice a1 k1 c1, .slice a2 k2 c2, .slice a3 k3 c3]] w fun e w' => e = .returned (.tuple #[]) ∧ Kept (fun k => B ≤ k) w w' := by
  obtain ⟨W0, hW0⟩ : ∃ W0, W0 = w.alloc (.cells #[.bool lf, .slice a1 k1 c1, .slice a2 k2 c2, .slice a3 k3 c3] 25) := ⟨_, rfl⟩
  have HW0 := hidden hW0
  have p1 := o1.alloc (.cells #[.bool lf, .slice a1 k1 c1, .slice a2 k2 c2, .slice a3 k3 c3] 25)
  have p2 := o2.alloc (.cells #[.bool lf, .slice a1 k1 c1, .slice a2 k2 c2, .slice a3 k3 c3] 25)
  have p3 := o3.alloc (.cells #[.bool lf, .slice a1 k1 c1, .slice a2 k2 c2, .slice a3 k3 c3] 25)
  have b0 := blk_new w (.cells #[.bool lf, .slice a1 k1 c1, .slice a2 k2 c2, .slice a3 k3 c3] 25)
  have kk : Kept (fun k => B ≤ k) w (w.alloc (.cells #[.bool lf, .slice a1 k1 c1, .slice a2 k2 c2, .slice a3 k3 c3] 25)) := (Kept.refl _ w).alloc _
  have l1 : ∀ k, (Value.slice a1 k1 c1).ownBlock = some k → B ≤ k ∧ k < w.heap.size := fun k hk => ⟨own_geN o1 k hk, own_ltN o1 k hk⟩
  have l2 : ∀ k, (Value.slice a2 k2 c2).ownBlock = some k → B ≤ k ∧ k < w.heap.size := fun k hk => ⟨own_geN o2 k hk, own_ltN o2 k hk⟩
  have l3 : ∀ k, (Value.slice a3 k3 c3).ownBlock = some k → B ≤ k ∧ k < w.heap.size := fun k hk => ⟨own_geN o3 k hk, own_ltN o3 k hk⟩
  rw [← hW0] at p1 p2 p3 b0 kk
  have P1 := hidden (own_any p1)
  have P2 := hidden (own_any p2)
  have P3 := hidden (own_any p3)
  have B0 := hidden b0
  have KK := hidden kk
  have L1 := hidden l1
  have L2 := hidden l2
  have L3 := hidden l3
  have HAP := hidden hap
  clear o1 o2 o3 p1 p2 p3 b0 kk l1 l2 l3 hap hW0
  go_enter Tryd.func24, Tryd.ntmps24
  go_wp2
  rw [← HW0.out]
  go_loopw [2] (fun iv wr => ∃ i : Nat, iv = .int .i64 i ∧ i ≤ k1 ∧ (∃ ys : List Value, ys.length = k1 ∧ wr.ownsRow B 9 1 (.slice a1 k1 c1) k1 ys) ∧ (∃ ys : List Value, ys.length = k2 ∧ wr.ownsRow B 9 1 (.slice a2 k2 c2) k2 ys) ∧ (∃ ys : List Value, ys.length = k3 ∧ wr.ownsRow B 3 1 (.slice a3 k3 c3) k3 ys) ∧ wr.heap[w.heap.size]? = some (.cells #[.bool lf, .slice a1 k1 c1, .slice a2 k2 c2, .slice a3 k3 c3] 25 (0, 0)) ∧ Kept (fun k => B ≤ k) w wr) (fun i _ => k1 - (intOf i).toNat)
  case atStart => exact ⟨0, rfl, Nat.zero_le _, P1.out, P2.out, P3.out, B0.out, KK.out⟩
  case round =>
    obtain ⟨i, rfl, hi, hy1, hy2, hy3, hbx, hk⟩ := hrel
    have z1 : wr.cell? ⟨w.heap.size, 1, none⟩ = some (.slice a1 k1 c1) := blk_cell hbx
    have z2 : wr.cell? ⟨w.heap.size, 2, none⟩ = some (.slice a2 k2 c2) := blk_cell hbx
    have HY1 := hidden hy1
    have HY2 := hidden hy2
    have HY3 := hidden hy3
    have HBX := hidden hbx
    have HK := hidden hk
    clear hy1 hy2 hy3 hbx hk
    by_cases hlt : i < k1
    · obtain ⟨ys, hyl, hyo⟩ := HY1.out
      obtain ⟨g, cg, hgb, hg1, hg2⟩ := hyo.form (by omega)
      simp only [Value.slice.injEq] at hgb
      obtain ⟨ha, -, hcc⟩ := hgb
      subst ha hcc
      obtain ⟨yv, hyv⟩ : ∃ yv, ys[i]? = some yv := ⟨_, List.getElem?_eq_getElem (by omega)⟩
      obtain ⟨m1, m2⟩ := own_cellN hyo (i := i) _ hyv
      clear hyv
      have q0 : (0 : Int) ≤ (i : Int) := Int.natCast_nonneg _
      have q1 : (i : Int) < (k1 : Int) := by omega
      have hne : g ≠ w.heap.size := by have := (L1.out g rfl).2; omega
      have HYO := hidden hyo
      have HYL := hidden hyl
      clear hyo hyl
      go_wp2
      go_roundw
      case rel =>
        have ks : Kept (only g) wr (wr.setCell ⟨g, i, none⟩ (.string ⟨#[33]⟩)) := (Kept.refl (only g) wr).setCell (p := ⟨g, i, none⟩) rfl _
        obtain ⟨y2, hl2, ho2⟩ := HY2.out
        obtain ⟨y3, hl3, ho3⟩ := HY3.out
        refine ⟨i + 1, by go_num, by omega, ⟨_, ?_, own_setN (i := i) HYO.out _⟩, ⟨y2, hl2, own_kept ho2 ks (fun k hk hs => HAP.out k (by have e : k = g := hs; rw [e]; rfl) hk)⟩, ⟨y3, hl3, own_kept ho3 ks (fun k hk hs => own_typesN ho3 HYO.out (by decide) k hk (by have e : k = g := hs; rw [e]; rfl))⟩, blk_kept ks (fun e => hne (Eq.symm e)) HBX.out, HK.out.setCell (p := ⟨g, i, none⟩) (by show B ≤ g; exact (L1.out g rfl).1) _⟩
        rw [List.length_set]
        exact HYL.out
      case measure => simp [intOf]; omega
    · obtain rfl : i = k1 := by omega
      have q1 : ¬ (i : Int) < (i : Int) := by omega
      go_wp2
      obtain ⟨wa, hwa⟩ : ∃ wa, wa = wr := ⟨_, rfl⟩
      rw [← hwa] at HY1 HY2 HY3 HBX HK ⊢
      clear hwa z1 z2
      go_loopw [3] (fun iv wr => ∃ j : Nat, iv = .int .i64 j ∧ j ≤ k2 ∧ (∃ ys : List Value, ys.length = k2 ∧ wr.ownsRow B 9 1 (.slice a2 k2 c2) k2 ys) ∧ (∃ ys : List Value, ys.length = k3 ∧ wr.ownsRow B 3 1 (.slice a3 k3 c3) k3 ys) ∧ wr.heap[w.heap.size]? = some (.cells #[.bool lf, .slice a1 i c1, .slice a2 k2 c2, .slice a3 k3 c3] 25 (0, 0)) ∧ Kept (fun k => B ≤ k) w wr) (fun i _ => k2 - (intOf i).toNat)
      case atStart => exact ⟨0, rfl, Nat.zero_le _, HY2.out, HY3.out, HBX.out, HK.out⟩
      case round =>
        obtain ⟨j, rfl, hj, hy2, hy3, hbx, hk⟩ := hrel
        have z2 : wr.cell? ⟨w.heap.size, 2, none⟩ = some (.slice a2 k2 c2) := blk_cell hbx
        have z3 : wr.cell? ⟨w.heap.size, 3, none⟩ = some (.slice a3 k3 c3) := blk_cell hbx
        have JY2 := hidden hy2
        have JY3 := hidden hy3
        have JBX := hidden hbx
        have JK := hidden hk
        clear hy2 hy3 hbx hk
        by_cases hlt2 : j < k2
        · obtain ⟨ys, hyl, hyo⟩ := JY2.out
          obtain ⟨g, cg, hgb, hg1, hg2⟩ := hyo.form (by omega)
          simp only [Value.slice.injEq] at hgb
          obtain ⟨ha, -, hcc⟩ := hgb
          subst ha hcc
          obtain ⟨yv, hyv⟩ : ∃ yv, ys[j]? = some yv := ⟨_, List.getElem?_eq_getElem (by omega)⟩
          obtain ⟨m1, m2⟩ := own_cellN hyo (i := j) _ hyv
          clear hyv
          have q0 : (0 : Int) ≤ (j : Int) := Int.natCast_nonneg _
          have q2 : (j : Int) < (k2 : Int) := by omega
          have hne : g ≠ w.heap.size := by have := (L2.out g rfl).2; omega
          have HYO := hidden hyo
          have HYL := hidden hyl
          clear hyo hyl
          go_wp2
          go_roundw
          case rel =>
            have ks : Kept (only g) wr (wr.setCell ⟨g, j, none⟩ (.string ⟨#[33]⟩)) := (Kept.refl (only g) wr).setCell (p := ⟨g, j, none⟩) rfl _
            obtain ⟨y3, hl3, ho3⟩ := JY3.out
            refine ⟨j + 1, by go_num, by omega, ⟨_, ?_, own_setN (i := j) HYO.out _⟩, ⟨y3, hl3, own_kept ho3 ks (fun k hk hs => own_typesN ho3 HYO.out (by decide) k hk (by have e : k = g := hs; rw [e]; rfl))⟩, blk_kept ks (fun e => hne (Eq.symm e)) JBX.out, JK.out.setCell (p := ⟨g, j, none⟩) (by show B ≤ g; exact (L2.out g rfl).1) _⟩
            rw [List.length_set]
            exact HYL.out
          case measure => simp [intOf]; omega
        · obtain rfl : j = k2 := by omega
          have q2 : ¬ (j : Int) < (j : Int) := by omega
          go_wp2
          obtain ⟨wb, hwb⟩ : ∃ wb, wb = wr := ⟨_, rfl⟩
          rw [← hwb] at JY2 JY3 JBX JK ⊢
          clear hwb z2 z3
          go_loopw [4] (fun iv wr => ∃ t : Nat, iv = .int .i64 t ∧ t ≤ k3 ∧ (∃ ys : List Value, ys.length = k3 ∧ wr.ownsRow B 3 1 (.slice a3 k3 c3) k3 ys) ∧ wr.heap[w.heap.size]? = some (.cells #[.bool lf, .slice a1 i c1, .slice a2 j c2, .slice a3 k3 c3] 25 (0, 0)) ∧ Kept (fun k => B ≤ k) w wr) (fun i _ => k3 - (intOf i).toNat)
          case atStart => exact ⟨0, rfl, Nat.zero_le _, JY3.out, JBX.out, JK.out⟩
          case round =>
            obtain ⟨t, rfl, ht, hy3, hbx, hk⟩ := hrel
            have z3 : wr.cell? ⟨w.heap.size, 3, none⟩ = some (.slice a3 k3 c3) := blk_cell hbx
            have MY3 := hidden hy3
            have MBX := hidden hbx
            have MK := hidden hk
            clear hy3 hbx hk
            by_cases hlt3 : t < k3
            · obtain ⟨ys, hyl, hyo⟩ := MY3.out
              obtain ⟨g, cg, hgb, hg1, hg2⟩ := hyo.form (by omega)
              simp only [Value.slice.injEq] at hgb
              obtain ⟨ha, -, hcc⟩ := hgb
              subst ha hcc
              obtain ⟨yv, hyv⟩ : ∃ yv, ys[t]? = some yv := ⟨_, List.getElem?_eq_getElem (by omega)⟩
              obtain ⟨m1, m2⟩ := own_cellN hyo (i := t) _ hyv
              clear hyv
              have q0 : (0 : Int) ≤ (t : Int) := Int.natCast_nonneg _
              have q3 : (t : Int) < (k3 : Int) := by omega
              have hne : g ≠ w.heap.size := by have := (L3.out g rfl).2; omega
              have HYO := hidden hyo
              have HYL := hidden hyl
              clear hyo hyl
              go_wp2
              go_roundw
              case rel =>
                have ks : Kept (only g) wr (wr.setCell ⟨g, t, none⟩ (.int .i64 (-7))) := (Kept.refl (only g) wr).setCell (p := ⟨g, t, none⟩) rfl _
                refine ⟨t + 1, by go_num, by omega, ⟨_, ?_, own_setN (i := t) HYO.out _⟩, blk_kept ks (fun e => hne (Eq.symm e)) MBX.out, MK.out.setCell (p := ⟨g, t, none⟩) (by show B ≤ g; exact (L3.out g rfl).1) _⟩
                rw [List.length_set]
                exact HYL.out
              case measure => simp [intOf]; omega
            · obtain rfl : t = k3 := by omega
              have q3 : ¬ (t : Int) < (t : Int) := by omega
              go_wp2
              go_returns
              exact ⟨rfl, MK.out⟩
end Go.Proofs.YtilnogadopmboaaDoor
