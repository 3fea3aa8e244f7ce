/- the document's Copy of a node, by RegG. (Made by mkn15.py.) -/
import Derived.Test.YtpjgghalnkfdkaaDoorN14
namespace Go.Proofs.YtpjgghalnkfdkaaDoor
open Go.RowKit
set_option linter.unusedVariables false
set_option linter.unusedSimpArgs false
/-- What each operation of Copy's region tells. -/
def cpR (n : Nd) (a1 a2 a3 : Option Addr) (k1 c1 k2 c2 k3 c3 : Nat) (B : Nat) (i : Nat) (v : Value) (W : World) : Prop := match i with
  | 0 => v = .pointer (some ⟨B, 0, none⟩)
  | 1 => v = .bool n.leaf
  | 2 => Emp B 9 v W
  | 3 => v = .pointer (some ⟨B, 1, none⟩)
  | 4 => v = .slice a1 k1 c1
  | 5 => Apd B 9 k1 (TS n.keys) v W
  | 6 => Emp B 9 v W
  | 7 => v = .pointer (some ⟨B, 2, none⟩)
  | 8 => v = .slice a2 k2 c2
  | 9 => Apd B 9 k2 (TS n.vals) v W
  | 10 => Emp B 3 v W
  | 11 => v = .pointer (some ⟨B, 3, none⟩)
  | 12 => v = .slice a3 k3 c3
  | 13 => Apd B 3 k3 (IS n.kids) v W
  | 14 => ∃ u1 u2 u3, v = .agg #[.bool n.leaf, u1, u2, u3] ∧ Apd B 9 k1 (TS n.keys) u1 W ∧ Apd B 9 k2 (TS n.vals) u2 W ∧ Apd B 3 k3 (IS n.kids) u3 W ∧ (0 < k2 → ∀ k, u1.ownBlock = some k → u2.ownBlock ≠ some k)
  | _ => True
theorem cpR_same (n : Nd) (a1 a2 a3 : Option Addr) (k1 c1 k2 c2 k3 c3 : Nat) (B : Nat) (i : Nat) (v : Value) (W W' : World) (h : cpR n a1 a2 a3 k1 c1 k2 c2 k3 c3 B i v W) (k : Same W W') : cpR n a1 a2 a3 k1 c1 k2 c2 k3 c3 B i v W' := by
  match i, h with
  | 0, h => exact h
  | 1, h => exact h
  | 2, h => exact Emp.same h k
  | 3, h => exact h
  | 4, h => exact h
  | 5, h => exact Apd.same h k
  | 6, h => exact Emp.same h k
  | 7, h => exact h
  | 8, h => exact h
  | 9, h => exact Apd.same h k
  | 10, h => exact Emp.same h k
  | 11, h => exact h
  | 12, h => exact h
  | 13, h => exact Apd.same h k
  | 14, h =>
    obtain ⟨u1, u2, u3, h0, h1, h2, h3, h4⟩ := h
    exact ⟨u1, u2, u3, h0, h1.same k, h2.same k, h3.same k, h4⟩
  | n + 15, h => exact trivial
structure CpI (n : Nd) (a1 a2 a3 : Option Addr) (k1 c1 k2 c2 k3 c3 : Nat) (B : Nat) (d : Nat → Bool) (x : Nat → Value) (W : World) : Prop where
  r : ∀ i, d i = true → cpR n a1 a2 a3 k1 c1 k2 c2 k3 c3 B i (x i) W
  ap : d 5 = true → d 9 = true → 0 < k2 → ∀ k, (x 5).ownBlock = some k → (x 9).ownBlock ≠ some k
theorem CpI.step {n : Nd} {a1 a2 a3 : Option Addr} {k1 c1 k2 c2 k3 c3 B : Nat} {d : Nat → Bool} {x : Nat → Value} {W W' : World} (h : CpI n a1 a2 a3 k1 c1 k2 c2 k3 c3 B d x W) {i : Nat} {v : Value} (hv : cpR n a1 a2 a3 k1 c1 k2 c2 k3 c3 B i v W') (k : Same W W') (hap : upd d i true 5 = true → upd d i true 9 = true → 0 < k2 → ∀ k, (upd x i v 5).ownBlock = some k → (upd x i v 9).ownBlock ≠ some k) : CpI n a1 a2 a3 k1 c1 k2 c2 k3 c3 B (upd d i true) (upd x i v) W' := by
  refine ⟨fun j hj => ?_, hap⟩
  unfold upd at hj ⊢
  by_cases he : j = i
  · subst he
    rw [if_pos rfl]
    exact hv
  · rw [if_neg he] at hj ⊢
    exact cpR_same n a1 a2 a3 k1 c1 k2 c2 k3 c3 B j (x j) W W' (h.r j hj) k
def cpF (nv : Value) (B : Nat) (x : Nat → Value) : Act := { tmps := #[nv, .pointer (some ⟨B, 0, none⟩), .pointer (some ⟨B + 1, 0, none⟩), x 0, x 1, x 2, x 3, x 4, x 5, x 6, x 7, x 8, x 9, x 10, x 11, x 12, x 13, x 14], defers := [] }
set_option maxHeartbeats 1000000 in
set_option maxRecDepth 100000 in
theorem copy_any (n : Nd) (a1 a2 a3 : Option Addr) (k1 c1 k2 c2 k3 c3 : Nat) (w : World) (r1 : Row w (.slice a1 k1 c1) (TS n.keys)) (r2 : Row w (.slice a2 k2 c2) (TS n.vals)) (r3 : Row w (.slice a3 k3 c3) (IS n.kids)) (h1 : n.keys.length ≤ 8796093022208) (h2 : n.vals.length ≤ 8796093022208) (h3 : n.kids.length ≤ 17592186044416) :
    Calls Tryd.prog 8 #[.agg #[.bool n.leaf, .slice a1 k1 c1, .slice a2 k2 c2, .slice a3 k3 c3]] w fun e w' => ∃ u, e = .returned u ∧ NF' w.heap.size w' u n ∧ Same w w' := by
  obtain ⟨i0, hi, hz0, hz1, hz2⟩ := info_parts infoS
  obtain ⟨i1, hj, hy0, hy1, hy2⟩ := info_parts infoI
  have e1 := r1.tl
  have e2 := r2.tl
  have e3 := r3.il
  rw [e1] at h1
  rw [e2] at h2
  rw [e3] at h3
  have hmx : Tryd.prog.follows .mixedOrders = true := by kernel_rfl
  have K0 : Same w ((w.alloc (.cells #[.bool n.leaf, .slice a1 k1 c1, .slice a2 k2 c2, .slice a3 k3 c3] 25)).alloc (.cells #[.bool false, .slice none 0 0, .slice none 0 0, .slice none 0 0] 25)) := ((Kept.refl _ w).alloc _).alloc _
  go_enter Tryd.func8, Tryd.ntmps8
  go_wp2
  refine region_grow (m := 15) (F := cpF (.agg #[.bool n.leaf, .slice a1 k1 c1, .slice a2 k2 c2, .slice a3 k3 c3]) w.heap.size) (I := CpI n a1 a2 a3 k1 c1 k2 c2 k3 c3 w.heap.size) hmx (by kernel_rfl) (fun _ => undef) rfl ⟨(fun i h => by cases h), (fun h => by cases h)⟩ ?_ ?_
  · intro i hi15 d x W hsm hdi hdep hI
    have kw := K0.trans hsm
    have g0 := blk_kept hsm (fun h => h) (box_blk w #[.bool n.leaf, .slice a1 k1 c1, .slice a2 k2 c2, .slice a3 k3 c3] (.cells #[.bool false, .slice none 0 0, .slice none 0 0, .slice none 0 0] 25))
    have z0 : W.cell? ⟨w.heap.size, 0, none⟩ = some (.bool n.leaf) := blk_cell g0
    have z1 : W.cell? ⟨w.heap.size, 1, none⟩ = some (.slice a1 k1 c1) := blk_cell g0
    have z2 : W.cell? ⟨w.heap.size, 2, none⟩ = some (.slice a2 k2 c2) := blk_cell g0
    have z3 : W.cell? ⟨w.heap.size, 3, none⟩ = some (.slice a3 k3 c3) := blk_cell g0
    have hBW : w.heap.size ≤ W.heap.size := kw.size
    match i, hi15 with
    | 0, _ =>
      refine wpOp_step rfl (fun K' hK => ?_)
      have HK := hidden hK
      clear hK
      unfold cpF
      go_simp
      exact HK.out _ _ ⟨.pointer (some ⟨w.heap.size, 0, none⟩), (by unfold cpF upd; simp), hI.step (i := 0) (v := .pointer (some ⟨w.heap.size, 0, none⟩)) rfl (Kept.refl _ _) hI.ap, hsm⟩
    | 1, _ =>
      have u0 : x 0 = .pointer (some ⟨w.heap.size, 0, none⟩) := hI.r 0 (hdep 0 (by kernel_rfl))
      refine wpOp_step rfl (fun K' hK => ?_)
      have HK := hidden hK
      clear hK
      unfold cpF
      simp only [u0]
      go_simp
      exact HK.out _ _ ⟨.bool n.leaf, (by unfold cpF upd; simp [u0]), hI.step (i := 1) (v := .bool n.leaf) rfl (Kept.refl _ _) hI.ap, hsm⟩
    | 3, _ =>
      refine wpOp_step rfl (fun K' hK => ?_)
      have HK := hidden hK
      clear hK
      unfold cpF
      go_simp
      exact HK.out _ _ ⟨.pointer (some ⟨w.heap.size, 1, none⟩), (by unfold cpF upd; simp), hI.step (i := 3) (v := .pointer (some ⟨w.heap.size, 1, none⟩)) rfl (Kept.refl _ _) hI.ap, hsm⟩
    | 4, _ =>
      have u3 : x 3 = .pointer (some ⟨w.heap.size, 1, none⟩) := hI.r 3 (hdep 3 (by kernel_rfl))
      refine wpOp_step rfl (fun K' hK => ?_)
      have HK := hidden hK
      clear hK
      unfold cpF
      simp only [u3]
      go_simp
      exact HK.out _ _ ⟨.slice a1 k1 c1, (by unfold cpF upd; simp [u3]), hI.step (i := 4) (v := .slice a1 k1 c1) rfl (Kept.refl _ _) hI.ap, hsm⟩
    | 7, _ =>
      refine wpOp_step rfl (fun K' hK => ?_)
      have HK := hidden hK
      clear hK
      unfold cpF
      go_simp
      exact HK.out _ _ ⟨.pointer (some ⟨w.heap.size, 2, none⟩), (by unfold cpF upd; simp), hI.step (i := 7) (v := .pointer (some ⟨w.heap.size, 2, none⟩)) rfl (Kept.refl _ _) hI.ap, hsm⟩
    | 8, _ =>
      have u7 : x 7 = .pointer (some ⟨w.heap.size, 2, none⟩) := hI.r 7 (hdep 7 (by kernel_rfl))
      refine wpOp_step rfl (fun K' hK => ?_)
      have HK := hidden hK
      clear hK
      unfold cpF
      simp only [u7]
      go_simp
      exact HK.out _ _ ⟨.slice a2 k2 c2, (by unfold cpF upd; simp [u7]), hI.step (i := 8) (v := .slice a2 k2 c2) rfl (Kept.refl _ _) hI.ap, hsm⟩
    | 11, _ =>
      refine wpOp_step rfl (fun K' hK => ?_)
      have HK := hidden hK
      clear hK
      unfold cpF
      go_simp
      exact HK.out _ _ ⟨.pointer (some ⟨w.heap.size, 3, none⟩), (by unfold cpF upd; simp), hI.step (i := 11) (v := .pointer (some ⟨w.heap.size, 3, none⟩)) rfl (Kept.refl _ _) hI.ap, hsm⟩
    | 12, _ =>
      have u11 : x 11 = .pointer (some ⟨w.heap.size, 3, none⟩) := hI.r 11 (hdep 11 (by kernel_rfl))
      refine wpOp_step rfl (fun K' hK => ?_)
      have HK := hidden hK
      clear hK
      unfold cpF
      simp only [u11]
      go_simp
      exact HK.out _ _ ⟨.slice a3 k3 c3, (by unfold cpF upd; simp [u11]), hI.step (i := 12) (v := .slice a3 k3 c3) rfl (Kept.refl _ _) hI.ap, hsm⟩
    | 2, _ =>
      refine wpOp_step rfl (fun K' hK => ?_)
      have HK := hidden hK
      clear hK
      unfold cpF
      go_simp
      exact HK.out _ _ ⟨.slice (some ⟨W.heap.size, 0, none⟩) 0 0, (by unfold cpF upd; simp), hI.step (i := 2) (v := .slice (some ⟨W.heap.size, 0, none⟩) 0 0) ⟨W.heap.size, rfl, hBW, blk_new _ _⟩ (same_alloc _ _) hI.ap, hsm.alloc _⟩
    | 6, _ =>
      refine wpOp_step rfl (fun K' hK => ?_)
      have HK := hidden hK
      clear hK
      unfold cpF
      go_simp
      exact HK.out _ _ ⟨.slice (some ⟨W.heap.size, 0, none⟩) 0 0, (by unfold cpF upd; simp), hI.step (i := 6) (v := .slice (some ⟨W.heap.size, 0, none⟩) 0 0) ⟨W.heap.size, rfl, hBW, blk_new _ _⟩ (same_alloc _ _) hI.ap, hsm.alloc _⟩
    | 10, _ =>
      refine wpOp_step rfl (fun K' hK => ?_)
      have HK := hidden hK
      clear hK
      unfold cpF
      go_simp
      exact HK.out _ _ ⟨.slice (some ⟨W.heap.size, 0, none⟩) 0 0, (by unfold cpF upd; simp), hI.step (i := 10) (v := .slice (some ⟨W.heap.size, 0, none⟩) 0 0) ⟨W.heap.size, rfl, hBW, blk_new _ _⟩ (same_alloc _ _) hI.ap, hsm.alloc _⟩
    | 5, _ =>
      have u4 : x 4 = .slice a1 k1 c1 := hI.r 4 (hdep 4 (by kernel_rfl))
      have m1 : Emp w.heap.size 9 (x 2) W := hI.r 2 (hdep 2 (by kernel_rfl))
      refine wpOp_step rfl (fun K' hK => ?_)
      refine step_emp rfl _ _ 22 rfl w.heap.size 9 i0 (.string ⟨#[]⟩) 16 Tryd.underlying22 hi hz0 hz1 hz2 rfl (x 2) rfl m1 _ k1 _ (TS n.keys) u4 (r1.same kw) (TS_one _) (by unfold maxLen; omega) (by omega) hBW ?_
      intro u W' hu
      refine hK _ _ ⟨u, rfl, hI.step (i := 5) (v := u) hu.apd hu.same ?_, hsm.trans hu.same⟩
      intro _ h9 hk2 k hk1 hk9
      have h9' : d 9 = true := h9
      have a9 : Apd w.heap.size 9 k2 (TS n.vals) (x 9) W := hI.r 9 h9'
      obtain ⟨b9, c9, hx9, o9, _⟩ := a9.out
      have hk1' : u.ownBlock = some k := hk1
      have hk9' : (x 9).ownBlock = some k := hk9
      rw [hx9] at hk9'
      have hlt := own_ltN o9 k hk9'
      rcases Nat.eq_zero_or_pos k1 with h0 | h0
      · obtain ⟨b5, c5, hx5, o5, hc5⟩ := hu.apd.out
        have hc0 := hc5 h0
        rw [hx5] at hk1'
        have o9' := own_kept o9 hu.same (fun _ _ h => h)
        rcases o5.2 with ⟨q1, _⟩ | ⟨g5, cap5, cur5, q1, _, q2, _, _, q3, _⟩
        · rw [q1] at hk1'; cases hk1'
        · rcases o9'.2 with ⟨p1, _⟩ | ⟨g9, cap9, cur9, p1, _, p2, p3, _, p4, _⟩
          · rw [p1] at hk9'; cases hk9'
          · have q1' := q1
            rw [q1] at hk1'
            rw [p1] at hk9'
            simp only [Value.ownBlock, Option.some.injEq] at hk1' hk9'
            subst hk1'
            subst hk9'
            rw [q2] at p2
            simp only [Option.some.injEq, Obj.cells.injEq] at p2
            have : cur5 = cur9 := p2.1
            subst this
            simp only [Value.slice.injEq] at q1'
            omega
      · have := hu.new h0 k hk1'
        omega
    | 9, _ =>
      have u8 : x 8 = .slice a2 k2 c2 := hI.r 8 (hdep 8 (by kernel_rfl))
      have m1 : Emp w.heap.size 9 (x 6) W := hI.r 6 (hdep 6 (by kernel_rfl))
      refine wpOp_step rfl (fun K' hK => ?_)
      refine step_emp rfl _ _ 22 rfl w.heap.size 9 i0 (.string ⟨#[]⟩) 16 Tryd.underlying22 hi hz0 hz1 hz2 rfl (x 6) rfl m1 _ k2 _ (TS n.vals) u8 (r2.same kw) (TS_one _) (by unfold maxLen; omega) (by omega) hBW ?_
      intro u W' hu
      refine hK _ _ ⟨u, rfl, hI.step (i := 9) (v := u) hu.apd hu.same ?_, hsm.trans hu.same⟩
      intro h5 _ hk2 k hk5 hk1
      have h5' : d 5 = true := h5
      have a5 : Apd w.heap.size 9 k1 (TS n.keys) (x 5) W := hI.r 5 h5'
      obtain ⟨b5, c5, hx5, o5, _⟩ := a5.out
      have hk5' : (x 5).ownBlock = some k := hk5
      rw [hx5] at hk5'
      have hlt := own_ltN o5 k hk5'
      have := hu.new hk2 k hk1
      omega
    | 13, _ =>
      have u12 : x 12 = .slice a3 k3 c3 := hI.r 12 (hdep 12 (by kernel_rfl))
      have m1 : Emp w.heap.size 3 (x 10) W := hI.r 10 (hdep 10 (by kernel_rfl))
      refine wpOp_step rfl (fun K' hK => ?_)
      refine step_emp rfl _ _ 23 rfl w.heap.size 3 i1 (.int .i64 0) 8 Tryd.underlying23 hj hy0 hy1 hy2 rfl (x 10) rfl m1 _ k3 _ (IS n.kids) u12 (r3.same kw) (IS_one _) (by unfold maxLen; omega) (by omega) hBW ?_
      intro u W' hu
      refine hK _ _ ⟨u, rfl, hI.step (i := 13) (v := u) hu.apd hu.same ?_, hsm.trans hu.same⟩
      exact hI.ap
    | 14, _ =>
      have u1 : x 1 = .bool n.leaf := hI.r 1 (hdep 1 (by kernel_rfl))
      have d5 := hdep 5 (by kernel_rfl)
      have d9 := hdep 9 (by kernel_rfl)
      have m5 : Apd w.heap.size 9 k1 (TS n.keys) (x 5) W := hI.r 5 d5
      have m9 : Apd w.heap.size 9 k2 (TS n.vals) (x 9) W := hI.r 9 d9
      have m13 : Apd w.heap.size 3 k3 (IS n.kids) (x 13) W := hI.r 13 (hdep 13 (by kernel_rfl))
      have hap := hI.ap d5 d9
      obtain ⟨b5, c5, hx5, o5⟩ := m5.out
      obtain ⟨b9, c9, hx9, o9⟩ := m9.out
      obtain ⟨b13, c13, hx13, o13⟩ := m13.out
      refine wpOp_step rfl (fun K' hK => ?_)
      have HK := hidden hK
      clear hK
      unfold cpF
      simp only [u1, hx5, hx9, hx13]
      go_simp
      rw [hx5] at m5 hap
      rw [hx9] at m9 hap
      rw [hx13] at m13
      exact HK.out _ _ ⟨.agg #[.bool n.leaf, .slice b5 k1 c5, .slice b9 k2 c9, .slice b13 k3 c13], (by unfold cpF upd; simp [u1, hx5, hx9, hx13]), hI.step (i := 14) (v := .agg #[.bool n.leaf, .slice b5 k1 c5, .slice b9 k2 c9, .slice b13 k3 c13]) ⟨_, _, _, rfl, m5, m9, m13, hap⟩ (Kept.refl _ _) hI.ap, hsm⟩
    | q + 15, h => exact absurd h (by omega)
  · intro d x W hsm hall hI
    have m14 : cpR n a1 a2 a3 k1 c1 k2 c2 k3 c3 w.heap.size 14 (x 14) W := hI.r 14 (hall 14 (by decide))
    obtain ⟨v1, v2, v3, hx14, m5, m9, m13, hap⟩ := m14
    obtain ⟨b1, d1, rfl, o1, _⟩ := m5.out
    obtain ⟨b2, d2, rfl, o2, _⟩ := m9.out
    obtain ⟨b3, d3, rfl, o3, _⟩ := m13.out
    have g1 := blk_kept hsm (fun h => h) (zero_blk w #[.bool n.leaf, .slice a1 k1 c1, .slice a2 k2 c2, .slice a3 k3 c3])
    have s0 : W.cell? ⟨w.heap.size + 1, 0, none⟩ = some (.bool false) := blk_cell g1
    have s1 : W.cell? ⟨w.heap.size + 1, 1, none⟩ = some (.slice none 0 0) := blk_cell g1
    have s2 : W.cell? ⟨w.heap.size + 1, 2, none⟩ = some (.slice none 0 0) := blk_cell g1
    have s3 : W.cell? ⟨w.heap.size + 1, 3, none⟩ = some (.slice none 0 0) := blk_cell g1
    have f0 : W.frozen? ⟨w.heap.size + 1, 0, none⟩ = false := blk_free g1
    have f1 : W.frozen? ⟨w.heap.size + 1, 1, none⟩ = false := blk_free g1
    have f2 : W.frozen? ⟨w.heap.size + 1, 2, none⟩ = false := blk_free g1
    have f3 : W.frozen? ⟨w.heap.size + 1, 3, none⟩ = false := blk_free g1
    have G1 := hidden g1
    have KK := hidden (K0.trans hsm)
    refine wpOp_step rfl (fun K' hK => ?_)
    have HK := hidden hK
    clear hK
    unfold cpF
    simp only [hx14]
    go_simp
    refine HK.out _ _ ?_
    have gf := fill4 G1.out (.bool n.leaf) (.slice b1 k1 d1) (.slice b2 k2 d2) (.slice b3 k3 d3)
    have kf := kept_fill4 (W := W) (g := w.heap.size + 1) (.bool n.leaf) (.slice b1 k1 d1) (.slice b2 k2 d2) (.slice b3 k3 d3)
    have sf := same_fill4 KK.out (g := w.heap.size + 1) (by omega) (.bool n.leaf) (.slice b1 k1 d1) (.slice b2 k2 d2) (.slice b3 k3 d3)
    generalize (((W.setCell ⟨w.heap.size + 1, 0, none⟩ (.bool n.leaf)).setCell ⟨w.heap.size + 1, 1, none⟩ (.slice b1 k1 d1)).setCell ⟨w.heap.size + 1, 2, none⟩ (.slice b2 k2 d2)).setCell ⟨w.heap.size + 1, 3, none⟩ (.slice b3 k3 d3) = WF at gf kf sf ⊢
    have q0 : WF.cell? ⟨w.heap.size + 1, 0, none⟩ = some (.bool n.leaf) := blk_cell gf
    have q1 : WF.cell? ⟨w.heap.size + 1, 1, none⟩ = some (.slice b1 k1 d1) := blk_cell gf
    have q2 : WF.cell? ⟨w.heap.size + 1, 2, none⟩ = some (.slice b2 k2 d2) := blk_cell gf
    have q3 : WF.cell? ⟨w.heap.size + 1, 3, none⟩ = some (.slice b3 k3 d3) := blk_cell gf
    have O1 := hidden o1
    have O2 := hidden o2
    have O3 := hidden o3
    have HAP := hidden hap
    have SF := hidden sf
    have KF := hidden kf
    have GN := hidden g1
    have E1 := hidden e1
    have E2 := hidden e2
    have E3 := hidden e3
    clear o1 o2 o3 hap sf kf gf e1 e2 e3 hI hall hx14 s0 s1 s2 s3 f0 f1 f2 f3 g1 HK
    go_wp2
    have e1 := E1.out
    have e2 := E2.out
    have e3 := E3.out
    subst e1 e2 e3
    refine bodyPost_ret (v := .agg #[.bool n.leaf, .slice b1 n.keys.length d1, .slice b2 n.vals.length d2, .slice b3 n.kids.length d3]) (by simp [results, Tryd.results8, go_sem, q0, q1, q2, q3]) rfl ⟨_, rfl, ⟨b1, b2, b3, d1, d2, d3, rfl, ?_, ?_, ?_, HAP.out⟩, SF.out⟩
    · exact own_kept O1.out KF.out (fun k hk hs => own_apart O1.out GN.out (by decide) (by have e : k = w.heap.size + 1 := hs; rw [← e]; exact hk))
    · exact own_kept O2.out KF.out (fun k hk hs => own_apart O2.out GN.out (by decide) (by have e : k = w.heap.size + 1 := hs; rw [← e]; exact hk))
    · exact own_kept O3.out KF.out (fun k hk hs => own_apart O3.out GN.out (by decide) (by have e : k = w.heap.size + 1 := hs; rw [← e]; exact hk))
end Go.Proofs.YtpjgghalnkfdkaaDoor
