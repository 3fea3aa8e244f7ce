/- node: NodeMaps: what stands between the rounds; its region 11. (Made by mkn34.py.) -/
import Derived.Test.YtilnogadopmboaaDoorN33
namespace Go.Proofs.YtilnogadopmboaaDoor
open Go.RowKit
set_option linter.unusedVariables false
set_option linter.unusedSimpArgs false
/-- What stands ahead of a round: the leaf in its box, the law's own two rows. -/
structure MI (w : World) (BN : Nat) (m : Nd) (kl vl : List ByteArray) (a1 a2 a3 ka va : Option Addr) (k c1 c2 c3 kc vc : Nat) (wr : World) : Prop where
  good : m.Good
  len : m.keys.length = k
  box : wr.heap[BN]? = some (.cells #[.bool true, .slice a1 k c1, .slice a2 k c2, .slice a3 0 c3] 25 (0, 0))
  r1 : Row wr (.slice a1 k c1) (TS m.keys)
  r2 : Row wr (.slice a2 k c2) (TS m.vals)
  r3 : Row wr (.slice a3 0 c3) (IS m.kids)
  ks : wr.ownsRow (BN + 1) 9 1 (.slice ka k kc) k (TS kl)
  vs : wr.ownsRow (BN + 1) 9 1 (.slice va k vc) k (TS vl)
  ap : ∀ g, (Value.slice ka k kc).ownBlock = some g → (Value.slice va k vc).ownBlock ≠ some g
  same : Same w wr
  bn : w.heap.size ≤ BN
theorem MI.keep {w : World} {BN : Nat} {m : Nd} {kl vl : List ByteArray} {a1 a2 a3 ka va : Option Addr} {k c1 c2 c3 kc vc : Nat} {W W' : World} (h : MI w BN m kl vl a1 a2 a3 ka va k c1 c2 c3 kc vc W) (q : Same W W') : MI w BN m kl vl a1 a2 a3 ka va k c1 c2 c3 kc vc W' :=
  ⟨h.good, h.len, blk_kept q (fun h => h) h.box, h.r1.same q, h.r2.same q, h.r3.same q, own_kept h.ks q (fun _ _ h => h), own_kept h.vs q (fun _ _ h => h), h.ap, h.same.trans q, h.bn⟩
theorem cell_same {w W : World} (k : Same w W) {p : Addr} {v : Value} (h : w.cell? p = some v) : W.cell? p = some v := k.cell (fun h => h) h
/-- The node's box is filled anew. -/
theorem mi_fill {w W : World} {BN k B C D : Nat} {m : Nd} {kl vl : List ByteArray} {b1 b2 b3 ka va : Option Addr} {d1 d2 d3 kc vc : Nat} {z0 z1 z2 z3 : Value} (hg : m.Good) (hl : m.keys.length = k) (hb : W.heap[BN]? = some (.cells #[z0, z1, z2, z3] 25 (0, 0)))
    (o1 : W.ownsRow B 9 1 (.slice b1 k d1) k (TS m.keys)) (o2 : W.ownsRow B 9 1 (.slice b2 k d2) k (TS m.vals)) (o3 : W.ownsRow B 3 1 (.slice b3 0 d3) 0 (IS m.kids))
    (ks : W.ownsRow C 9 1 (.slice ka k kc) k (TS kl)) (hC : BN + 1 ≤ C) (vs : W.ownsRow D 9 1 (.slice va k vc) k (TS vl)) (hD : BN + 1 ≤ D)
    (ap : ∀ g, (Value.slice ka k kc).ownBlock = some g → (Value.slice va k vc).ownBlock ≠ some g) (same : Same w W) (bn : w.heap.size ≤ BN) :
    MI w BN m kl vl b1 b2 b3 ka va k d1 d2 d3 kc vc ((((W.setCell ⟨BN, 0, none⟩ (.bool true)).setCell ⟨BN, 1, none⟩ (.slice b1 k d1)).setCell ⟨BN, 2, none⟩ (.slice b2 k d2)).setCell ⟨BN, 3, none⟩ (.slice b3 0 d3)) := by
  have kf := kept_fill4 (W := W) (g := BN) (.bool true) (.slice b1 k d1) (.slice b2 k d2) (.slice b3 0 d3)
  refine ⟨hg, hl, fill4 hb _ _ _ _, Row.own (own_kept o1 kf (fun g hk hs => ?_)), Row.own (own_kept o2 kf (fun g hk hs => ?_)), Row.own (own_kept o3 kf (fun g hk hs => ?_)), own_mono (own_kept ks kf (fun g hk hs => ?_)) hC, own_mono (own_kept vs kf (fun g hk hs => ?_)) hD, ap, same_fill4 same bn _ _ _ _, bn⟩
  · have e : g = BN := hs
    exact own_apart o1 hb (by decide) (by rw [← e]; exact hk)
  · have e : g = BN := hs
    exact own_apart o2 hb (by decide) (by rw [← e]; exact hk)
  · have e : g = BN := hs
    exact own_apart o3 hb (by decide) (by rw [← e]; exact hk)
  · have e : g = BN := hs
    exact own_apart ks hb (by decide) (by rw [← e]; exact hk)
  · have e : g = BN := hs
    exact own_apart vs hb (by decide) (by rw [← e]; exact hk)
/-- A text in the law's second row is put anew. -/
theorem mi_set {w W : World} {BN k B : Nat} {m : Nd} {kl vl : List ByteArray} {b1 b2 b3 ka va : Option Addr} {d1 d2 d3 kc vc gv p : Nat} {x : ByteArray} (h : MI w BN m kl vl b1 b2 b3 ka va k d1 d2 d3 kc vc W) (hv : va = some ⟨gv, 0, none⟩) (hB : gv < B)
    (o1 : W.ownsRow B 9 1 (.slice b1 k d1) k (TS m.keys)) (o2 : W.ownsRow B 9 1 (.slice b2 k d2) k (TS m.vals)) (o3 : W.ownsRow B 3 1 (.slice b3 0 d3) 0 (IS m.kids)) :
    MI w BN m kl (vl.set p x) b1 b2 b3 ka va k d1 d2 d3 kc vc (W.setCell ⟨gv, p, none⟩ (.string x)) := by
  subst hv
  have ks : Kept (only gv) W (W.setCell ⟨gv, p, none⟩ (.string x)) := (Kept.refl (only gv) W).setCell (p := ⟨gv, p, none⟩) rfl _
  have hge : BN + 1 ≤ gv := own_geN h.vs gv rfl
  have hz : w.heap.size ≤ gv := by have := h.bn; omega
  refine ⟨h.good, h.len, blk_kept ks (by show ¬ BN = gv; omega) h.box, Row.own (own_kept o1 ks (fun g hk hs => ?_)), Row.own (own_kept o2 ks (fun g hk hs => ?_)), Row.own (own_kept o3 ks (fun g hk hs => ?_)), own_kept h.ks ks (fun g hk hs => ?_), ?_, h.ap, h.same.setNew (p := ⟨gv, p, none⟩) hz _, h.bn⟩
  · have e : g = gv := hs
    have := own_geN o1 g hk
    omega
  · have e : g = gv := hs
    have := own_geN o2 g hk
    omega
  · have e : g = gv := hs
    have := own_geN o3 g hk
    omega
  · have e : g = gv := hs
    exact h.ap g hk (by rw [e]; rfl)
  · have := own_setN (i := p) h.vs (.string x)
    have e : (TS vl).set p (.string x) = TS (vl.set p x) := by
      unfold TS
      rw [List.map_set]
    rw [e] at this
    exact this
/-- A node that Remove or Put told, opened. -/
theorem nf_open {B : Nat} {W : World} {v : Array Value} {n : Nd} {k : Nat} (h : NF B W (.agg v) n) (hg : n.Good) (hk : n.keys.length = k) : ∃ b1 b2 b3 d1 d2 d3, v = #[.bool true, .slice b1 k d1, .slice b2 k d2, .slice b3 0 d3] ∧ W.ownsRow B 9 1 (.slice b1 k d1) k (TS n.keys) ∧ W.ownsRow B 9 1 (.slice b2 k d2) k (TS n.vals) ∧ W.ownsRow B 3 1 (.slice b3 0 d3) 0 (IS n.kids) := by
  obtain ⟨a1, a2, a3, c1, c2, c3, h0, h1, h2, h3, _⟩ := h.out
  have e1 : n.vals.length = k := by rw [hg.len, hk]
  have e2 : n.kids.length = 0 := by rw [hg.kids]; rfl
  rw [hk] at h0 h1
  rw [e1] at h0 h2
  rw [e2] at h0 h3
  rw [hg.leaf] at h0
  exact ⟨a1, a2, a3, c1, c2, c3, by injection h0, h1, h2, h3⟩
set_option maxHeartbeats 2000000 in
set_option maxRecDepth 100000 in
theorem rg11 {Q : Exit → Act → World → Prop} {w : World} {v1 v2 v3 v5 v8 v9 v10 v11 v12 v13 v14 v15 : Value} {j : Nat → Value} {ka : Option Addr} {k kc p ob oo N oc i0 : Nat} {l : List ByteArray} {key : ByteArray} {hs : Bool} {ops : Array Oper} (hops : findR 11 (Tryd.f7.body.getD .skip) = some ops) (hr : Row w (.slice ka k kc) (TS l)) (hl : l.length = k) (hp : p ≤ k) (hi0 : i0 < N)
    (hx : w.cell? ⟨ob, oo + i0 * 3, none⟩ = some (.string key)) (h1 : ∀ (h : p < l.length), hs = (l[p].toList == key.toList)) (h2 : p = k → hs = false)
    (hQ : ∀ j' W, Same w W → Q .normal (mpS (.slice (some ⟨ob, oo, none⟩) N oc) v1 v2 v3 (.slice ka k kc) v5 (.int .i64 (i0 : Int)) (.int .i64 (p : Int)) (.bool hs) v9 v10 v11 v12 v13 v14 v15 j') W) : (Code.region 11 ops true).wp Tryd.prog Q (mpS (.slice (some ⟨ob, oo, none⟩) N oc) v1 v2 v3 (.slice ka k kc) v5 (.int .i64 (i0 : Int)) (.int .i64 (p : Int)) v8 v9 v10 v11 v12 v13 v14 v15 j) w := by
  cases hops
  have q1 : (i0 : Int) < (N : Int) := by omega
  have q0 : (0 : Int) ≤ (i0 : Int) := Int.natCast_nonneg _
  have KQ := hidden hQ
  clear hQ
  by_cases hlt : p < k
  · obtain ⟨kb, ko, rfl, hc⟩ := hr.text (j := p) (by omega)
    have he := h1 (by omega)
    obtain ⟨y, hy⟩ : ∃ y, l[p]'(by omega) = y := ⟨_, rfl⟩
    rw [hy] at hc he
    have t1 : (p : Int) < (k : Int) := by omega
    have t1d : decide ((p : Int) < (k : Int)) = true := by simp; omega
    have t1e : decide (p < k) = true := by simp; omega
    have t0 : (0 : Int) ≤ (p : Int) := Int.natCast_nonneg _
    have he' : (y.toList == key.toList) = hs := he.symm
    clear h1 h2 hr hl hy he
    unfold mpS
    dsimp only
    go_quiet (fail)
    refine to_mpK (K := fun a w => Q .normal a w) rfl (fun j' => KQ.out j' _ ?_)
    exact (Kept.refl _ w).drewN _
  · have he := h2 (by omega)
    have t1 : ¬ (p : Int) < (k : Int) := by omega
    have t1d : decide ((p : Int) < (k : Int)) = false := by simp; omega
    have t1e : decide (p < k) = false := by simp; omega
    clear hp hlt
    subst he
    clear h1 h2 hr hl
    unfold mpS
    dsimp only
    go_quiet (fail)
    refine to_mpK (K := fun a w => Q .normal a w) rfl (fun j' => KQ.out j' _ ?_)
    exact (Kept.refl _ w).drewN _
end Go.Proofs.YtilnogadopmboaaDoor
