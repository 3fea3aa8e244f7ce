/- the document's Copy of a node: a region of sixteen operations that draws its order, by RegG. -/
import Derived.Test.YtpjgghalnkfdkaaDoorRegG
namespace Go.Proofs.YtpjgghalnkfdkaaDoor
open Go.RowKit
set_option linter.unusedVariables false
set_option linter.unusedSimpArgs false
/-- An empty slice in a block of its own; a row that was appended to one. -/
structure Emp (B : Nat) (e : TypeId) (v : Value) (W : World) : Prop where
  out : ∃ g, v = .slice (some ⟨g, 0, none⟩) 0 0 ∧ B ≤ g ∧ W.heap[g]? = some (.cells #[] e (0, 0))
structure Apd (B : Nat) (e : TypeId) (k : Nat) (L : List Value) (v : Value) (W : World) : Prop where
  out : ∃ a c, v = .slice a k c ∧ W.ownsRow B e 1 (.slice a k c) k L ∧ (k = 0 → c = 0)
theorem Emp.same {B : Nat} {e : TypeId} {v : Value} {W W' : World} (h : Emp B e v W) (k : Same W W') : Emp B e v W' := by
  obtain ⟨g, h1, h2, h3⟩ := h.out
  exact ⟨g, h1, h2, blk_kept k (fun h => h) h3⟩
theorem Apd.same {B : Nat} {e : TypeId} {n : Nat} {L : List Value} {v : Value} {W W' : World} (h : Apd B e n L v W) (k : Same W W') : Apd B e n L v W' := by
  obtain ⟨a, c, h1, h2, h3⟩ := h.out
  exact ⟨a, c, h1, own_kept h2 k (fun _ _ h => h), h3⟩
theorem Emp.own {B : Nat} {e : TypeId} {v : Value} {W : World} (h : Emp B e v W) : W.ownsRow B e 1 v 0 [] := by
  obtain ⟨g, rfl, h2, h3⟩ := h.out
  exact ⟨rfl, .inr ⟨g, 0, #[], rfl, h2, h3, Nat.le_refl _, by decide, rfl, rfl⟩⟩
/-- What an append to an empty slice tells. -/
structure ApW (B : Nat) (e : TypeId) (k : Nat) (L : List Value) (v u : Value) (W W' : World) : Prop where
  apd : Apd B e k L u W'
  same : Same W W'
  new : 0 < k → ∀ g, u.ownBlock = some g → g = W.heap.size
theorem step_emp {P : Program} {W : World} {ops : Array Oper} {o : Oper} {a : Act} {K : Act → World → Prop} {Q : Exit → Act → World → Prop} {E : Prop} (hgd : o.guard = none) (s x : Operand) (t : TypeId)
    (ho : o.op = .call { callee := .builtin .append, args := #[s, x], argTypes := #[t, t] })
    (B : Nat) (e : TypeId) (i : TypeInfo) (z : Value) (bytes : Nat) (ht : P.underlying t = some (.slice e)) (hi : P.info? e = some i) (hz : i.zero = some z)
    (hsize : i.size = 1) (hby : i.bytes = bytes) (hzs : z.cells.size = 1)
    (v : Value) (hs : a.eval s = v) (hv : Emp B e v W)
    (ao : Option Addr) (k c : Nat) (L : List Value) (hx : a.eval x = .slice ao k c) (hr : Row W (.slice ao k c) L) (h1 : ∀ u ∈ L, u.oneCell' = true)
    (h63 : 0 + k ≤ maxLen) (hbytes : (0 + k) * bytes ≤ 140737488355328) (hB : B ≤ W.heap.size)
    (h : ∀ u W', ApW B e k L v u W W' → K (a.put o.dst u) W') :
    if Region.wanted o (yielded ops a.tmps) = true then Oper.wp P o a W K Q else E := by
  have hem := hv
  obtain ⟨g, hve, hg1, hg2⟩ := hv.out
  have hl := hr.len.1
  rcases Nat.eq_zero_or_pos k with hk | hk
  · subst hk
    have hn0 : L = [] := List.length_eq_zero_iff.1 hl.symm
    subst hn0
    subst hve
    have hw : Region.wanted o (yielded ops a.tmps) = true := by simp [Region.wanted, hgd]
    rw [if_pos hw]
    unfold Oper.wp execOp
    simp only [ho, resolve, invoke, builtin, Sem.run_bind, Sem.run_pure, Result.andThen_ok, List.map_toArray, List.map_cons, List.map_nil, hs, hx, run_append_none W t o.type e i ht hi (some ⟨g, 0, none⟩) 0 0 ao c (Nat.le_refl _)]
    exact h _ _ ⟨⟨some ⟨g, 0, none⟩, 0, rfl, hem.own, fun _ => rfl⟩, Kept.refl _ _, fun h => by omega⟩
  · subst hve
    obtain ⟨ad, rfl, hcells⟩ := hr.lies hk
    have hrun := run_append_grow (P := P) W t o.type e i z ht hi hz ⟨g, 0, none⟩ 0 0 [] (by simp) (fun j v hj => by simp at hj) ad k c L (by rw [hsize]; omega) hcells (by omega) (by unfold maxLen at h63; omega) (growslice_fits (by omega) (by rw [hby]; exact hbytes))
    have hge := grownCap_ge W (0 + k) 0 e
    have hle := grownCap_le_maxLen W (0 + k) 0 e h63
    generalize grownCap W (0 + k) 0 e = G at *
    have hw : Region.wanted o (yielded ops a.tmps) = true := by simp [Region.wanted, hgd]
    rw [if_pos hw]
    unfold Oper.wp execOp
    simp only [ho, resolve, invoke, builtin, Sem.run_bind, Sem.run_pure, Result.andThen_ok, List.map_toArray, List.map_cons, List.map_nil, hs, hx, hrun]
    rw [Nat.zero_add] at hge ⊢
    refine h _ _ ⟨⟨some ⟨W.heap.size, 0, none⟩, G, rfl, ⟨by omega, .inr ⟨W.heap.size, G, _, rfl, hB, blk_new W.drew _, hge, hle, ?_, ?_⟩⟩, fun h => by omega⟩, ((Kept.refl _ W).drew).alloc _, fun _ q hq => by simpa [Value.ownBlock] using hq.symm⟩
    · simp [size_zeroCells, hzs]
      omega
    · simp only [Array.toList_append, List.nil_append, Nat.mul_one]
      rw [List.take_append_of_le_length (by omega), List.take_of_length_le (by omega)]
/-- A node in rows of its own; texts and values lie apart where there are values. -/
structure NF' (B : Nat) (w : World) (u : Value) (n : Nd) : Prop where
  out : ∃ a1 a2 a3 c1 c2 c3, u = .agg #[.bool n.leaf, .slice a1 n.keys.length c1, .slice a2 n.vals.length c2, .slice a3 n.kids.length c3] ∧
    w.ownsRow B 9 1 (.slice a1 n.keys.length c1) n.keys.length (TS n.keys) ∧ w.ownsRow B 9 1 (.slice a2 n.vals.length c2) n.vals.length (TS n.vals) ∧ w.ownsRow B 3 1 (.slice a3 n.kids.length c3) n.kids.length (IS n.kids) ∧ (0 < n.vals.length → ∀ k, (Value.slice a1 n.keys.length c1).ownBlock = some k → (Value.slice a2 n.vals.length c2).ownBlock ≠ some k)
end Go.Proofs.YtpjgghalnkfdkaaDoor
