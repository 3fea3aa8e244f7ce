/- node: a node that is being built in a box, while its rows grow. (Made by mkne10.py.) -/
import Derived.Test.YtpjgghalnkfdkaaDoorNE9
namespace Go.Proofs.YtpjgghalnkfdkaaDoor
open Go.RowKit
set_option linter.unusedVariables false
set_option linter.unusedSimpArgs false
/-- The box of the node, behind the result's box; its rows lie from B on. -/
structure NdB (w : World) (B : Nat) (lf : Bool) (K V : List ByteArray) (Z : List Int) (a1 a2 a3 : Option Addr) (k1 c1 k2 c2 k3 c3 : Nat) (W : World) : Prop where
  bx : W.heap[w.heap.size + 1]? = some (.cells #[.bool lf, .slice a1 k1 c1, .slice a2 k2 c2, .slice a3 k3 c3] 25 (0, 0))
  rs : W.heap[w.heap.size]? = some (.cells #[.bool false, .slice none 0 0, .slice none 0 0, .slice none 0 0] 25 (0, 0))
  o1 : W.ownsRow B 9 1 (.slice a1 k1 c1) k1 (TS K)
  o2 : W.ownsRow B 9 1 (.slice a2 k2 c2) k2 (TS V)
  o3 : W.ownsRow B 3 1 (.slice a3 k3 c3) k3 (IS Z)
  ap : ∀ k, (Value.slice a1 k1 c1).ownBlock = some k → (Value.slice a2 k2 c2).ownBlock ≠ some k
  sm : Same w W
  b0 : w.heap.size + 2 ≤ B
  b1 : B ≤ W.heap.size
theorem NdB.kept {w : World} {B : Nat} {lf : Bool} {K V : List ByteArray} {Z : List Int} {a1 a2 a3 : Option Addr} {k1 c1 k2 c2 k3 c3 : Nat} {W W' : World} {S : Nat → Prop} (h : NdB w B lf K V Z a1 a2 a3 k1 c1 k2 c2 k3 c3 W) (k : Kept S W W') (hS : ∀ i, S i → w.heap.size + 2 ≤ i ∧ i < B) : NdB w B lf K V Z a1 a2 a3 k1 c1 k2 c2 k3 c3 W' :=
  ⟨blk_kept k (fun e => by have := hS _ e; omega) h.bx, blk_kept k (fun e => by have := hS _ e; omega) h.rs, own_kept h.o1 k (fun q hq e => by have := own_geN h.o1 q hq; have := hS _ e; omega), own_kept h.o2 k (fun q hq e => by have := own_geN h.o2 q hq; have := hS _ e; omega), own_kept h.o3 k (fun q hq e => by have := own_geN h.o3 q hq; have := hS _ e; omega), h.ap, h.sm.trans' k (fun i hi e => by have := hS _ e; omega), h.b0, Nat.le_trans h.b1 k.size⟩
theorem NdB.same {w : World} {B : Nat} {lf : Bool} {K V : List ByteArray} {Z : List Int} {a1 a2 a3 : Option Addr} {k1 c1 k2 c2 k3 c3 : Nat} {W W' : World} (h : NdB w B lf K V Z a1 a2 a3 k1 c1 k2 c2 k3 c3 W) (k : Same W W') : NdB w B lf K V Z a1 a2 a3 k1 c1 k2 c2 k3 c3 W' := h.kept k (fun i e => e.elim)
theorem NdB.len {w : World} {B : Nat} {lf : Bool} {K V : List ByteArray} {Z : List Int} {a1 a2 a3 : Option Addr} {k1 c1 k2 c2 k3 c3 : Nat} {W : World} (h : NdB w B lf K V Z a1 a2 a3 k1 c1 k2 c2 k3 c3 W) : K.length = k1 ∧ V.length = k2 ∧ Z.length = k3 := by
  have h1 := h.o1.1
  have h2 := h.o2.1
  have h3 := h.o3.1
  rw [TS_len] at h1 h2
  rw [IS_len] at h3
  omega
theorem NdB.ndr {w : World} {B : Nat} {lf : Bool} {K V : List ByteArray} {Z : List Int} {a1 a2 a3 : Option Addr} {k1 c1 k2 c2 k3 c3 : Nat} {W : World} (h : NdB w B lf K V Z a1 a2 a3 k1 c1 k2 c2 k3 c3 W) : NdR W (.agg #[.bool lf, .slice a1 k1 c1, .slice a2 k2 c2, .slice a3 k3 c3]) ⟨lf, K, V, Z⟩ := by
  obtain ⟨e1, e2, e3⟩ := h.len
  exact ⟨a1, a2, a3, c1, c2, c3, by rw [e1, e2, e3], by rw [e1]; exact Row.own h.o1, by rw [e2]; exact Row.own h.o2, by rw [e3]; exact Row.own h.o3⟩
/-- The node is told: only the result's box is written; its rows are new. -/
theorem NdB.fin {w : World} {B : Nat} {lf : Bool} {K V : List ByteArray} {Z : List Int} {a1 a2 a3 : Option Addr} {k1 c1 k2 c2 k3 c3 : Nat} {W W' : World} (h : NdB w B lf K V Z a1 a2 a3 k1 c1 k2 c2 k3 c3 W) (k : Kept (only w.heap.size) W W') : (∀ W'', Kept (fun i => i < w.heap.size) W' W'' → NdR W'' (.agg #[.bool lf, .slice a1 k1 c1, .slice a2 k2 c2, .slice a3 k3 c3]) ⟨lf, K, V, Z⟩) ∧ Same w W' := by
  obtain ⟨e1, e2, e3⟩ := h.len
  have hb := h.b0
  refine ⟨fun W'' k'' => ?_, h.sm.trans' k (fun i hi e => by have e : i = w.heap.size := e; omega)⟩
  have k2 : Kept (fun i => i < w.heap.size + 2) W W'' := (k.mono (fun i _ e => by have e : i = w.heap.size := e; omega)).trans (k''.mono (fun i _ (e : i < w.heap.size) => by omega))
  have p1 := own_kept h.o1 k2 (fun q hq (e : q < w.heap.size + 2) => by have := own_geN h.o1 q hq; omega)
  have p2 := own_kept h.o2 k2 (fun q hq (e : q < w.heap.size + 2) => by have := own_geN h.o2 q hq; omega)
  have p3 := own_kept h.o3 k2 (fun q hq (e : q < w.heap.size + 2) => by have := own_geN h.o3 q hq; omega)
  exact ⟨a1, a2, a3, c1, c2, c3, by rw [e1, e2, e3], by rw [e1]; exact Row.own p1, by rw [e2]; exact Row.own p2, by rw [e3]; exact Row.own p3⟩
/-- How many keys a box's node has. -/
def kLen (w : World) (g : Nat) : Nat := match w.cell? ⟨g, 1, none⟩ with | some (.slice _ n _) => n | _ => 0
theorem NdB.klen {w : World} {B : Nat} {lf : Bool} {K V : List ByteArray} {Z : List Int} {a1 a2 a3 : Option Addr} {k1 c1 k2 c2 k3 c3 : Nat} {W : World} (h : NdB w B lf K V Z a1 a2 a3 k1 c1 k2 c2 k3 c3 W) : kLen W (w.heap.size + 1) = k1 := by
  have : W.cell? ⟨w.heap.size + 1, 1, none⟩ = some (.slice a1 k1 c1) := blk_cell h.bx
  unfold kLen
  rw [this]
/-- One more key. -/
theorem NdB.key {w : World} {B : Nat} {lf : Bool} {K V : List ByteArray} {Z : List Int} {a1 a2 a3 : Option Addr} {k1 c1 k2 c2 k3 c3 : Nat} {W W' : World} (h : NdB w B lf K V Z a1 a2 a3 k1 c1 k2 c2 k3 c3 W) {x : ByteArray} {a' : Option Addr} {c' : Nat} (o : W'.ownsRow B 9 1 (.slice a' (k1 + 1) c') (k1 + 1) (TS (K ++ [x]))) (hg : W.grownBy W' (Value.slice a1 k1 c1).ownBlock) (hn : ∀ g, (Value.slice a' (k1 + 1) c').ownBlock = some g → (Value.slice a1 k1 c1).ownBlock = some g ∨ g = W.heap.size) :
    W'.cell? ⟨w.heap.size + 1, 1, none⟩ = some (.slice a1 k1 c1) ∧ W'.frozen? ⟨w.heap.size + 1, 1, none⟩ = false ∧ NdB w B lf (K ++ [x]) V Z a' a2 a3 (k1 + 1) c' k2 c2 k3 c3 (W'.setCell ⟨w.heap.size + 1, 1, none⟩ (.slice a' (k1 + 1) c')) ∧ Kept (fun i => B ≤ i ∨ i = w.heap.size + 1) W (W'.setCell ⟨w.heap.size + 1, 1, none⟩ (.slice a' (k1 + 1) c')) := by
  have k1' : Kept (fun i => (Value.slice a1 k1 c1).ownBlock = some i) W W' := (Kept.refl _ W).grown hg (fun q e _ => e)
  have hb := blk_kept k1' (fun e => by have := own_geN h.o1 _ e; have := h.b0; omega) h.bx
  have k2' : Kept (fun i => (Value.slice a1 k1 c1).ownBlock = some i ∨ i = w.heap.size + 1) W (W'.setCell ⟨w.heap.size + 1, 1, none⟩ (.slice a' (k1 + 1) c')) := (k1'.mono (fun _ _ e => .inl e)).setCell (p := ⟨w.heap.size + 1, 1, none⟩) (.inr rfl) _
  have k3' : Kept (fun i => B ≤ i ∨ i = w.heap.size + 1) W (W'.setCell ⟨w.heap.size + 1, 1, none⟩ (.slice a' (k1 + 1) c')) := k2'.mono (fun i _ e => e.imp (fun e => own_geN h.o1 _ e) id)
  refine ⟨blk_cell hb, blk_free hb, ⟨?_, blk_kept k2' (fun e => by rcases e with e | e; have := own_geN h.o1 _ e; have := h.b0; omega; omega) h.rs, own_kept o ((Kept.refl (only (w.heap.size + 1)) W').setCell (p := ⟨w.heap.size + 1, 1, none⟩) rfl _) (fun q hq e => by have e : q = w.heap.size + 1 := e; have := own_geN o q hq; have := h.b0; omega), own_kept h.o2 k2' (fun q hq e => by rcases e with e | e; exact (fun e' => h.ap q e' hq) e; have := own_geN h.o2 q hq; have := h.b0; omega), own_kept h.o3 k2' (fun q hq e => by rcases e with e | e; exact (fun e' => own_typesN h.o3 h.o1 (by decide) q hq e') e; have := own_geN h.o3 q hq; have := h.b0; omega), fun q h1 h2 => by rcases hn q h1 with h3 | h3; exact h.ap q h3 h2; have := own_ltN h.o2 q h2; omega, h.sm.trans' k3' (fun i hi e => by rcases e with e | e; have := h.b0; omega; omega), h.b0, Nat.le_trans h.b1 k3'.size⟩, k3'⟩
  have := blk_set (j := 1) hb (.slice a' (k1 + 1) c')
  simpa using this
/-- One more val. -/
theorem NdB.val {w : World} {B : Nat} {lf : Bool} {K V : List ByteArray} {Z : List Int} {a1 a2 a3 : Option Addr} {k1 c1 k2 c2 k3 c3 : Nat} {W W' : World} (h : NdB w B lf K V Z a1 a2 a3 k1 c1 k2 c2 k3 c3 W) {x : ByteArray} {a' : Option Addr} {c' : Nat} (o : W'.ownsRow B 9 1 (.slice a' (k2 + 1) c') (k2 + 1) (TS (V ++ [x]))) (hg : W.grownBy W' (Value.slice a2 k2 c2).ownBlock) (hn : ∀ g, (Value.slice a' (k2 + 1) c').ownBlock = some g → (Value.slice a2 k2 c2).ownBlock = some g ∨ g = W.heap.size) :
    W'.cell? ⟨w.heap.size + 1, 2, none⟩ = some (.slice a2 k2 c2) ∧ W'.frozen? ⟨w.heap.size + 1, 2, none⟩ = false ∧ NdB w B lf K (V ++ [x]) Z a1 a' a3 k1 c1 (k2 + 1) c' k3 c3 (W'.setCell ⟨w.heap.size + 1, 2, none⟩ (.slice a' (k2 + 1) c')) ∧ Kept (fun i => B ≤ i ∨ i = w.heap.size + 1) W (W'.setCell ⟨w.heap.size + 1, 2, none⟩ (.slice a' (k2 + 1) c')) := by
  have k1' : Kept (fun i => (Value.slice a2 k2 c2).ownBlock = some i) W W' := (Kept.refl _ W).grown hg (fun q e _ => e)
  have hb := blk_kept k1' (fun e => by have := own_geN h.o2 _ e; have := h.b0; omega) h.bx
  have k2' : Kept (fun i => (Value.slice a2 k2 c2).ownBlock = some i ∨ i = w.heap.size + 1) W (W'.setCell ⟨w.heap.size + 1, 2, none⟩ (.slice a' (k2 + 1) c')) := (k1'.mono (fun _ _ e => .inl e)).setCell (p := ⟨w.heap.size + 1, 2, none⟩) (.inr rfl) _
  have k3' : Kept (fun i => B ≤ i ∨ i = w.heap.size + 1) W (W'.setCell ⟨w.heap.size + 1, 2, none⟩ (.slice a' (k2 + 1) c')) := k2'.mono (fun i _ e => e.imp (fun e => own_geN h.o2 _ e) id)
  refine ⟨blk_cell hb, blk_free hb, ⟨?_, blk_kept k2' (fun e => by rcases e with e | e; have := own_geN h.o2 _ e; have := h.b0; omega; omega) h.rs, own_kept h.o1 k2' (fun q hq e => by rcases e with e | e; exact (fun e' => h.ap q hq e') e; have := own_geN h.o1 q hq; have := h.b0; omega), own_kept o ((Kept.refl (only (w.heap.size + 1)) W').setCell (p := ⟨w.heap.size + 1, 2, none⟩) rfl _) (fun q hq e => by have e : q = w.heap.size + 1 := e; have := own_geN o q hq; have := h.b0; omega), own_kept h.o3 k2' (fun q hq e => by rcases e with e | e; exact (fun e' => own_typesN h.o3 h.o2 (by decide) q hq e') e; have := own_geN h.o3 q hq; have := h.b0; omega), fun q h1 h2 => by rcases hn q h2 with h3 | h3; exact h.ap q h1 h3; have := own_ltN h.o1 q h1; omega, h.sm.trans' k3' (fun i hi e => by rcases e with e | e; have := h.b0; omega; omega), h.b0, Nat.le_trans h.b1 k3'.size⟩, k3'⟩
  have := blk_set (j := 2) hb (.slice a' (k2 + 1) c')
  simpa using this
/-- One more kid. -/
theorem NdB.kid {w : World} {B : Nat} {lf : Bool} {K V : List ByteArray} {Z : List Int} {a1 a2 a3 : Option Addr} {k1 c1 k2 c2 k3 c3 : Nat} {W W' : World} (h : NdB w B lf K V Z a1 a2 a3 k1 c1 k2 c2 k3 c3 W) {x : Int} {a' : Option Addr} {c' : Nat} (o : W'.ownsRow B 3 1 (.slice a' (k3 + 1) c') (k3 + 1) (IS (Z ++ [x]))) (hg : W.grownBy W' (Value.slice a3 k3 c3).ownBlock) (hn : ∀ g, (Value.slice a' (k3 + 1) c').ownBlock = some g → (Value.slice a3 k3 c3).ownBlock = some g ∨ g = W.heap.size) :
    W'.cell? ⟨w.heap.size + 1, 3, none⟩ = some (.slice a3 k3 c3) ∧ W'.frozen? ⟨w.heap.size + 1, 3, none⟩ = false ∧ NdB w B lf K V (Z ++ [x]) a1 a2 a' k1 c1 k2 c2 (k3 + 1) c' (W'.setCell ⟨w.heap.size + 1, 3, none⟩ (.slice a' (k3 + 1) c')) ∧ Kept (fun i => B ≤ i ∨ i = w.heap.size + 1) W (W'.setCell ⟨w.heap.size + 1, 3, none⟩ (.slice a' (k3 + 1) c')) := by
  have k1' : Kept (fun i => (Value.slice a3 k3 c3).ownBlock = some i) W W' := (Kept.refl _ W).grown hg (fun q e _ => e)
  have hb := blk_kept k1' (fun e => by have := own_geN h.o3 _ e; have := h.b0; omega) h.bx
  have k2' : Kept (fun i => (Value.slice a3 k3 c3).ownBlock = some i ∨ i = w.heap.size + 1) W (W'.setCell ⟨w.heap.size + 1, 3, none⟩ (.slice a' (k3 + 1) c')) := (k1'.mono (fun _ _ e => .inl e)).setCell (p := ⟨w.heap.size + 1, 3, none⟩) (.inr rfl) _
  have k3' : Kept (fun i => B ≤ i ∨ i = w.heap.size + 1) W (W'.setCell ⟨w.heap.size + 1, 3, none⟩ (.slice a' (k3 + 1) c')) := k2'.mono (fun i _ e => e.imp (fun e => own_geN h.o3 _ e) id)
  refine ⟨blk_cell hb, blk_free hb, ⟨?_, blk_kept k2' (fun e => by rcases e with e | e; have := own_geN h.o3 _ e; have := h.b0; omega; omega) h.rs, own_kept h.o1 k2' (fun q hq e => by rcases e with e | e; exact (fun e' => own_typesN h.o1 h.o3 (by decide) q hq e') e; have := own_geN h.o1 q hq; have := h.b0; omega), own_kept h.o2 k2' (fun q hq e => by rcases e with e | e; exact (fun e' => own_typesN h.o2 h.o3 (by decide) q hq e') e; have := own_geN h.o2 q hq; have := h.b0; omega), own_kept o ((Kept.refl (only (w.heap.size + 1)) W').setCell (p := ⟨w.heap.size + 1, 3, none⟩) rfl _) (fun q hq e => by have e : q = w.heap.size + 1 := e; have := own_geN o q hq; have := h.b0; omega), h.ap, h.sm.trans' k3' (fun i hi e => by rcases e with e | e; have := h.b0; omega; omega), h.b0, Nat.le_trans h.b1 k3'.size⟩, k3'⟩
  have := blk_set (j := 3) hb (.slice a' (k3 + 1) c')
  simpa using this
/-- append of one text, as a step of a region that draws its order. -/
theorem st_text {w : World} {ops : Array Oper} {o : Oper} {a : Act} {K : Act → World → Prop} {Q : Exit → Act → World → Prop} {E : Prop} (hgd : o.guard = none) (sl x : Operand)
    (ho : o.op = .call { callee := .builtin .append, args := #[sl, x], argTypes := #[22, 22] })
    (B : Nat) (a0 : Option Addr) (k c : Nat) (xs : List ByteArray) (hs : a.eval sl = .slice a0 k c) (hown : w.ownsRow B 9 1 (.slice a0 k c) k (TS xs))
    (g cc : Nat) (y : ByteArray) (hx : a.eval x = .slice (some ⟨g, 0, none⟩) 1 cc) (hy : w.heap[g]? = some (.cells #[.string y] 9 (0, 0))) (hk : k ≤ 100000) (hB : B ≤ w.heap.size)
    (h : ∀ a' c' w', w'.ownsRow B 9 1 (.slice a' (k + 1) c') (k + 1) (TS (xs ++ [y])) → w.grownBy w' (Value.slice a0 k c).ownBlock → (∀ g, (Value.slice a' (k + 1) c').ownBlock = some g → (Value.slice a0 k c).ownBlock = some g ∨ g = w.heap.size) → K (a.put o.dst (.slice a' (k + 1) c')) w') :
    if Region.wanted o (yielded ops a.tmps) = true then Oper.wp Tryd.prog o a w K Q else E := by
  obtain ⟨i0, hi, hz0, hz1, hz2⟩ := info_parts infoS
  refine step_append_where (P := Tryd.prog) hgd sl x 22 ho B 9 i0 (.string ⟨#[]⟩) 1 16 Tryd.underlying22 hi hz0 hz1 hz2 rfl (by decide) a0 k c (TS xs) hs hown (some ⟨g, 0, none⟩) 1 cc [.string y] hx rfl (fun _ => ⟨_, rfl, fun j u hj => ?_⟩) (fun u hu => by rw [List.mem_singleton.1 hu]; rfl) (by unfold maxLen; omega) (by omega) hB ?_
  · match j, hj with
    | 0, hj =>
      cases hj
      exact blk_cell (j := 0) hy
  · intro a' c' w' h1 h2 h3
    refine h a' c' w' ?_ h2 h3
    have e : TS (xs ++ [y]) = TS xs ++ [.string y] := by simp [TS]
    rw [e]
    exact h1
/-- append of one int, as a step of a region that draws its order. -/
theorem st_int {w : World} {ops : Array Oper} {o : Oper} {a : Act} {K : Act → World → Prop} {Q : Exit → Act → World → Prop} {E : Prop} (hgd : o.guard = none) (sl x : Operand)
    (ho : o.op = .call { callee := .builtin .append, args := #[sl, x], argTypes := #[23, 23] })
    (B : Nat) (a0 : Option Addr) (k c : Nat) (xs : List Int) (hs : a.eval sl = .slice a0 k c) (hown : w.ownsRow B 3 1 (.slice a0 k c) k (IS xs))
    (g cc : Nat) (y : Int) (hx : a.eval x = .slice (some ⟨g, 0, none⟩) 1 cc) (hy : w.heap[g]? = some (.cells #[.int .i64 y] 3 (0, 0))) (hk : k ≤ 100000) (hB : B ≤ w.heap.size)
    (h : ∀ a' c' w', w'.ownsRow B 3 1 (.slice a' (k + 1) c') (k + 1) (IS (xs ++ [y])) → w.grownBy w' (Value.slice a0 k c).ownBlock → (∀ g, (Value.slice a' (k + 1) c').ownBlock = some g → (Value.slice a0 k c).ownBlock = some g ∨ g = w.heap.size) → K (a.put o.dst (.slice a' (k + 1) c')) w') :
    if Region.wanted o (yielded ops a.tmps) = true then Oper.wp Tryd.prog o a w K Q else E := by
  obtain ⟨i0, hi, hz0, hz1, hz2⟩ := info_parts infoI
  refine step_append_where (P := Tryd.prog) hgd sl x 23 ho B 3 i0 (.int .i64 0) 1 8 Tryd.underlying23 hi hz0 hz1 hz2 rfl (by decide) a0 k c (IS xs) hs hown (some ⟨g, 0, none⟩) 1 cc [.int .i64 y] hx rfl (fun _ => ⟨_, rfl, fun j u hj => ?_⟩) (fun u hu => by rw [List.mem_singleton.1 hu]; rfl) (by unfold maxLen; omega) (by omega) hB ?_
  · match j, hj with
    | 0, hj =>
      cases hj
      exact blk_cell (j := 0) hy
  · intro a' c' w' h1 h2 h3
    refine h a' c' w' ?_ h2 h3
    have e : IS (xs ++ [y]) = IS xs ++ [.int .i64 y] := by simp [IS]
    rw [e]
    exact h1
end Go.Proofs.YtpjgghalnkfdkaaDoor
