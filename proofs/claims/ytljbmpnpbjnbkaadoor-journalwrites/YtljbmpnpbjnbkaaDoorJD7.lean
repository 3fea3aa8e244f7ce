/- journal: the document's Append that fits. -/
import Derived.Test.YtljbmpnpbjnbkaaDoorJD6
import Derived.Maps.AppendAt
namespace Go.Proofs.YtljbmpnpbjnbkaaDoor
open Go.RowKit
set_option linter.unusedVariables false
set_option linter.unusedSimpArgs false
theorem wpList_append_atP {P : Program} (w : World) {ops : Array Oper} {rest : List Oper} {o : Oper} {a : Act} {Q : Exit → Act → World → Prop} (hgd : o.guard = none) (s x : Operand) (t : TypeId)
    (ho : o.op = .call { callee := .builtin .append, args := #[s, x], argTypes := #[t, t] })
    (base : Nat) (e : TypeId) (i : TypeInfo) (z : Value) (size bytes : Nat) (ht : P.underlying t = some (.slice e)) (hi : P.info? e = some i) (hz : i.zero = some z)
    (hsize : i.size = size) (hby : i.bytes = bytes) (hzs : z.cells.size = size) (hsz : 0 < size)
    (v : Value) (n : Nat) (xs : List Value) (hs : a.eval s = v) (hown : w.ownsRow base e size v n xs)
    (ad : Addr) (m c : Nat) (news : List Value) (hx : a.eval x = .slice (some ad) m c) (hl : news.length = m * size) (hnews : ∀ j u, news[j]? = some u → w.cell? (ad.add j) = some u) (h1 : ∀ u ∈ news, u.oneCell' = true)
    (h63 : n + m ≤ maxLen) (hbytes : (n + m) * bytes ≤ 140737488355328) (hbase : base ≤ w.heap.size)
    (h : ∀ v' w', w'.ownsRow base e size v' (n + m) (xs ++ news) → w.grownBy w' v.ownBlock → (v'.ownBlock = v.ownBlock ∨ v'.ownBlock = some w.heap.size) → wpList P ops Q rest (a.put o.dst v') w') : wpList P ops Q (o :: rest) a w := by
  refine wpList_plain hgd fun K hK => ?_
  obtain ⟨v', w', hr, h2, h3, _, h5⟩ := run_append_own_at (P := P) w base t o.type e i z size bytes ht hi hz hsize hby hzs hsz v n xs hown ad m c news hl hnews h1 h63 hbytes hbase
  unfold Oper.wp execOp
  simp only [ho, resolve, invoke, builtin, Sem.run_bind, Sem.run_pure, Result.andThen_ok, List.map_toArray, List.map_cons, List.map_nil, hs, hx, hr]
  exact hK _ _ (h v' w' h2 h3 h5)
theorem step_append_atP {P : Program} {w : World} {ops : Array Oper} {o : Oper} {a : Act} {K : Act → World → Prop} {Q : Exit → Act → World → Prop} {E : Prop} (hgd : o.guard = none) (s x : Operand) (t : TypeId)
    (ho : o.op = .call { callee := .builtin .append, args := #[s, x], argTypes := #[t, t] })
    (base : Nat) (e : TypeId) (i : TypeInfo) (z : Value) (size bytes : Nat) (ht : P.underlying t = some (.slice e)) (hi : P.info? e = some i) (hz : i.zero = some z)
    (hsize : i.size = size) (hby : i.bytes = bytes) (hzs : z.cells.size = size) (hsz : 0 < size)
    (v : Value) (n : Nat) (xs : List Value) (hs : a.eval s = v) (hown : w.ownsRow base e size v n xs)
    (ad : Addr) (m c : Nat) (news : List Value) (hx : a.eval x = .slice (some ad) m c) (hl : news.length = m * size) (hnews : ∀ j u, news[j]? = some u → w.cell? (ad.add j) = some u) (h1 : ∀ u ∈ news, u.oneCell' = true)
    (h63 : n + m ≤ maxLen) (hbytes : (n + m) * bytes ≤ 140737488355328) (hbase : base ≤ w.heap.size)
    (h : ∀ v' w', w'.ownsRow base e size v' (n + m) (xs ++ news) → w.grownBy w' v.ownBlock → (v'.ownBlock = v.ownBlock ∨ v'.ownBlock = some w.heap.size) → K (a.put o.dst v') w') : if Region.wanted o (yielded ops a.tmps) = true then Oper.wp P o a w K Q else E := by
  have hw : Region.wanted o (yielded ops a.tmps) = true := by simp [Region.wanted, hgd]
  rw [if_pos hw]
  obtain ⟨v', w', hr, h2, h3, _, h5⟩ := run_append_own_at (P := P) w base t o.type e i z size bytes ht hi hz hsize hby hzs hsz v n xs hown ad m c news hl hnews h1 h63 hbytes hbase
  unfold Oper.wp execOp
  simp only [ho, resolve, invoke, builtin, Sem.run_bind, Sem.run_pure, Result.andThen_ok, List.map_toArray, List.map_cons, List.map_nil, hs, hx, hr]
  exact h v' w' h2 h3 h5
/-- The blocks that the document's Writer is in. -/
def dS (g : Nat) (rv : Value) (us : List Value) : Nat → Prop := fun k => k = g ∨ rv.ownBlock = some k ∨ ∃ (j : Nat) (u : Value), us[j]? = some u ∧ u.ownBlock = some k
theorem DL.same {g : Nat} {d : DSt} {w w' : World} {rv : Value} {us : List Value} (h : DL g d w rv us) (k : Same w w') : DL g d w' rv us :=
  ⟨blk_kept k (fun h => h) h.box, h.len, own_kept h.row k (fun _ _ h => h), fun i x u hx hu => own_kept (h.rooms i x u hx hu) k (fun _ _ h => h), h.apart⟩
theorem strCells_map (s : ByteArray) : Lib.strCells s = s.data.toList.map U8 := by
  first | rfl | simp [Lib.strCells, U8]
theorem append_last (A B : List (List UInt8)) (x : List UInt8) (h : B[B.length - 1]? = some x) : (A ++ B)[(A ++ B).length - 1]? = some x ∧ ∀ y, (A ++ B).set ((A ++ B).length - 1) y = A ++ B.set (B.length - 1) y := by
  have hl : 0 < B.length := by
    have := (List.getElem?_eq_some_iff.1 h).1
    omega
  refine ⟨?_, fun y => ?_⟩
  · rw [List.getElem?_append_right (by rw [List.length_append]; omega), List.length_append, show A.length + B.length - 1 - A.length = B.length - 1 by omega, h]
  · rw [List.set_append_right _ _ (by rw [List.length_append]; omega), List.length_append, show A.length + B.length - 1 - A.length = B.length - 1 by omega]
theorem DL.count {g : Nat} {d : DSt} {w : World} {rv : Value} {us : List Value} (h : DL g d w rv us) : DL g { d with count := d.count + 1 } (w.setCell ⟨g, 5, none⟩ (.int .i64 ((d.count : Int) + 1))) rv us ∧ Kept (fun k => k = g) w (w.setCell ⟨g, 5, none⟩ (.int .i64 ((d.count : Int) + 1))) := by
  have hk : Kept (fun k => k = g) w (w.setCell ⟨g, 5, none⟩ (.int .i64 ((d.count : Int) + 1))) := (Kept.refl (fun k => k = g) w).setCell (p := ⟨g, 5, none⟩) rfl _
  refine ⟨⟨by simpa using blk_set (j := 5) h.box (.int .i64 ((d.count : Int) + 1)), h.len, own_kept h.row hk (fun k e1 e => own_apart h.row h.box (by decide) (by rw [e1, e])), fun i x u hx hu => ?_, h.apart⟩, hk⟩
  have ho := h.rooms i x u hx hu
  exact own_kept ho hk (fun k e1 e => own_apart ho h.box (by decide) (by rw [e1, e]))
theorem pushL_snoc (r : Nat) (l : List (List UInt8)) (bs : List UInt8) (b : UInt8) : pushL r l (bs ++ [b]) = pushB r (pushL r l bs) b := by simp [pushL]
theorem infoRo : (Tryd.prog.info? 39).map (fun i => (i.zero, i.size, i.bytes)) = some (some (.slice none 0 0), 1, 24) := by kernel_rfl
end Go.Proofs.YtljbmpnpbjnbkaaDoor
