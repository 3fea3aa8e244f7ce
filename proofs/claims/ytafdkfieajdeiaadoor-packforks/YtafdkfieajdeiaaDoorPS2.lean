/- pack: slices.AppendSeq and Collect of slotsOf's iterator. (Made by mkps2.py.) -/
import Derived.Test.YtafdkfieajdeiaaDoorPS1
import Derived.Test.YtafdkfieajdeiaaDoorK10
namespace Go.Proofs.YtafdkfieajdeiaaDoor
open Go.RowKit Go.Shelf
set_option linter.unusedVariables false
set_option linter.unusedSimpArgs false
attribute [local go_sem] Oper.semAt_some
theorem run_append_where {P : Program} (w : World) (t ty : TypeId) (base : Nat) (e : TypeId) (i : TypeInfo) (z : Value) (size bytes : Nat) (ht : P.underlying t = some (.slice e)) (hi : P.info? e = some i) (hz : i.zero = some z)
    (hsize : i.size = size) (hby : i.bytes = bytes) (hzs : z.cells.size = size) (hsz : 0 < size)
    (a0 : Option Addr) (n c0 : Nat) (xs : List Value) (hown : w.ownsRow base e size (.slice a0 n c0) n xs)
    (ao : Option Addr) (m c : Nat) (news : List Value) (hl : news.length = m * size) (hnews : Lies w ao m news) (h1 : ∀ u ∈ news, u.oneCell' = true)
    (h63 : n + m ≤ maxLen) (hbytes : (n + m) * bytes ≤ 140737488355328) (hbase : base ≤ w.heap.size) :
    ∃ a' cap w', (Builtin.append_ #[t, t] ty #[.slice a0 n c0, .slice ao m c]).run P w = .ok (.slice a' (n + m) cap) w' ∧
      w'.ownsRow base e size (.slice a' (n + m) cap) (n + m) (xs ++ news) ∧ w.grownBy w' (Value.slice a0 n c0).ownBlock ∧ (∀ g, (Value.slice a' (n + m) cap).ownBlock = some g → (Value.slice a0 n c0).ownBlock = some g ∨ g = w.heap.size) := by
  rcases Nat.eq_zero_or_pos m with rfl | hm
  · have hn0 : news = [] := List.length_eq_zero_iff.1 (by simpa using hl)
    subst hn0
    exact ⟨a0, c0, w, run_append_none w t ty e i ht hi a0 n c0 ao c (own_room hown), by simpa using hown, grownBy_rfl _ _, fun g hg => .inl (by simpa using hg)⟩
  · obtain ⟨ad, rfl, hc⟩ := hnews hm
    obtain ⟨g, cap, w', hr, h2, h3, h4, _⟩ := run_append_lies (P := P) w t ty base e i z size bytes ht hi hz hsize hby hzs hsz _ n xs hown ad m c news hl hc h1 hm h63 hbytes hbase _ rfl
    exact ⟨_, cap, w', hr, h2, h3, fun g' hg' => by
      have : g = g' := by simpa [Value.ownBlock] using hg'
      subst this
      exact h4⟩
theorem wpListIn_append_where {F : Fence} {n' : Nat} {P : Program} {w : World} {ops : Array Oper} {rest : List Oper} {o : Oper} {a : Act} {Q : Exit → Act → World → Prop}
    (hg : o.guard = none) (s x : Operand) (t : TypeId) (hop : o.op = Op.call { callee := Callee.builtin Builtin.append, args := #[s, x], argTypes := #[t, t] })
    (base : Nat) (e : TypeId) (i : TypeInfo) (z : Value) (size bytes : Nat) (ht : P.underlying t = some (.slice e)) (hi : P.info? e = some i) (hz : i.zero = some z)
    (hsize : i.size = size) (hby : i.bytes = bytes) (hzs : z.cells.size = size) (hsz : 0 < size)
    (a0 : Option Addr) (n c0 : Nat) (xs : List Value) (hs : a.eval s = .slice a0 n c0) (hown : w.ownsRow base e size (.slice a0 n c0) n xs)
    (ao : Option Addr) (m c : Nat) (news : List Value) (hx : a.eval x = .slice ao m c) (hl : news.length = m * size) (hnews : Lies w ao m news) (h1 : ∀ u ∈ news, u.oneCell' = true)
    (h63 : n + m ≤ maxLen) (hbytes : (n + m) * bytes ≤ 140737488355328) (hbase : base ≤ w.heap.size)
    (hK : ∀ a' cap w', w'.ownsRow base e size (.slice a' (n + m) cap) (n + m) (xs ++ news) → w.grownBy w' (Value.slice a0 n c0).ownBlock → (∀ g, (Value.slice a' (n + m) cap).ownBlock = some g → (Value.slice a0 n c0).ownBlock = some g ∨ g = w.heap.size) → wpListIn F n' P ops Q rest (a.put o.dst (.slice a' (n + m) cap)) w') :
    wpListIn F n' P ops Q (o :: rest) a w := by
  refine wpListIn_plain hg fun K hK' => ?_
  obtain ⟨a', cap, w', hrun, r1, r2, r3⟩ := run_append_where (P := P) w t o.type base e i z size bytes ht hi hz hsize hby hzs hsz a0 n c0 xs hown ao m c news hl hnews h1 h63 hbytes hbase
  unfold Oper.wpIn
  refine ⟨?_, ?_⟩
  · simp [Oper.about, hop, resolve, Target.leads, Sem.run_pure]
  · rw [Oper.semAt_plain F _ _ (by rw [hop]; intro c hc'; cases hc')]
    simp [execOp, hop, resolve, invoke, builtin, hs, hx, hrun, Result.andThen]
    exact hK' _ _ (hK a' cap w' r1 r2 r3)
theorem rowOf_blk {W : World} {H : Nat} {u : Value} {t : TypeId} (h : W.heap[H]? = some (.cells #[u] t (0, 0))) : rowOf W H 0 = u.ownBlock := by
  unfold rowOf
  rw [show W.cell? ⟨H, 0, none⟩ = some u from blk_cell h]
  rfl
theorem KR.step {H X : Nat} {W W' : World} (hk : Kept (fun k => k = H ∨ rowOf W H 0 = some k) W W') (hrow : ∀ r, rowOf W' H 0 = some r → rowOf W H 0 = some r ∨ W.heap.size ≤ r) (hH : ∃ cs t fz, W.heap[H]? = some (.cells cs t fz)) (hrc : ∀ r, rowOf W H 0 = some r → ∃ cs t fz, W.heap[r]? = some (.cells cs t fz)) : KR H X W W' :=
  ⟨hk.size, fun k cs t fz hi hn hr => blk_kept hk (fun e => e.elim hn hr) hi, hrow, fun k o _ hi ho => blk_kept hk (fun e => by
    rcases e with e | e
    · subst e; obtain ⟨cs, t, fz, h⟩ := hH; rw [h] at hi; cases hi; cases ho
    · obtain ⟨cs, t, fz, h⟩ := hrc _ e; rw [h] at hi; cases hi; cases ho) hi⟩
theorem slotsL_len (L : List UInt8) : ∀ f a, (slotsL L f a).length ≤ f
  | 0, _ => Nat.le_refl _
  | f + 1, a => by
    unfold slotsL
    split
    · exact Nat.zero_le _
    · rw [List.length_cons]; exact Nat.succ_le_succ (slotsL_len L f _)
theorem Tab.kr {H X : Nat} {a b : World} (h : Tab a) (k : KR H X a b) (hn : 0 ≠ H) (hr : rowOf a H 0 = none) : Tab b := fun j hj => k.cell (h j hj) hn (by rw [hr]; simp)
theorem Bt.kr {H X : Nat} {a c : World} {v : Value} {l : List UInt8} (h : Bt a v l) (k : KR H X a c) (hlt : ∀ ao n cap, v = .slice ao n cap → ∀ ad, ao = some ad → ad.block ≠ H) (hr : rowOf a H 0 = none) : Bt c v l := by
  obtain ⟨ao, cap, rfl, h2, h3⟩ := h.ex
  refine ⟨ao, cap, rfl, h2, fun h0 => ?_⟩
  obtain ⟨b, off, rfl, hc⟩ := h3 h0
  exact ⟨b, off, rfl, fun j hj => k.cell (p := ⟨b, off + j, none⟩) (hc j hj) (hlt _ _ _ rfl ⟨b, off, none⟩ rfl) (by rw [hr]; simp)⟩
theorem box_past {W w1 : World} {H n : Nat} {t e : TypeId} {s : Nat} {u : Value} {xs : List Value} {o : Obj} (hu : Boxed W H t u) (hr : W.ownsRow (H + 1) e s u n xs) (hg : (W.alloc o).grownBy w1 u.ownBlock) : w1.heap[H]? = some (.cells #[u] t (0, 0)) := by
  have h1 : (W.alloc o).heap[H]? = some (.cells #[u] t (0, 0)) := blk_alloc hu o
  refine (hg.block H (blk_lt h1) (fun e => ?_)).trans h1
  have := (hr.lt H e.symm).1
  omega
/-- What stands in a round of AppendSeq. -/
def AsI (w : World) (H : Nat) (pre : List (Nat × Nat)) (W : World) : Prop := (∃ u, Boxed W H 47 u ∧ W.ownsRow (H + 1) 34 2 u pre.length (slotCells pre) ∧ True) ∧ (Below w.heap.size w W ∧ H + 1 ≤ W.heap.size)
theorem asI_own {w : World} {H B : Nat} (h : w.heap.size ≤ B) : OwnFrom B (AsI w H) :=
  OwnFrom.and (Own.from (holdsRow_own (H + 1) H 47 34 2 (fun (pre : List (Nat × Nat)) => pre.length) (fun pre => slotCells pre) (fun _ _ => True)) _) (OwnFrom.and (ownFrom_below (Nat.le_refl _) h) (fun _ _ _ _ hs hg _ => Nat.le_trans hs hg.size))
theorem own_blk {W : World} {B g n s : Nat} {e : TypeId} {u : Value} {xs : List Value} (h : W.ownsRow B e s u n xs) (hg : u.ownBlock = some g) : ∃ cs t fz, W.heap[g]? = some (.cells cs t fz) := by
  rcases h.2 with ⟨rfl, _⟩ | ⟨g', cap, cur, rfl, _, hb, _⟩
  · simp [Value.ownBlock] at hg
  · obtain rfl : g' = g := by simpa [Value.ownBlock] using hg
    exact ⟨_, _, _, hb⟩
theorem own_formS {W : World} {B n s : Nat} {e : TypeId} {u : Value} {xs : List Value} (h : W.ownsRow B e s u n xs) : ∃ a0 c0, u = .slice a0 n c0 := by
  rcases h.2 with ⟨rfl, h0⟩ | ⟨g', cap, cur, rfl, _⟩
  · exact ⟨none, 0, by rw [h0]⟩
  · exact ⟨_, _, rfl⟩
set_option maxRecDepth 100000 in
set_option maxHeartbeats 4000000 in
theorem appendSlots (bb : Nat) (v : Value) (L : List UInt8) (w : World) (hT : Tab w) (hb : Bt w v L) (hbx : w.heap[bb]? = some (.cells #[v] 32 (0, 0))) (hlen : L.length ≤ 262144) (h16 : 16 ≤ L.length) :
    Calls Tryd.prog 73 #[.slice none 0 0, .func (.func 74) #[] #[.pointer (some ⟨bb, 0, none⟩)]] w fun e w' => ∃ u, e = .returned u ∧ w'.ownsRow w.heap.size 34 2 u (slotsA L).length (slotCells (slotsA L)) ∧ Same w w' := by
  obtain ⟨i0, hi, hz0, hz1, hz2⟩ := info_parts infoSlot
  have hbl : bb < w.heap.size := blk_lt hbx
  have hgw : 0 < w.heap.size := by
    obtain ⟨cs, t, fz, ho⟩ := cell_cells (hT 0 (by decide))
    exact blk_lt ho
  have hvl : ∀ ao n cap, v = .slice ao n cap → ∀ ad, ao = some ad → ad.block < w.heap.size := by
    obtain ⟨ao, cap, rfl, h2, h3⟩ := hb.ex
    obtain ⟨b, off, rfl, hc⟩ := h3 (by omega)
    rintro _ _ _ e ad rfl
    cases e
    obtain ⟨cs, t, fz, ho⟩ := cell_cells (hc 0 (by omega))
    exact blk_lt ho
  have hN : (slotsA L).length ≤ 262144 := Nat.le_trans (slotsL_len _ _ _) hlen
  have HB := hidden hb
  have HT := hidden hT
  have HBX := hidden hbx
  clear hb hT hbx
  refine (callsIn_wide (n := 7)).1 ?_
  refine callsIn_of_wp_marks Tryd.func73 rfl trivial ?_ rfl
  simp only [Tryd.ntmps73, List.size_toArray, List.length_cons, List.length_nil, Nat.reduceAdd, Nat.reduceSub, Array.replicate_succ, Array.replicate_zero, List.push_toArray, List.append_toArray, List.nil_append, List.cons_append]
  gi_wp2
  obtain ⟨H, hH⟩ : ∃ H, H = w.heap.size := ⟨_, rfl⟩
  have bO := Boxed.new w 47 (.slice none 0 0)
  have hsz : (w.alloc (.cells #[.slice none 0 0] 47)).heap.size = H + 1 := by rw [hH]; simp
  have KB : Same w (w.alloc (.cells #[.slice none 0 0] 47)) := same_alloc _ _
  rw [← hH] at bO ⊢
  generalize w.alloc (.cells #[.slice none 0 0] 47) = WB at *
  have KBh := hidden KB
  have hH0 : Hid (w.heap.size = H) := hidden hH.symm
  clear hH
  have hR0 : ∀ W1, Same WB W1 → rowOf W1 H 0 = none := fun W1 k => rowOf_blk (blk_kept k (fun h => h) bO)
  have HR0 := hidden hR0
  clear hR0
  refine range_ownR rfl (by decide) (gf := 74) (lb := #[.pointer (some ⟨bb, 0, none⟩)]) rfl trivial (enters_of Tryd.func74 (by kernel_rfl) rfl) (KP := KR H) (kfam H) (Lk := LkH H)
    (fun W1 kk _ => slots_at H (WB.heap.size + 2) W1 bb v L hlen h16 (blk_kept (KBh.out.trans kk) (fun h => h) HBX.out) (by have := hH0.out; omega) (HR0.out W1 kk) (fun V k => ⟨((HT.out.same KBh.out).same kk).kr k (by have := hH0.out; omega) (HR0.out W1 kk), ((HB.out.same (KBh.out.trans kk))).kr k (fun ao n cap e ad ea => by have := hvl ao n cap e ad ea; have := hH0.out; omega) (HR0.out W1 kk)⟩)) (fun _ => rfl)
    (AsI w H)
    (fun _ _ _ => False)
    (asI_own (by rw [hsz]; have := hH0.out; omega))
    (fun _ _ _ _ _ hs _ _ => hs)
    ⟨⟨_, bO, World.ownsRow_nil _ _ _ _, trivial⟩, KB.below (Nat.le_refl _) (fun _ h => h.elim), by rw [hsz]; exact Nat.le_refl _⟩
    (fun pre W h => by
      obtain ⟨⟨u, hu, ho, _⟩, _, hs⟩ := h
      refine ⟨by omega, fun r hr => ?_⟩
      rw [rowOf_blk hu] at hr
      exact (ho.lt r hr).2)
    (fun x a' (W : World) => ∃ g, a' = { tmps := #[.slice none 0 0, .func (.func 74) #[] #[.pointer (some ⟨bb, 0, none⟩)], .pointer (some ⟨H, 0, none⟩), undef, .slice none 0 0, .pointer (some ⟨g, 0, none⟩), .func (.func 74) #[] #[.pointer (some ⟨bb, 0, none⟩)], .agg #[.int .i64 (x.1 : Nat), .int .i64 (x.2 : Nat)], undef, undef, undef, undef, undef], defers := [] } ∧ W.heap[g]? = some (.cells #[.int .i64 (x.1 : Nat), .int .i64 (x.2 : Nat)] 34 (0, 0)) ∧ H + 1 ≤ g)
    (fun x a' _ A C row hs hg hr => by
      obtain ⟨g, h0, h1, h2⟩ := hs
      exact ⟨g, h0, (hg.block _ (blk_lt h1) (fun e => by obtain ⟨_, o, ho, hc⟩ := hr _ e.symm; rw [h1] at ho; cases ho; cases hc)).trans h1, h2⟩) ?assign ?body ?done ?stop
  case assign =>
    intro l pre x W K hI hK
    dsimp only [encSl]
    gi_wp2
    exact hK _ _ (KR.of (by have := hI.2.2; omega) (same_alloc _ _)) ((asI_own (w := w) (H := H) (B := WB.heap.size) (by rw [hsz]; have := hH0.out; omega)).alloc _ hI) ⟨W.heap.size, rfl, blk_new _ _, hI.2.2⟩
  case body =>
    rintro lp pre x a' W ⟨⟨u, hu, hrow, _⟩, hB, hszW⟩ ⟨g, rfl, hg, hgH⟩ hlt
    obtain ⟨a0, c0, rfl⟩ := own_formS hrow
    obtain ⟨x1, x2⟩ := x
    have y0 : W.cell? ⟨H, 0, none⟩ = some (.slice a0 pre.length c0) := blk_cell hu
    have y1 : W.cell? ⟨g, 0, none⟩ = some (.int .i64 (x1 : Nat)) := blk_cell hg
    have y2 : W.cell? ⟨g, 1, none⟩ = some (.int .i64 (x2 : Nat)) := blk_cell hg
    have hpl : (pre.length + 1) * 16 ≤ 140737488355328 := by omega
    have HU := hidden hu
    have HRW := hidden hrow
    have HB9 := hidden hB
    clear hu hB hg
    gi_wp2_with (gi_at_builtin; refine wpListIn_append_where rfl _ _ 47 rfl (H + 1) 34 i0 (.agg #[.int .i64 0, .int .i64 0]) 2 16 Tryd.underlying47 hi hz0 hz1 hz2 rfl (by decide) a0 pre.length c0 (slotCells pre) rfl (HRW.out.alloc _) (some ⟨W.heap.size, 0, none⟩) 1 1 [.int .i64 (x1 : Nat), .int .i64 (x2 : Nat)] rfl rfl (fun _ => ⟨_, rfl, fun j u hj => by
        match j, hj with
        | 0, hj => cases hj; exact blk_cell (j := 0) (blk_new W _)
        | 1, hj => cases hj; exact blk_cell (j := 1) (blk_new W _)⟩) (fun u hu => by simp at hu; rcases hu with rfl | rfl <;> rfl) (by unfold maxLen; omega) (by omega) (by simp; omega) ?_; intro a' cap w1 hown hgrow hnew; have hb2 := box_past HU.out HRW.out hgrow; have hc1 : w1.cell? ⟨H, 0, none⟩ = some (.slice a0 pre.length c0) := blk_cell hb2; have hf1 : w1.frozen? ⟨H, 0, none⟩ = false := blk_free hb2)
    have hbS := blk_set (j := 0) hb2 (.slice a' (pre.length + 1) cap)
    have hbS' : (w1.setCell ⟨H, 0, none⟩ (.slice a' (pre.length + 1) cap)).heap[H]? = some (.cells #[.slice a' (pre.length + 1) cap] 47 (0, 0)) := hbS
    have hrw := rowOf_blk HU.out
    have hKS : Kept (fun k => k = H ∨ rowOf W H 0 = some k) W (w1.setCell ⟨H, 0, none⟩ (.slice a' (pre.length + 1) cap)) :=
      (((Kept.refl (fun k => k = H ∨ rowOf W H 0 = some k) W).alloc _).grown hgrow (fun k e _ => .inr (by rw [hrw]; exact e))).setCell (p := ⟨H, 0, none⟩) (.inl rfl) _
    refine ⟨KR.step hKS (fun r hr => ?_) ⟨_, _, _, HU.out⟩ (fun r hr => own_blk HRW.out (by rw [← hrw]; exact hr)), ⟨_, hbS', ?_, trivial⟩, HB9.out.trans ((hKS.mono (T := fun k => k = H ∨ H + 1 ≤ k) (fun k _ e => e.imp id (fun e => (HRW.out.lt k (by rw [← hrw]; exact e)).1))).below HB9.out.size (fun k hk => by have := hH0.out; omega)), Nat.le_trans hszW hKS.size⟩
    · rw [rowOf_blk hbS'] at hr
      rw [hrw]
      rcases hnew r hr with e | e
      · exact .inl e
      · exact .inr (by rw [e]; simp)
    · rw [List.length_append, List.length_singleton, slotCells_append]
      exact own_kept hown ((Kept.refl (fun k => k = H) w1).setCell (p := ⟨H, 0, none⟩) rfl _) (fun k hk hs => by have := (hown.lt k hk).1; omega)
  case done =>
    rintro D ys W hD hys ⟨⟨u, hu, hrow, _⟩, hB, hszW⟩ hK
    rw [hys] at hrow
    have hc : W.cell? ⟨H, 0, none⟩ = some u := blk_cell hu
    have HS5 := hidden (show Same w (W.putObj D (.deferred none)) from (same_of_below hB).grown (grownBy_putObj' W D _) (fun k e hk => by cases e; have := hH0.out; omega))
    have HRW := hidden (ownsRow_putObj hrow (.deferred none) hK rfl)
    clear hrow hB hys hu
    gi_wp2
    refine ⟨by simp, .inl ⟨_, _, rfl, run_takeDeferred hK, ?_⟩⟩
    refine ⟨_, by simp [results, Tryd.results73, go_sem], u, rfl, own_mono HRW.out (by have := hH0.out; omega), HS5.out⟩
  case stop =>
    rintro D c pre V _ _ h _
    exact h.elim
end Go.Proofs.YtafdkfieajdeiaaDoor
