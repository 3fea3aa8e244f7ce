/- journal: the document's Append that fits. -/
import Derived.Test.YtljbmpnpbjnbkaaDoorJD4
import Derived.Maps.AppendAt
import Derived.Deep.RegionHeld
/- journal: the document's Writer: a byte laid into its last room. -/
/- journal: the document's Append that fits. -/
/- journal: the document's Append. -/
/- journal: the document's Writer while a byte is laid: a room that grows, a room more. -/
namespace Go.Proofs.YtljbmpnpbjnbkaaDoor
open Go.RowKit
set_option linter.unusedVariables false
set_option linter.unusedSimpArgs false
/-- The document's Writer with its rooms' row and its rooms' values. -/
structure DL (g : Nat) (d : DSt) (w : World) (rv : Value) (us : List Value) : Prop where
  box : w.heap[g]? = some (.cells #[.int .i64 d.size, .int .i64 d.sectors, .int .u64 d.gen, rv, .int .i64 d.taken, .int .i64 d.count] 44 (0, 0))
  len : us.length = d.rooms.length
  row : w.ownsRow 0 39 1 rv d.rooms.length us
  rooms : ∀ (i : Nat) (x : List UInt8) (u : Value), d.rooms[i]? = some x → us[i]? = some u → w.ownsRow 0 5 1 u x.length (x.map U8)
  apart : ∀ (i j : Nat) (u u' : Value) (k : Nat), us[i]? = some u → us[j]? = some u' → u.ownBlock = some k → u'.ownBlock = some k → i = j
theorem DW.dl {g : Nat} {d : DSt} {w : World} (h : DW g d w) : ∃ rv us, DL g d w rv us := by
  obtain ⟨rv, us, h1, h2, h3, h4, h5⟩ := h.lies
  exact ⟨rv, us, h1, h2, h3, h4, h5⟩
theorem DL.dw {g : Nat} {d : DSt} {w : World} {rv : Value} {us : List Value} (h : DL g d w rv us) : DW g d w := ⟨rv, us, h.box, h.len, h.row, h.rooms, h.apart⟩
theorem DL.on {g : Nat} {d : DSt} {w : World} {rv : Value} {us : List Value} (h : DL g d w rv us) {i rb : Nat} {x y : List UInt8} {u u' : Value} {w1 : World} (hx : d.rooms[i]? = some x) (hu : us[i]? = some u)
    (hg : w.grownBy w1 u.ownBlock) (ho : w1.ownsRow 0 5 1 u' y.length (y.map U8)) (hat : ∀ k, u'.ownBlock = some k → u.ownBlock = some k ∨ w.heap.size ≤ k) (hrb : rv.ownBlock = some rb) :
    DL g { d with rooms := d.rooms.set i y } (w1.setCell ⟨rb, i, none⟩ u') rv (us.set i u') := by
  have hou := h.rooms i x u hx hu
  have hgb := own_apart hou h.box (by decide)
  obtain ⟨_, cs, hcs⟩ := own_bk h.row hrb
  have hrg : rb ≠ g := fun e => own_apart h.row h.box (by decide) (by rw [hrb, e])
  have hrb1 : w1.heap[rb]? = some (.cells cs 39 (0, 0)) := (hg.block rb (blk_lt hcs) (fun e => own_apart hou hcs (by decide) e.symm)).trans hcs
  have hbx1 := (hg.block g (blk_lt h.box) (fun e => hgb e.symm)).trans h.box
  have hk : Kept (fun k => u.ownBlock = some k ∨ k = rb) w (w1.setCell ⟨rb, i, none⟩ u') := ((Kept.refl (fun k => u.ownBlock = some k ∨ k = rb) w).grown hg (fun k e _ => .inl e)).setCell (p := ⟨rb, i, none⟩) (.inr rfl) _
  have hk1 : Kept (fun k => k = rb) w1 (w1.setCell ⟨rb, i, none⟩ u') := (Kept.refl (fun k => k = rb) w1).setCell (p := ⟨rb, i, none⟩) rfl _
  refine ⟨(Below.heap_setCell _ _ _ _ (fun e => hrg e.symm)).trans hbx1, by simp [h.len], ?_, ?_, ?_⟩
  · have hr := h.row
    have hl := hr.1
    rcases hr.2 with ⟨rfl, h0⟩ | ⟨b, cap, cur, rfl, _, h2, h3, h4, h5, h6⟩
    · cases hrb
    · cases hrb
      rw [hcs] at h2
      cases h2
      refine ⟨by simp [hl], .inr ⟨_, cap, cs.setIfInBounds i u', by simp, Nat.zero_le _, blk_set hrb1 u', by simpa using h3, h4, by simpa using h5, ?_⟩⟩
      rw [Array.toList_setIfInBounds, List.length_set, List.take_set, h6]
  · intro j z v hz hv
    by_cases hj : j = i
    · subst hj
      have hjl := (List.getElem?_eq_some_iff.1 hx).1
      have hjl2 := (List.getElem?_eq_some_iff.1 hu).1
      rw [List.getElem?_set_self hjl] at hz
      rw [List.getElem?_set_self hjl2] at hv
      cases hz
      cases hv
      exact own_kept ho hk1 (fun k hk e => own_apart ho hrb1 (by decide) (by rw [hk, e]))
    · rw [List.getElem?_set_ne (fun e => hj e.symm)] at hz hv
      have hoj := h.rooms j z v hz hv
      refine own_kept hoj hk (fun k hk e => ?_)
      rcases e with e | e
      · exact hj (h.apart j i v u k hv hu hk e)
      · exact own_apart hoj hcs (by decide) (by rw [hk, e])
  · intro j k v v' q hv hv' hq hq'
    by_cases hj : j = i
    · by_cases hk2 : k = i
      · rw [hj, hk2]
      · subst hj
        have hjl2 := (List.getElem?_eq_some_iff.1 hu).1
        rw [List.getElem?_set_self hjl2] at hv
        cases hv
        rw [List.getElem?_set_ne (fun e => hk2 e.symm)] at hv'
        rcases hat q hq with e | e
        · exact h.apart _ _ _ _ q hu hv' e hq'
        · have hkl := (List.getElem?_eq_some_iff.1 hv').1
          obtain ⟨z, hz⟩ : ∃ z, d.rooms[k]? = some z := ⟨_, List.getElem?_eq_getElem (by have := h.len; omega)⟩
          have := blk_lt (own_bk (h.rooms k z v' hz hv') hq').2.choose_spec
          omega
    · rw [List.getElem?_set_ne (fun e => hj e.symm)] at hv
      by_cases hk2 : k = i
      · subst hk2
        have hjl2 := (List.getElem?_eq_some_iff.1 hu).1
        rw [List.getElem?_set_self hjl2] at hv'
        cases hv'
        rcases hat q hq' with e | e
        · exact h.apart _ _ _ _ q hv hu hq e
        · have hjl := (List.getElem?_eq_some_iff.1 hv).1
          obtain ⟨z, hz⟩ : ∃ z, d.rooms[j]? = some z := ⟨_, List.getElem?_eq_getElem (by have := h.len; omega)⟩
          have := blk_lt (own_bk (h.rooms j z v hz hv) hq).2.choose_spec
          omega
      · rw [List.getElem?_set_ne (fun e => hk2 e.symm)] at hv'
        exact h.apart j k v v' q hv hv' hq hq'
theorem DL.more {g : Nat} {d : DSt} {w : World} {rv : Value} {us : List Value} (h : DL g d w rv us) {rv' : Value} {w1 : World} (hg : w.grownBy w1 rv.ownBlock)
    (ho : w1.ownsRow 0 39 1 rv' (d.rooms.length + 1) (us ++ [.slice none 0 0])) :
    DL g { d with rooms := d.rooms ++ [[]] } (w1.setCell ⟨g, 3, none⟩ rv') rv' (us ++ [.slice none 0 0]) := by
  have hgb := own_apart h.row h.box (by decide)
  have hbx1 := (hg.block g (blk_lt h.box) (fun e => hgb e.symm)).trans h.box
  have hk : Kept (fun k => rv.ownBlock = some k ∨ k = g) w (w1.setCell ⟨g, 3, none⟩ rv') := ((Kept.refl (fun k => rv.ownBlock = some k ∨ k = g) w).grown hg (fun k e _ => .inl e)).setCell (p := ⟨g, 3, none⟩) (.inr rfl) _
  have hk1 : Kept (fun k => k = g) w1 (w1.setCell ⟨g, 3, none⟩ rv') := (Kept.refl (fun k => k = g) w1).setCell (p := ⟨g, 3, none⟩) rfl _
  refine ⟨blk_set (j := 3) hbx1 rv', by simp [h.len], ?_, ?_, ?_⟩
  · rw [List.length_append]
    exact own_kept ho hk1 (fun k hk e => own_apart ho hbx1 (by decide) (by rw [hk, e]))
  · intro j z v hz hv
    rcases Nat.lt_or_ge j d.rooms.length with hj | hj
    · rw [List.getElem?_append_left hj] at hz
      rw [List.getElem?_append_left (by rw [h.len]; exact hj)] at hv
      have hoj := h.rooms j z v hz hv
      refine own_kept hoj hk (fun k hk e => ?_)
      rcases e with e | e
      · obtain ⟨_, cs, hcs⟩ := own_bk h.row e
        exact own_apart hoj hcs (by decide) hk
      · exact own_apart hoj h.box (by decide) (by rw [hk, e])
    · rw [List.getElem?_append_right hj] at hz
      rw [List.getElem?_append_right (by rw [h.len]; exact hj), h.len] at hv
      have h0 : j - d.rooms.length = 0 := by
        have := (List.getElem?_eq_some_iff.1 hz).1
        simpa using this
      rw [h0] at hz hv
      obtain rfl : [] = z := by simpa using hz
      obtain rfl : Value.slice none 0 0 = v := by simpa using hv
      exact World.ownsRow_nil _ _ _ _
  · intro j k v v' q hv hv' hq hq'
    have hlt : ∀ (j : Nat) (v : Value), (us ++ [Value.slice none 0 0])[j]? = some v → v.ownBlock = some q → us[j]? = some v := fun j v hv hq => by
      rcases Nat.lt_or_ge j us.length with hj | hj
      · rwa [List.getElem?_append_left hj] at hv
      · rw [List.getElem?_append_right hj] at hv
        have h0 : j - us.length = 0 := by
          have := (List.getElem?_eq_some_iff.1 hv).1
          simpa using this
        rw [h0] at hv
        obtain rfl : Value.slice none 0 0 = v := by simpa using hv
        cases hq
    exact h.apart j k v v' q (hlt j v hv hq) (hlt k v' hv' hq') hq hq'
end Go.Proofs.YtljbmpnpbjnbkaaDoor
namespace Go.Proofs.YtljbmpnpbjnbkaaDoor
open Go.RowKit
set_option linter.unusedVariables false
set_option linter.unusedSimpArgs false
set_option maxHeartbeats 1000000 in
set_option maxRecDepth 100000 in
theorem appendD_no {g : Nat} {d : DSt} {w : World} (h : DW g d w) {s : JSt} (ag : Ag d s) (rec : ByteArray) (hr : rec.size ≤ 140737488351232) (he : s.appErr rec.size ≠ 0) : Calls Tryd.prog 12 #[.pointer (some ⟨g, 0, none⟩), .string rec] w fun e w' => e = .returned (.int .i64 (s.appErr rec.size)) ∧ Same w w' := by
  have HF := hidden (fun W (k : Same w W) => freeD_any (w := W) (by
    obtain ⟨rv, us, h1, h2, h3, h4, h5⟩ := h.lies
    exact ⟨rv, us, blk_kept k (fun h => h) h1, h2, own_kept h3 k (fun _ _ h => h), fun i x u hx hu => own_kept (h4 i x u hx hu) k (fun _ _ h => h), h5⟩) ag)
  have hfb : s.free ≤ 16777216 := by have := ag.ok.rooms; unfold JSt.free; omega
  unfold JSt.appErr at he ⊢
  generalize s.free = fr at *
  by_cases h1 : 65536 < rec.size
  · have q1 : (65536 : Int) < (rec.size : Int) := by omega
    rw [if_pos h1]
    clear he h ag
    go_enter Tryd.func12, Tryd.ntmps12
    go_wp2
    go_returns
    exact ⟨rfl, Kept.refl _ _⟩
  · rw [if_neg h1] at he ⊢
    by_cases h2 : fr < 4 + rec.size
    · have q1 : ¬ (65536 : Int) < (rec.size : Int) := by omega
      have a1 : IntKind.i64.wrap (4 + (rec.size : Int)) = 4 + (rec.size : Int) := by rw [IntKind.wrap_i64]; omega
      have q2 : (fr : Int) < 4 + (rec.size : Int) := by omega
      rw [if_pos h2]
      clear he h ag
      go_enter Tryd.func12, Tryd.ntmps12
      go_wp2_with (go_at_call 36; refine (HF.out _ (Kept.refl _ _)).mono ?_; rintro e w1 ⟨rfl, k1⟩; have K1 := hidden k1; clear k1)
      go_returns
      exact ⟨rfl, K1.out⟩
    · rw [if_neg h2] at he
      exact absurd rfl he
end Go.Proofs.YtljbmpnpbjnbkaaDoor
namespace Go.Proofs.YtljbmpnpbjnbkaaDoor
open Go.RowKit
set_option linter.unusedVariables false
set_option linter.unusedSimpArgs false
theorem wpList_append_atP {P : Program} (w : World) {ops : Array Oper} {rest : List Oper} {o : Oper} {a : Act} {Q : Exit → Act → World → Prop} (hgd : o.guard = none) (s x : Operand) (t : TypeId)
    (ho : o.op = .call { callee := .builtin .append, args := #[s, x], argTypes := #[t, t] })
    (base : Nat) (e : TypeId) (i : TypeInfo) (z : Value) (size bytes : Nat) (ht : P.underlying t = some (.slice e)) (hi : P.info? e = some i) (hz : i.zero = some z)
    (hsize : i.size = size) (hby : i.bytes = bytes) (hzs : z.cells.size = size) (hsz : 0 < size)
    (v : Value) (n : Nat) (xs : List Value) (hs : a.eval s = v) (hown : w.ownsRow base e size v n xs)
    (ad : Addr) (m c : Nat) (news : List Value) (hx : a.eval x = .slice (some ad) m c) (hl : news.length = m * size) (hnews : ∀ j u, news[j]? = some u → w.cell? (ad.add j) = some u) (h1 : ∀ u ∈ news, u.oneCell' = true)
    (h63 : n + m ≤ maxLen) (hbytes : (n + m) * bytes ≤ 140737488355328) (hbase : base ≤ w.heap.size)
    (h : ∀ v' w', w'.ownsRow base e size v' (n + m) (xs ++ news) → w.grownBy w' v.ownBlock → (v'.ownBlock = v.ownBlock ∨ v'.ownBlock = some w.heap.size) → wpList P ops Q rest (a.put o.dst v') w') : wpList P ops Q (o :: rest) a w := by
  refine wpList_plain hgd fun K hK => ?_
  obtain ⟨v', w', hr, h2, h3, _, h5⟩ := run_append_own_at (P := P) w base t o.type e i z size bytes ht hi hz hsize hby hzs hsz v n xs hown ad m c news hl hnews h1 h63 hbytes hbase
  unfold Oper.wp execOp
  simp only [ho, resolve, invoke, builtin, Sem.run_bind, Sem.run_pure, Result.andThen_ok, List.map_toArray, List.map_cons, List.map_nil, hs, hx, hr]
  exact hK _ _ (h v' w' h2 h3 h5)
theorem step_append_atP {P : Program} {w : World} {ops : Array Oper} {o : Oper} {a : Act} {K : Act → World → Prop} {Q : Exit → Act → World → Prop} {E : Prop} (hgd : o.guard = none) (s x : Operand) (t : TypeId)
    (ho : o.op = .call { callee := .builtin .append, args := #[s, x], argTypes := #[t, t] })
    (base : Nat) (e : TypeId) (i : TypeInfo) (z : Value) (size bytes : Nat) (ht : P.underlying t = some (.slice e)) (hi : P.info? e = some i) (hz : i.zero = some z)
    (hsize : i.size = size) (hby : i.bytes = bytes) (hzs : z.cells.size = size) (hsz : 0 < size)
    (v : Value) (n : Nat) (xs : List Value) (hs : a.eval s = v) (hown : w.ownsRow base e size v n xs)
    (ad : Addr) (m c : Nat) (news : List Value) (hx : a.eval x = .slice (some ad) m c) (hl : news.length = m * size) (hnews : ∀ j u, news[j]? = some u → w.cell? (ad.add j) = some u) (h1 : ∀ u ∈ news, u.oneCell' = true)
    (h63 : n + m ≤ maxLen) (hbytes : (n + m) * bytes ≤ 140737488355328) (hbase : base ≤ w.heap.size)
    (h : ∀ v' w', w'.ownsRow base e size v' (n + m) (xs ++ news) → w.grownBy w' v.ownBlock → (v'.ownBlock = v.ownBlock ∨ v'.ownBlock = some w.heap.size) → K (a.put o.dst v') w') : if Region.wanted o (yielded ops a.tmps) = true then Oper.wp P o a w K Q else E := by
  have hw : Region.wanted o (yielded ops a.tmps) = true := by simp [Region.wanted, hgd]
  rw [if_pos hw]
  obtain ⟨v', w', hr, h2, h3, _, h5⟩ := run_append_own_at (P := P) w base t o.type e i z size bytes ht hi hz hsize hby hzs hsz v n xs hown ad m c news hl hnews h1 h63 hbytes hbase
  unfold Oper.wp execOp
  simp only [ho, resolve, invoke, builtin, Sem.run_bind, Sem.run_pure, Result.andThen_ok, List.map_toArray, List.map_cons, List.map_nil, hs, hx, hr]
  exact h v' w' h2 h3 h5
/-- The blocks that the document's Writer is in. -/
def dS (g : Nat) (rv : Value) (us : List Value) : Nat → Prop := fun k => k = g ∨ rv.ownBlock = some k ∨ ∃ (j : Nat) (u : Value), us[j]? = some u ∧ u.ownBlock = some k
theorem DL.same {g : Nat} {d : DSt} {w w' : World} {rv : Value} {us : List Value} (h : DL g d w rv us) (k : Same w w') : DL g d w' rv us :=
  ⟨blk_kept k (fun h => h) h.box, h.len, own_kept h.row k (fun _ _ h => h), fun i x u hx hu => own_kept (h.rooms i x u hx hu) k (fun _ _ h => h), h.apart⟩
theorem strCells_map (s : ByteArray) : Lib.strCells s = s.data.toList.map U8 := by
  first | rfl | simp [Lib.strCells, U8]
theorem append_last (A B : List (List UInt8)) (x : List UInt8) (h : B[B.length - 1]? = some x) : (A ++ B)[(A ++ B).length - 1]? = some x ∧ ∀ y, (A ++ B).set ((A ++ B).length - 1) y = A ++ B.set (B.length - 1) y := by
  have hl : 0 < B.length := by
    have := (List.getElem?_eq_some_iff.1 h).1
    omega
  refine ⟨?_, fun y => ?_⟩
  · rw [List.getElem?_append_right (by rw [List.length_append]; omega), List.length_append, show A.length + B.length - 1 - A.length = B.length - 1 by omega, h]
  · rw [List.set_append_right _ _ (by rw [List.length_append]; omega), List.length_append, show A.length + B.length - 1 - A.length = B.length - 1 by omega]
theorem DL.count {g : Nat} {d : DSt} {w : World} {rv : Value} {us : List Value} (h : DL g d w rv us) : DL g { d with count := d.count + 1 } (w.setCell ⟨g, 5, none⟩ (.int .i64 ((d.count : Int) + 1))) rv us ∧ Kept (fun k => k = g) w (w.setCell ⟨g, 5, none⟩ (.int .i64 ((d.count : Int) + 1))) := by
  have hk : Kept (fun k => k = g) w (w.setCell ⟨g, 5, none⟩ (.int .i64 ((d.count : Int) + 1))) := (Kept.refl (fun k => k = g) w).setCell (p := ⟨g, 5, none⟩) rfl _
  refine ⟨⟨by simpa using blk_set (j := 5) h.box (.int .i64 ((d.count : Int) + 1)), h.len, own_kept h.row hk (fun k e1 e => own_apart h.row h.box (by decide) (by rw [e1, e])), fun i x u hx hu => ?_, h.apart⟩, hk⟩
  have ho := h.rooms i x u hx hu
  exact own_kept ho hk (fun k e1 e => own_apart ho h.box (by decide) (by rw [e1, e]))
theorem pushL_snoc (r : Nat) (l : List (List UInt8)) (bs : List UInt8) (b : UInt8) : pushL r l (bs ++ [b]) = pushB r (pushL r l bs) b := by simp [pushL]
theorem infoRo : (Tryd.prog.info? 39).map (fun i => (i.zero, i.size, i.bytes)) = some (some (.slice none 0 0), 1, 24) := by kernel_rfl
end Go.Proofs.YtljbmpnpbjnbkaaDoor
namespace Go.Proofs.YtljbmpnpbjnbkaaDoor
open Go.RowKit
set_option linter.unusedVariables false
set_option linter.unusedSimpArgs false
theorem set_end (R : List (List UInt8)) (b : UInt8) (m : Nat) (h : m = R.length) : (R ++ [[]]).set m ([] ++ [b]) = R ++ [[b]] := by
  subst h
  simp
theorem DL.lay {g rb m N : Nat} {d0 : DSt} {w W W1 w5 : World} {rv u u' rv0 v : Value} {us us0 xs : List Value} {R R' : List (List UInt8)} {x : List UInt8} {b : UInt8}
    (hD : DL g { d0 with rooms := R } W rv us) (hx : R[m]? = some x) (hu : us[m]? = some u) (hrb : rv.ownBlock = some rb) (hfin : R.set m (x ++ [b]) = R')
    (hF : ∀ k, k < w.heap.size → dS g rv us k → dS g rv0 us0 k) (hK : Kept (dS g rv0 us0) w W)
    (hB : W.ownsRow 0 5 1 v N xs) (hA : ∀ (j : Nat) (u : Value) (k : Nat), us[j]? = some u → u.ownBlock = some k → v.ownBlock ≠ some k)
    (k1 : Same W W1) (hg : W1.grownBy w5 u.ownBlock) (ho : w5.ownsRow 0 5 1 u' (x.length + 1) (x.map U8 ++ [U8 b])) (hat : u'.ownBlock = u.ownBlock ∨ u'.ownBlock = some W1.heap.size) :
    DL g { d0 with rooms := R' } (w5.setCell ⟨rb, m, none⟩ u') rv (us.set m u') ∧ (w5.setCell ⟨rb, m, none⟩ u').ownsRow 0 5 1 v N xs ∧
    (∀ (j : Nat) (y : Value) (k : Nat), (us.set m u')[j]? = some y → y.ownBlock = some k → v.ownBlock ≠ some k) ∧
    (∀ k, k < w.heap.size → dS g rv (us.set m u') k → dS g rv0 us0 k) ∧ Kept (dS g rv0 us0) w (w5.setCell ⟨rb, m, none⟩ u') := by
  have hou := hD.rooms m x u hx hu
  obtain ⟨_, rcs, hrc⟩ := own_bk hD.row hrb
  have hml := (List.getElem?_eq_some_iff.1 hu).1
  have hs1 := k1.size
  have hs2 := hK.size
  have hk5 : Kept (fun k => u.ownBlock = some k ∨ k = rb) W (w5.setCell ⟨rb, m, none⟩ u') :=
    ((((Kept.refl (fun k => u.ownBlock = some k ∨ k = rb) W).trans (k1.mono (fun _ _ h => h.elim))).grown hg (fun k e _ => Or.inl e))).setCell (p := ⟨rb, m, none⟩) (Or.inr rfl) _
  have hat' : ∀ k, u'.ownBlock = some k → u.ownBlock = some k ∨ W1.heap.size ≤ k := fun k e => by
    rcases hat with h | h
    · exact .inl (h ▸ e)
    · rw [h] at e
      cases e
      exact .inr (Nat.le_refl _)
  have hvb : ∀ k, v.ownBlock = some k → ¬ (u.ownBlock = some k ∨ k = rb) := fun k e h => by
    rcases h with h | h
    · exact hA m u k hu h e
    · exact own_apart hB hrc (by decide) (by rw [e, h])
  refine ⟨?_, own_kept hB hk5 hvb, fun j y k hy e1 e2 => ?_, fun k hk hd => ?_, hK.trans' hk5 (fun i hi hz => ?_)⟩
  · have h1 := (hD.same k1).on (i := m) (y := x ++ [b]) hx hu hg (by rw [List.length_append, List.map_append]; exact ho) hat' hrb
    rw [← hfin]
    exact h1
  · by_cases hj : j = m
    · subst hj
      rw [List.getElem?_set_self hml] at hy
      cases hy
      rcases hat' k e1 with h | h
      · exact hA j u k hu h e2
      · have := blk_lt (own_bk hB e2).2.choose_spec
        omega
    · rw [List.getElem?_set_ne (fun e => hj e.symm)] at hy
      exact hA j y k hy e1 e2
  · rcases hd with h | h | ⟨j, y, hy, e1⟩
    · exact hF k hk (.inl h)
    · exact hF k hk (.inr (.inl h))
    · by_cases hj : j = m
      · subst hj
        rw [List.getElem?_set_self hml] at hy
        cases hy
        rcases hat' k e1 with h | h
        · exact hF k hk (.inr (.inr ⟨j, u, hu, h⟩))
        · omega
      · rw [List.getElem?_set_ne (fun e => hj e.symm)] at hy
        exact hF k hk (.inr (.inr ⟨j, y, hy, e1⟩))
  · rcases hz with h | h
    · exact hF i hi (.inr (.inr ⟨m, u, hu, h⟩))
    · exact hF i hi (.inr (.inl (by rw [hrb, h])))
theorem DL.grow {g N : Nat} {d0 : DSt} {w W W1 w4 : World} {rv rv' rv0 v : Value} {us us0 xs : List Value} {R : List (List UInt8)}
    (hD : DL g { d0 with rooms := R } W rv us)
    (hF : ∀ k, k < w.heap.size → dS g rv us k → dS g rv0 us0 k) (hK : Kept (dS g rv0 us0) w W)
    (hB : W.ownsRow 0 5 1 v N xs) (hA : ∀ (j : Nat) (u : Value) (k : Nat), us[j]? = some u → u.ownBlock = some k → v.ownBlock ≠ some k)
    (k1 : Same W W1) (hg : W1.grownBy w4 rv.ownBlock) (ho : w4.ownsRow 0 39 1 rv' (R.length + 1) (us ++ [.slice none 0 0])) (hat : rv'.ownBlock = rv.ownBlock ∨ rv'.ownBlock = some W1.heap.size) :
    DL g { d0 with rooms := R ++ [[]] } (w4.setCell ⟨g, 3, none⟩ rv') rv' (us ++ [.slice none 0 0]) ∧ (w4.setCell ⟨g, 3, none⟩ rv').ownsRow 0 5 1 v N xs ∧
    (∀ (j : Nat) (y : Value) (k : Nat), (us ++ [.slice none 0 0])[j]? = some y → y.ownBlock = some k → v.ownBlock ≠ some k) ∧
    (∀ k, k < w.heap.size → dS g rv' (us ++ [.slice none 0 0]) k → dS g rv0 us0 k) ∧ Kept (dS g rv0 us0) w (w4.setCell ⟨g, 3, none⟩ rv') ∧ (us ++ [.slice none 0 0])[R.length]? = some (.slice none 0 0) := by
  have hs1 := k1.size
  have hs2 := hK.size
  have hln := hD.len
  have hk5 : Kept (fun k => rv.ownBlock = some k ∨ k = g) W (w4.setCell ⟨g, 3, none⟩ rv') :=
    ((((Kept.refl (fun k => rv.ownBlock = some k ∨ k = g) W).trans (k1.mono (fun _ _ h => h.elim))).grown hg (fun k e _ => Or.inl e))).setCell (p := ⟨g, 3, none⟩) (Or.inr rfl) _
  have hvb : ∀ k, v.ownBlock = some k → ¬ (rv.ownBlock = some k ∨ k = g) := fun k e h => by
    rcases h with h | h
    · obtain ⟨_, cs, hcs⟩ := own_bk hD.row h
      exact own_apart hB hcs (by decide) e
    · exact own_apart hB hD.box (by decide) (by rw [e, h])
  have hold : ∀ (j : Nat) (y : Value) (k : Nat), (us ++ [Value.slice none 0 0])[j]? = some y → y.ownBlock = some k → us[j]? = some y := fun j y k hj hy => by
    rcases Nat.lt_or_ge j us.length with h | h
    · rwa [List.getElem?_append_left h] at hj
    · rw [List.getElem?_append_right h] at hj
      have h0 : j - us.length = 0 := by
        have := (List.getElem?_eq_some_iff.1 hj).1
        simpa using this
      rw [h0] at hj
      obtain rfl : Value.slice none 0 0 = y := by simpa using hj
      cases hy
  refine ⟨(hD.same k1).more hg ho, own_kept hB hk5 hvb, fun j y k hj hy => hA j y k (hold j y k hj hy) hy, fun k hk hd => ?_, hK.trans' hk5 (fun i hi hz => ?_), ?_⟩
  · rcases hd with h | h | ⟨j, y, hy, e1⟩
    · exact hF k hk (.inl h)
    · rcases hat with e | e
      · exact hF k hk (.inr (.inl (by rw [← e]; exact h)))
      · rw [e] at h
        cases h
        omega
    · exact hF k hk (.inr (.inr ⟨j, y, hold j y k hy e1, e1⟩))
  · rcases hz with h | h
    · exact hF i hi (.inr (.inl h))
    · exact hF i hi (.inl h)
  · rw [show R.length = us.length from hln.symm]
    simp
end Go.Proofs.YtljbmpnpbjnbkaaDoor
namespace Go.Proofs.YtljbmpnpbjnbkaaDoor
open Go.RowKit
set_option linter.unusedVariables false
set_option linter.unusedSimpArgs false
set_option maxHeartbeats 1000000 in
set_option maxRecDepth 100000 in
theorem appendD_yes {g : Nat} {d : DSt} {w : World} {rv0 : Value} {us0 : List Value} (h : DL g d w rv0 us0) {s : JSt} (ag : Ag d s) (rec : ByteArray) (he : s.appErr rec.size = 0) : Calls Tryd.prog 12 #[.pointer (some ⟨g, 0, none⟩), .string rec] w fun e w' => e = .returned (.int .i64 0) ∧ (∃ rv us, DL g (d.app rec.data.toList) w' rv us ∧ ∀ k, k < w.heap.size → dS g rv us k → dS g rv0 us0 k) ∧ Kept (dS g rv0 us0) w w' := by
  obtain ⟨i0, hi0, hz0, hz1, hz2⟩ := info_parts info5
  obtain ⟨iR, hiR, hr0, hr1, hr2⟩ := info_parts infoRo
  have HF := hidden (fun W (k : Same w W) => freeD_any (h.same k).dw ag)
  have hfb : s.free ≤ 16777216 := by have := ag.ok.rooms; unfold JSt.free; omega
  unfold JSt.appErr at he
  generalize s.free = fr at *
  have g1 : ¬ 65536 < rec.size := fun h1 => by rw [if_pos h1] at he; cases he
  rw [if_neg g1] at he
  have g2 : ¬ fr < 4 + rec.size := fun h2 => by rw [if_pos h2] at he; cases he
  have q1 : ¬ (65536 : Int) < (rec.size : Int) := by omega
  have a1 : IntKind.i64.wrap (4 + (rec.size : Int)) = 4 + (rec.size : Int) := by rw [IntKind.wrap_i64]; omega
  have q2 : ¬ (fr : Int) < 4 + (rec.size : Int) := by omega
  have a2 : IntKind.u64.wrap (rec.size : Int) = (rec.size : Int) := by rw [IntKind.wrap_u64]; omega
  have H4 := hidden (fun W => high4_any rec.size (by omega) W)
  have H := hidden h
  have HAg := hidden ag
  have m1 : Hid (4 + rec.size ≤ maxLen) := hidden (by unfold maxLen; omega)
  have m2 : Hid (4 + rec.size ≤ 140737488355328) := hidden (by omega)
  clear he h ag
  go_enter Tryd.func12, Tryd.ntmps12
  go_wp2_with (first
    | (go_at_call 36; refine (HF.out _ (Kept.refl _ _)).mono ?_; rintro e w1 ⟨rfl, k1⟩; have K1 := hidden k1; clear k1)
    | (go_at_call 37; refine (H4.out _).mono ?_; rintro e w2 ⟨rfl, hb2, k2⟩; have K2 := hidden (K1.out.trans k2); have OB2 : Hid (w2.ownsRow 0 5 1 (.slice (some ⟨w1.heap.size, 0, none⟩) 4 4) 4 ((be 4 rec.size).map U8)) := hidden ⟨by simp [be_length], .inr ⟨w1.heap.size, 4, _, rfl, Nat.zero_le _, hb2, Nat.le_refl _, by decide, by simp [be_length], List.take_of_length_le (by simp [be_length])⟩⟩; clear k2 hb2)
    | (at_builtin; go_must (refine wpList_append_at _ rfl _ _ 39 9 rfl 5 i0 Tryd.underlying39 Tryd.underlying9 hi0 hz0 hz1 hz2 _ 4 _ rfl OB2.out rec rfl m1.out m2.out ?_); intro v3 w3 ho3 hg3 hk3; obtain ⟨a3, c3, hv3⟩ := own_form ho3; subst hv3; have HO3 := hidden ho3; have HG3 := hidden hg3; have HK3 := hidden hk3; clear ho3 hg3 hk3))
  have hs1 := K1.out.size
  have K3 : Hid (Same w w3) := hidden (K2.out.grown HG3.out (fun k e hk => by obtain rfl : w1.heap.size = k := Option.some.inj e; omega))
  have HY : Hid (∀ k, (Value.slice a3 (4 + rec.size) c3).ownBlock = some k → w.heap.size ≤ k) := hidden (fun k hk => by
    have hs2 := K2.out.size
    by_cases hlt : k < w2.heap.size
    · have := HK3.out k hlt hk
      cases this
      exact hs1
    · omega)
  obtain ⟨L, hL⟩ : ∃ L, L = be 4 rec.size ++ rec.data.toList := ⟨_, rfl⟩
  have hLl : L.length = 4 + rec.size := by rw [hL, List.length_append, be_length]; show 4 + rec.data.toList.length = 4 + rec.data.size; rw [Array.length_toList]
  have HB3 : Hid (w3.ownsRow 0 5 1 (.slice a3 (4 + rec.size) c3) (4 + rec.size) (L.map U8)) := hidden (by
    have := HO3.out
    rw [strCells_map, ← List.map_append, ← hL] at this
    exact this)
  have HLd := hidden hL
  have HLl := hidden hLl
  obtain ⟨N, hN⟩ : ∃ N, N = 4 + rec.size := ⟨_, rfl⟩
  have hNb : N ≤ 70000 := by omega
  rw [← hN] at HB3 HY HLl ⊢
  have HN := hidden hN
  clear hL hLl hN
  have hcr : ∀ x : DSt, { x with rooms := x.rooms.take x.taken ++ pushL (x.size - 24) x.cur [] } = x := fun x => by
    obtain ⟨_, _, _, R, T, _⟩ := x
    simp [pushL, DSt.cur]
  have hst : Hid (DL g { d with rooms := d.rooms.take d.taken ++ pushL (d.size - 24) d.cur (L.take 0) } w3 rv0 us0) := hidden (by rw [List.take_zero, hcr]; exact H.out.same K3.out)
  have hap : Hid (∀ (j : Nat) (u : Value) (k : Nat), us0[j]? = some u → u.ownBlock = some k → (Value.slice a3 N c3).ownBlock ≠ some k) := hidden (fun j u k hu hk e => by
    obtain ⟨x, hx⟩ : ∃ x, d.rooms[j]? = some x := ⟨_, List.getElem?_eq_getElem (by have := (List.getElem?_eq_some_iff.1 hu).1; have := H.out.len; omega)⟩
    have h1 := blk_lt (own_bk (H.out.rooms j x u hx hu) hk).2.choose_spec
    have h2 := HY.out k e
    omega)
  clear hcr
  go_loopw [6] (fun v wr => ∃ i : Nat, v = .int .i64 i ∧ i ≤ N ∧ ∃ rv us, DL g { d with rooms := d.rooms.take d.taken ++ pushL (d.size - 24) d.cur (L.take i) } wr rv us ∧ wr.ownsRow 0 5 1 (.slice a3 N c3) N (L.map U8) ∧ (∀ (j : Nat) (u : Value) (k : Nat), us[j]? = some u → u.ownBlock = some k → (Value.slice a3 N c3).ownBlock ≠ some k) ∧ (∀ k, k < w.heap.size → dS g rv us k → dS g rv0 us0 k) ∧ Kept (dS g rv0 us0) w wr) (fun v _ => N - (intOf v).toNat)
  case atStart => exact ⟨0, rfl, Nat.zero_le _, rv0, us0, hst.out, HB3.out, hap.out, fun k _ h => h, K3.out.mono (fun _ _ h => h.elim)⟩
  case round =>
    obtain ⟨i, rfl, hi, rv, us, hD, hB, hA, hF, hK⟩ := hrel
    by_cases g3 : i < N
    · obtain ⟨b, hbL⟩ : ∃ b, L[i]? = some b := ⟨_, List.getElem?_eq_getElem (by rw [HLl.out]; exact g3)⟩
      have hsn : L.take (i + 1) = L.take i ++ [b] := by rw [List.take_add_one, hbL]; rfl
      have HNx := hidden (show pushL (d.size - 24) d.cur (L.take (i + 1)) = pushB (d.size - 24) (pushL (d.size - 24) d.cur (L.take i)) b by rw [hsn, pushL_snoc])
      have hTl : (d.rooms.take d.taken).length = d.taken := by have := HAg.out.le; rw [List.length_take]; omega
      obtain ⟨C, hC⟩ : ∃ C, C = pushL (d.size - 24) d.cur (L.take i) := ⟨_, rfl⟩
      obtain ⟨A, hAA⟩ : ∃ A, A = d.rooms.take d.taken := ⟨_, rfl⟩
      rw [← hC, ← hAA] at hD
      rw [← hC] at HNx
      rw [← hAA] at hTl
      have HAA := hidden hAA
      obtain ⟨y3, hya⟩ : ∃ y3, a3 = some ⟨y3, 0, none⟩ := by
        obtain ⟨b9, cap9, e9, h9⟩ := own_at hB (u := U8 b) (by rw [List.getElem?_map, hbL]; rfl)
        cases e9
        exact ⟨b9, rfl⟩
      subst hya
      have HLE := hidden (append_last A C)
      have hcb : Chk (d.size - 24) C := by
        rw [hC, HAg.out.size]
        exact Chk.pushL (by have := HAg.out.ok.s0; omega) _ HAg.out.chk
      have hrl : C.length ≤ 17000000 := by
        have h1 := hcb.many (by have := HAg.out.size; have := HAg.out.ok.s0; omega)
        rw [h1]
        refine Nat.le_trans (Nat.div_le_self _ _) ?_
        rw [hC, pushL_flat, List.length_append, HAg.out.flat]
        have h2 := HAg.out.ok.len
        have h3 : (L.take i).length ≤ 70000 := by rw [List.length_take]; omega
        have h4 := HAg.out.size
        have h5 := HAg.out.ok.s1
        omega
      have hS1 := HAg.out.size
      have hok := HAg.out.ok
      have hs0 : 512 ≤ d.size := by rw [hS1]; exact hok.s0
      have hs1 : d.size ≤ 4096 := by rw [hS1]; exact hok.s1
      have htk : d.taken ≤ 4096 := by have := HAg.out.taken; have := hok.t; have := hok.n1; omega
      have w0 : IntKind.i64.wrap ((d.size : Int) - 24) = ((d.size - 24 : Nat) : Int) := by rw [IntKind.wrap_i64]; omega
      have HQn := hidden g3
      have HQ3 := hidden (show (i : Int) < (N : Int) by omega)
      have HbL := hidden hbL
      have HFr := hidden hF
      have HKw := hidden hK
      have HB := hidden hB
      have HA := hidden hA
      obtain ⟨R, hR⟩ : ∃ R, R = A ++ C := ⟨_, rfl⟩
      have hRl : R.length = d.taken + C.length := by rw [hR, List.length_append, hTl]
      rw [← hR] at hD
      have HR := hidden hR
      have HC := hidden hC
      have HNx' : Hid (pushL (d.size - 24) d.cur (L.take (i + 1)) = pushB (d.size - 24) C b) := HNx
      clear hS1 hok hsn hC hAA hF hK hB hA hbL HNx hi
      by_cases hnew : C = [] ∨ ∃ x, C[C.length - 1]? = some x ∧ x.length = d.size - 24
      · -- a room more
        have HFin0 := hidden (show (R ++ [[]]).set R.length ([] ++ [b]) = d.rooms.take d.taken ++ pushL (d.size - 24) d.cur (L.take (i + 1)) by
          rw [HNx'.out, pushB_new b C hnew, ← HAA.out, ← List.append_assoc, ← HR.out]
          exact set_end R b _ rfl)
        obtain ⟨m, hm⟩ : ∃ m, m = R.length := ⟨_, rfl⟩
        have hml : m ≤ 17005000 := by omega
        obtain ⟨a6, c6, hrv6⟩ : ∃ a c, rv = .slice a m c := by
          obtain ⟨a, c, h⟩ := own_form hD.row
          refine ⟨a, c, ?_⟩
          rw [h]
          subst hm
          rfl
        subst hrv6
        have hro : wr.ownsRow 0 39 1 (.slice a6 m c6) m us := by
          rw [hm]
          exact hm ▸ hD.row
        have HD := hidden hD
        have HRo := hidden hro
        have HM := hidden hm
        have HTl := hidden hTl
        have d0 : wr.cell? ⟨g, 0, none⟩ = some (.int .i64 d.size) := blk_cell hD.box
        have d3 : wr.cell? ⟨g, 3, none⟩ = some (.slice a6 m c6) := blk_cell hD.box
        have d4 : wr.cell? ⟨g, 4, none⟩ = some (.int .i64 d.taken) := blk_cell hD.box
        have m3 : Hid (m + 1 ≤ maxLen) := hidden (by unfold maxLen; omega)
        have m4 : Hid ((m + 1) * 24 ≤ 140737488355328) := hidden (by omega)
        have q3 := HQ3.out
        have wp1 : IntKind.i64.wrap ((m : Int) + 1) = (m : Int) + 1 := by rw [IntKind.wrap_i64]; omega
        by_cases hC0 : C = []
        · have hc0 : C.length = 0 := by rw [hC0]; rfl
          have e0 : (m : Int) = (d.taken : Int) := by omega
          have e1 : ((m : Int) == (d.taken : Int)) = true := by simp [e0]
          clear hnew hD hro hm hRl hTl hC0 hc0 hrl hcb e0
          go_wp2
          go_quiet (fail)
          go_wp2_with (first
            | (at_builtin; go_must (refine wpList_append_atP _ rfl _ _ 42 rfl 0 39 iR _ 1 24 Tryd.underlying42 hiR hr0 hr1 hr2 rfl (by decide) _ _ _ rfl ((own_kept HRo.out ((Kept.refl (fun _ => False) wr).drewN nq) (fun _ _ h => h)).alloc _) ⟨wr.heap.size, 0, none⟩ 1 1 _ rfl rfl (World.news_of_block (heap_alloc_new (wr.drewN nq) _)) (by simp [Value.oneCell']) m3.out m4.out (Nat.zero_le _) ?_); intro v4 w4 ho4 hg4 hat4; obtain ⟨a4, c4, hv4⟩ := own_form ho4; subst hv4; have hnr := own_apart HRo.out HD.out.box (by decide); have hb4 : w4.heap[g]? = _ := (hg4.block g (by have := blk_lt HD.out.box; simp; omega) (Ne.symm hnr)).trans (blk_alloc (blk_kept ((Kept.refl (fun _ => False) wr).drewN nq) (fun h => h) HD.out.box) _); have x3 : w4.cell? ⟨g, 3, none⟩ = some (.slice a6 m c6) := blk_cell hb4; have x4 : w4.frozen? ⟨g, 3, none⟩ = false := blk_free hb4; have HO4 := hidden ho4; have HG4 := hidden hg4; have HT4 := hidden hat4; clear ho4 hg4 hat4 hb4 hnr))
          obtain ⟨HD4, HB4, HA4, HF4, HK4, HU4⟩ := HD.out.grow HFr.out HKw.out HB.out HA.out (((Kept.refl (fun _ => False) wr).drewN nq).alloc _) HG4.out (by rw [← HM.out]; exact HO4.out) HT4.out
          rw [← HM.out] at HU4 HFin0
          have HDW := hidden HD4
          have HBW := hidden HB4
          have HAW := hidden HA4
          have HFrW := hidden HF4
          have HKW := hidden HK4
          have HFin := hidden HFin0.out
          have HX : Hid ((R ++ [[]])[m]? = some []) := hidden (by rw [HM.out]; simp)
          have HU := hidden HU4
          have HXl : Hid (([] : List UInt8).length = 0) := hidden rfl
          have HXb : Hid (0 ≤ 4072) := hidden (by omega)
          have hRm : (R ++ [[]]).length = m + 1 := by rw [List.length_append, HM.out]; rfl
          clear HD4 HB4 HA4 HF4 HK4 HU4 d0 d3 d4 x3 x4 HG4 HO4 HT4
          obtain ⟨xl, hxl⟩ : ∃ xl : Nat, xl = 0 := ⟨_, rfl⟩
          obtain ⟨x, hx⟩ : ∃ x : List UInt8, x = [] := ⟨_, rfl⟩
          obtain ⟨ua, hua⟩ : ∃ ua : Option Addr, ua = none := ⟨_, rfl⟩
          obtain ⟨uc, huc⟩ : ∃ uc : Nat, uc = 0 := ⟨_, rfl⟩
          rw [show (Value.slice none 0 0) = Value.slice ua xl uc by rw [hua, hxl, huc]] at HU HDW HAW HFrW
          obtain ⟨R2, hR2⟩ : ∃ R2, R2 = R ++ [[]] := ⟨_, rfl⟩
          rw [← hR2] at HDW HX HFin hRm
          have HX : Hid (R2[m]? = some x) := hidden (by rw [hx]; exact HX.out)
          have HFin : Hid (R2.set m (x ++ [b]) = d.rooms.take d.taken ++ pushL (d.size - 24) d.cur (L.take (i + 1))) := hidden (by rw [hx]; exact HFin.out)
          have HXl : Hid (x.length = xl) := hidden (by rw [hx, hxl]; rfl)
          have HXb : Hid (xl ≤ 4072) := hidden (by omega)
          clear hx hxl hua huc
          obtain ⟨us2, hus2⟩ : ∃ us2, us2 = us ++ [Value.slice ua xl uc] := ⟨_, rfl⟩
          rw [← hus2] at HDW HU HAW HFrW
          obtain ⟨W, hW⟩ : ∃ W, W = w4.setCell ⟨g, 3, none⟩ (.slice a4 (m + 1) c4) := ⟨_, rfl⟩
          rw [← hW] at HDW HBW HKW ⊢
          clear hW hR2 hus2
          -- region 13
          obtain ⟨rb, rcap, rcs, hrv, hrb, hrc⟩ := own_atB HDW.out.row HU.out
          injection hrv with hrv1 hrv2 hrv3
          subst hrv1
          subst hrv3
          have hbx := HDW.out.box
          have hou := HDW.out.rooms m x _ HX.out HU.out
          rw [HXl.out] at hou
          have hxb := HXb.out
          have d3 : W.cell? ⟨g, 3, none⟩ = some (.slice (some ⟨rb, 0, none⟩) (m + 1) c4) := blk_cell hbx
          have dc : W.cell? ⟨rb, m, none⟩ = some (.slice ua xl uc) := (blk_cell hrb).trans hrc
          have dcA : ∀ o, (W.alloc o).cell? ⟨rb, m, none⟩ = some (.slice ua xl uc) := fun o => (blk_cell (blk_alloc hrb o)).trans hrc
          have zg1 := own_apart hou hbx (by decide)
          have zg2 : g ≠ rb := fun e => own_apart HDW.out.row hbx (by decide) (by rw [e]; rfl)
          have zy1 : (Value.slice ua xl uc).ownBlock ≠ some y3 := fun e => HAW.out m _ y3 HU.out e rfl
          have zy2 : y3 ≠ rb := fun e => own_apart HBW.out hrb (by decide) (by rw [← e]; rfl)
          obtain ⟨b9, cap9, e9, d3c⟩ := own_at HBW.out (u := U8 b) (by rw [List.getElem?_map, HbL.out]; rfl)
          cases e9
          have d3c : W.cell? ⟨y3, i, none⟩ = some (.int .u8 (b.toNat : Nat)) := d3c
          have HS : Hid (∀ W', Kept (fun k : Nat => (Value.slice ua xl uc).ownBlock = some k ∨ k = rb) W W' → (fun w' : World => w'.cell? ⟨g, 3, none⟩ = some (.slice (some ⟨rb, 0, none⟩) (m + 1) c4) ∧ w'.cell? ⟨y3, i, none⟩ = some (.int .u8 (b.toNat : Nat))) W') := hidden (fun W' kk => ⟨Kept.cell kk (fun h => h.elim zg1 zg2) d3, Kept.cell kk (fun h => h.elim zy1 zy2) d3c⟩)
          have HOu := hidden hou
          have HRb := hidden hrb
          have HRc := hidden hrc
          have HSub := hidden (own_apart hou hrb (by decide))
          have hb1 : Hid (xl + 1 ≤ maxLen) := hidden (by unfold maxLen; omega)
          have hb2 : Hid ((xl + 1) * 1 ≤ 140737488355328) := hidden (by omega)
          have hmx : Tryd.prog.follows .mixedOrders = true := by kernel_rfl
          have wm : IntKind.i64.wrap (((m : Int) + 1) - 1) = (m : Int) := by rw [IntKind.wrap_i64]; omega
          have wm2 : IntKind.i64.wrap (m : Int) = (m : Int) := by rw [IntKind.wrap_i64]; omega
          have qm : (0 : Int) ≤ (m : Int) := Int.natCast_nonneg _
          have qn : (m : Int) < (m : Int) + 1 := by omega
          have qi : (0 : Int) ≤ (i : Int) := Int.natCast_nonneg _
          have q3 := HQ3.out
          clear hbx hou hrb hrc zg1 zg2 zy1 zy2 hxb hrv2
          refine wp_region_held_drew (S := (fun w' : World => w'.cell? ⟨g, 3, none⟩ = some (.slice (some ⟨rb, 0, none⟩) (m + 1) c4) ∧ w'.cell? ⟨y3, i, none⟩ = some (.int .u8 (b.toNat : Nat)))) hmx (HS.out _ ((Kept.refl (fun k : Nat => (Value.slice ua xl uc).ownBlock = some k ∨ k = rb) W).drew)) (fun _ => ?_)
          refine wpAnyH_take (i := 0) (v := (.pointer (some ⟨g, 0, none⟩))) rfl (by kernel_rfl) (by kernel_rfl) (by kernel_rfl) (fun _ _ _ h => h) (Or.inl ⟨by rfl, (by intro w hSw; obtain ⟨s1, s2⟩ := hSw; go_simp; try rfl)⟩) (HS.out _ (((Kept.refl (fun k : Nat => (Value.slice ua xl uc).ownBlock = some k ∨ k = rb) W).drew))) ?_; (try go_simp)
          refine wpAnyH_take (i := 1) (v := (.pointer (some ⟨g, 0, none⟩))) rfl (by kernel_rfl) (by kernel_rfl) (by kernel_rfl) (fun _ _ _ h => h) (Or.inl ⟨by rfl, (by intro w hSw; obtain ⟨s1, s2⟩ := hSw; go_simp; try rfl)⟩) (HS.out _ (((Kept.refl (fun k : Nat => (Value.slice ua xl uc).ownBlock = some k ∨ k = rb) W).drew))) ?_; (try go_simp)
          refine wpAnyH_take (i := 2) (v := (.pointer (some ⟨g, 3, none⟩))) rfl (by kernel_rfl) (by kernel_rfl) (by kernel_rfl) (fun _ _ _ h => h) (Or.inl ⟨by rfl, (by intro w hSw; obtain ⟨s1, s2⟩ := hSw; go_simp; try rfl)⟩) (HS.out _ (((Kept.refl (fun k : Nat => (Value.slice ua xl uc).ownBlock = some k ∨ k = rb) W).drew))) ?_; (try go_simp)
          refine wpAnyH_take (i := 3) (v := (.slice (some ⟨rb, 0, none⟩) (m + 1) c4)) rfl (by kernel_rfl) (by kernel_rfl) (by kernel_rfl) (fun _ _ _ h => h) (Or.inl ⟨by rfl, (by intro w hSw; obtain ⟨s1, s2⟩ := hSw; go_simp; try rfl)⟩) (HS.out _ (((Kept.refl (fun k : Nat => (Value.slice ua xl uc).ownBlock = some k ∨ k = rb) W).drew))) ?_; (try go_simp)
          refine wpAnyH_take (i := 4) (v := (.int .i64 ((m : Int) + 1))) rfl (by kernel_rfl) (by kernel_rfl) (by kernel_rfl) (fun _ _ _ h => h) (Or.inl ⟨by rfl, (by intro w hSw; obtain ⟨s1, s2⟩ := hSw; go_simp; try rfl)⟩) (HS.out _ (((Kept.refl (fun k : Nat => (Value.slice ua xl uc).ownBlock = some k ∨ k = rb) W).drew))) ?_; (try go_simp)
          refine wpAnyH_take (i := 5) (v := (.int .i64 (m : Int))) rfl (by kernel_rfl) (by kernel_rfl) (by kernel_rfl) (fun _ _ _ h => h) (Or.inl ⟨by rfl, (by intro w hSw; obtain ⟨s1, s2⟩ := hSw; go_simp; try rfl)⟩) (HS.out _ (((Kept.refl (fun k : Nat => (Value.slice ua xl uc).ownBlock = some k ∨ k = rb) W).drew))) ?_; (try go_simp)
          refine wpAnyH_take (i := 6) (v := (.pointer (some ⟨g, 0, none⟩))) rfl (by kernel_rfl) (by kernel_rfl) (by kernel_rfl) (fun _ _ _ h => h) (Or.inl ⟨by rfl, (by intro w hSw; obtain ⟨s1, s2⟩ := hSw; go_simp; try rfl)⟩) (HS.out _ (((Kept.refl (fun k : Nat => (Value.slice ua xl uc).ownBlock = some k ∨ k = rb) W).drew))) ?_; (try go_simp)
          refine wpAnyH_take (i := 7) (v := (.pointer (some ⟨g, 0, none⟩))) rfl (by kernel_rfl) (by kernel_rfl) (by kernel_rfl) (fun _ _ _ h => h) (Or.inl ⟨by rfl, (by intro w hSw; obtain ⟨s1, s2⟩ := hSw; go_simp; try rfl)⟩) (HS.out _ (((Kept.refl (fun k : Nat => (Value.slice ua xl uc).ownBlock = some k ∨ k = rb) W).drew))) ?_; (try go_simp)
          refine wpAnyH_take (i := 8) (v := (.pointer (some ⟨g, 3, none⟩))) rfl (by kernel_rfl) (by kernel_rfl) (by kernel_rfl) (fun _ _ _ h => h) (Or.inl ⟨by rfl, (by intro w hSw; obtain ⟨s1, s2⟩ := hSw; go_simp; try rfl)⟩) (HS.out _ (((Kept.refl (fun k : Nat => (Value.slice ua xl uc).ownBlock = some k ∨ k = rb) W).drew))) ?_; (try go_simp)
          refine wpAnyH_take (i := 9) (v := (.slice (some ⟨rb, 0, none⟩) (m + 1) c4)) rfl (by kernel_rfl) (by kernel_rfl) (by kernel_rfl) (fun _ _ _ h => h) (Or.inl ⟨by rfl, (by intro w hSw; obtain ⟨s1, s2⟩ := hSw; go_simp; try rfl)⟩) (HS.out _ (((Kept.refl (fun k : Nat => (Value.slice ua xl uc).ownBlock = some k ∨ k = rb) W).drew))) ?_; (try go_simp)
          refine wpAnyH_take (i := 10) (v := (.int .i64 ((m : Int) + 1))) rfl (by kernel_rfl) (by kernel_rfl) (by kernel_rfl) (fun _ _ _ h => h) (Or.inl ⟨by rfl, (by intro w hSw; obtain ⟨s1, s2⟩ := hSw; go_simp; try rfl)⟩) (HS.out _ (((Kept.refl (fun k : Nat => (Value.slice ua xl uc).ownBlock = some k ∨ k = rb) W).drew))) ?_; (try go_simp)
          refine wpAnyH_take (i := 11) (v := (.int .i64 (m : Int))) rfl (by kernel_rfl) (by kernel_rfl) (by kernel_rfl) (fun _ _ _ h => h) (Or.inl ⟨by rfl, (by intro w hSw; obtain ⟨s1, s2⟩ := hSw; go_simp; try rfl)⟩) (HS.out _ (((Kept.refl (fun k : Nat => (Value.slice ua xl uc).ownBlock = some k ∨ k = rb) W).drew))) ?_; (try go_simp)
          refine wpAnyH_take (i := 12) (v := (.pointer (some ⟨rb, m, none⟩))) rfl (by kernel_rfl) (by kernel_rfl) (by kernel_rfl) (fun _ _ _ h => h) (Or.inl ⟨by rfl, (by intro w hSw; obtain ⟨s1, s2⟩ := hSw; go_simp; try rfl)⟩) (HS.out _ (((Kept.refl (fun k : Nat => (Value.slice ua xl uc).ownBlock = some k ∨ k = rb) W).drew))) ?_; (try go_simp)
          refine wpAnyH_take (i := 14) (v := (.slice (some ⟨y3, 0, none⟩) N c3)) rfl (by kernel_rfl) (by kernel_rfl) (by kernel_rfl) (fun _ _ _ h => h) (Or.inl ⟨by rfl, (by intro w hSw; obtain ⟨s1, s2⟩ := hSw; go_simp; try rfl)⟩) (HS.out _ (((Kept.refl (fun k : Nat => (Value.slice ua xl uc).ownBlock = some k ∨ k = rb) W).drew))) ?_; (try go_simp)
          refine wpAnyH_take (i := 15) (v := (.int .i64 (i : Int))) rfl (by kernel_rfl) (by kernel_rfl) (by kernel_rfl) (fun _ _ _ h => h) (Or.inl ⟨by rfl, (by intro w hSw; obtain ⟨s1, s2⟩ := hSw; go_simp; try rfl)⟩) (HS.out _ (((Kept.refl (fun k : Nat => (Value.slice ua xl uc).ownBlock = some k ∨ k = rb) W).drew))) ?_; (try go_simp)
          refine wpAnyH_take (i := 16) (v := (.pointer (some ⟨y3, i, none⟩))) rfl (by kernel_rfl) (by kernel_rfl) (by kernel_rfl) (fun _ _ _ h => h) (Or.inl ⟨by rfl, (by intro w hSw; obtain ⟨s1, s2⟩ := hSw; go_simp; try rfl)⟩) (HS.out _ (((Kept.refl (fun k : Nat => (Value.slice ua xl uc).ownBlock = some k ∨ k = rb) W).drew))) ?_; (try go_simp)
          refine wpAnyH_take (i := 17) (v := (.int .u8 (b.toNat : Nat))) rfl (by kernel_rfl) (by kernel_rfl) (by kernel_rfl) (fun _ _ _ h => h) (Or.inl ⟨by rfl, (by intro w hSw; obtain ⟨s1, s2⟩ := hSw; go_simp; try rfl)⟩) (HS.out _ (((Kept.refl (fun k : Nat => (Value.slice ua xl uc).ownBlock = some k ∨ k = rb) W).drew))) ?_; (try go_simp)
          refine wpAnyH_ready (rs := [13, 18]) (by kernel_rfl) (by simp) ?_; refine (AllReadyH.cons rfl (fun K hK => ?_) (AllReadyH.cons rfl (fun K hK => ?_) AllReadyH.nil))
          · skip
            go_simp
            refine hK.out _ _ (HS.out _ (((Kept.refl (fun k : Nat => (Value.slice ua xl uc).ownBlock = some k ∨ k = rb) W).drew))) (fun _ => ?_); clear hK K; (try go_simp)
            refine wpAnyH_ready (rs := [18]) (by kernel_rfl) (by simp) ?_; refine (AllReadyH.cons rfl (fun K hK => ?_) AllReadyH.nil)
            go_simp
            refine hK.out _ _ (HS.out _ (((Kept.refl (fun k : Nat => (Value.slice ua xl uc).ownBlock = some k ∨ k = rb) W).drew).alloc (.cells #[.int .u8 (b.toNat : Nat)] 5))) (fun _ => ?_); clear hK K; (try go_simp)
            refine wpAnyH_ready (rs := [19]) (by kernel_rfl) (by simp) ?_; refine (AllReadyH.cons rfl (fun K hK => ?_) AllReadyH.nil)
            refine step_append_atP (by rfl) _ _ 39 (by rfl) 0 5 i0 _ 1 1 Tryd.underlying39 hi0 hz0 hz1 hz2 rfl (by decide) _ _ _ (by rfl) ((own_kept HOu.out ((Kept.refl (fun _ => False) W).drew) (fun _ _ h => h)).alloc _) ⟨W.heap.size, 0, none⟩ 1 1 _ (by rfl) (by rfl) (World.news_of_block (show _ = _ from heap_alloc_new W.drew (.cells #[.int .u8 (b.toNat : Nat)] 5))) (by simp [Value.oneCell']) hb1.out hb2.out (Nat.zero_le _) ?_
            intro v5 w5 hown5 hgrow5 hat5
            obtain ⟨a5, c5, hv5⟩ := own_form hown5
            subst hv5
            have K5 : Hid (Kept (fun k : Nat => (Value.slice ua xl uc).ownBlock = some k ∨ k = rb) W w5) := hidden ((((Kept.refl (fun k : Nat => (Value.slice ua xl uc).ownBlock = some k ∨ k = rb) W).drew).alloc (.cells #[.int .u8 (b.toNat : Nat)] 5)).grown hgrow5 (fun k hk _ => Or.inl hk))
            have b5 : w5.heap[rb]? = _ := (hgrow5.block rb (by have := blk_lt HRb.out; simp; omega) (Ne.symm HSub.out)).trans (blk_alloc (blk_kept ((Kept.refl (fun _ => False) W).drew) (fun h => h) HRb.out) _)
            have g5 : w5.cell? ⟨rb, m, none⟩ = some (.slice ua xl uc) := (blk_cell b5).trans HRc.out
            have y5 : w5.frozen? ⟨rb, m, none⟩ = false := blk_free b5
            have HO5 := hidden hown5
            have HG5 := hidden hgrow5
            have HT5 := hidden hat5
            clear hown5 hgrow5 hat5 b5
            refine hK.out _ _ (HS.out _ (K5.out)) (fun _ => ?_); clear hK K; (try go_simp)
            refine wpAnyH_take (i := 20) (v := (.pointer (some ⟨rb, m, none⟩))) rfl (by kernel_rfl) (by kernel_rfl) (by kernel_rfl) (fun _ _ _ h => h) (Or.inl ⟨by rfl, (by intro w hSw; obtain ⟨s1, s2⟩ := hSw; go_simp; try rfl)⟩) (HS.out _ (K5.out)) ?_; (try go_simp)
            refine wpAnyH_ready (rs := [21]) (by kernel_rfl) (by simp) ?_; refine (AllReadyH.cons rfl (fun K hK => ?_) AllReadyH.nil); go_simp
            refine hK.out _ _ (HS.out _ (K5.out.trans ((Kept.refl (fun k : Nat => (Value.slice ua xl uc).ownBlock = some k ∨ k = rb) _).setCell (p := ⟨rb, m, none⟩) (Or.inr rfl) _))) (fun _ => ?_); clear hK K; (try go_simp)
            refine wpAnyH_done (by kernel_rfl) ?_ _
            clear d3 dc dcA g5 y5 d3c
            go_wp2
            obtain ⟨z1, z2, z3, z4, z5⟩ := HDW.out.lay HX.out HU.out rfl HFin.out HFrW.out HKW.out HBW.out HAW.out (W1 := W.drew.alloc (.cells #[.int .u8 (b.toNat : Nat)] 5)) (((Kept.refl (fun _ => False) W).drew).alloc _) HG5.out (by rw [HXl.out]; exact HO5.out) HT5.out
            exact ⟨⟨i + 1, by go_num, by have := HQn.out; omega, _, _, z1, z2, z3, z4, z5⟩, by simp [intOf]; have := HQn.out; omega⟩
          · skip
            go_simp
            refine hK.out _ _ (HS.out _ (((Kept.refl (fun k : Nat => (Value.slice ua xl uc).ownBlock = some k ∨ k = rb) W).drew).alloc (.cells #[.int .u8 (b.toNat : Nat)] 5))) (fun _ => ?_); clear hK K; (try go_simp)
            refine wpAnyH_ready (rs := [13]) (by kernel_rfl) (by simp) ?_; refine (AllReadyH.cons rfl (fun K hK => ?_) AllReadyH.nil)
            go_simp
            refine hK.out _ _ (HS.out _ (((Kept.refl (fun k : Nat => (Value.slice ua xl uc).ownBlock = some k ∨ k = rb) W).drew).alloc (.cells #[.int .u8 (b.toNat : Nat)] 5))) (fun _ => ?_); clear hK K; (try go_simp)
            refine wpAnyH_ready (rs := [19]) (by kernel_rfl) (by simp) ?_; refine (AllReadyH.cons rfl (fun K hK => ?_) AllReadyH.nil)
            refine step_append_atP (by rfl) _ _ 39 (by rfl) 0 5 i0 _ 1 1 Tryd.underlying39 hi0 hz0 hz1 hz2 rfl (by decide) _ _ _ (by rfl) ((own_kept HOu.out ((Kept.refl (fun _ => False) W).drew) (fun _ _ h => h)).alloc _) ⟨W.heap.size, 0, none⟩ 1 1 _ (by rfl) (by rfl) (World.news_of_block (show _ = _ from heap_alloc_new W.drew (.cells #[.int .u8 (b.toNat : Nat)] 5))) (by simp [Value.oneCell']) hb1.out hb2.out (Nat.zero_le _) ?_
            intro v5 w5 hown5 hgrow5 hat5
            obtain ⟨a5, c5, hv5⟩ := own_form hown5
            subst hv5
            have K5 : Hid (Kept (fun k : Nat => (Value.slice ua xl uc).ownBlock = some k ∨ k = rb) W w5) := hidden ((((Kept.refl (fun k : Nat => (Value.slice ua xl uc).ownBlock = some k ∨ k = rb) W).drew).alloc (.cells #[.int .u8 (b.toNat : Nat)] 5)).grown hgrow5 (fun k hk _ => Or.inl hk))
            have b5 : w5.heap[rb]? = _ := (hgrow5.block rb (by have := blk_lt HRb.out; simp; omega) (Ne.symm HSub.out)).trans (blk_alloc (blk_kept ((Kept.refl (fun _ => False) W).drew) (fun h => h) HRb.out) _)
            have g5 : w5.cell? ⟨rb, m, none⟩ = some (.slice ua xl uc) := (blk_cell b5).trans HRc.out
            have y5 : w5.frozen? ⟨rb, m, none⟩ = false := blk_free b5
            have HO5 := hidden hown5
            have HG5 := hidden hgrow5
            have HT5 := hidden hat5
            clear hown5 hgrow5 hat5 b5
            refine hK.out _ _ (HS.out _ (K5.out)) (fun _ => ?_); clear hK K; (try go_simp)
            refine wpAnyH_take (i := 20) (v := (.pointer (some ⟨rb, m, none⟩))) rfl (by kernel_rfl) (by kernel_rfl) (by kernel_rfl) (fun _ _ _ h => h) (Or.inl ⟨by rfl, (by intro w hSw; obtain ⟨s1, s2⟩ := hSw; go_simp; try rfl)⟩) (HS.out _ (K5.out)) ?_; (try go_simp)
            refine wpAnyH_ready (rs := [21]) (by kernel_rfl) (by simp) ?_; refine (AllReadyH.cons rfl (fun K hK => ?_) AllReadyH.nil); go_simp
            refine hK.out _ _ (HS.out _ (K5.out.trans ((Kept.refl (fun k : Nat => (Value.slice ua xl uc).ownBlock = some k ∨ k = rb) _).setCell (p := ⟨rb, m, none⟩) (Or.inr rfl) _))) (fun _ => ?_); clear hK K; (try go_simp)
            refine wpAnyH_done (by kernel_rfl) ?_ _
            clear d3 dc dcA g5 y5 d3c
            go_wp2
            obtain ⟨z1, z2, z3, z4, z5⟩ := HDW.out.lay HX.out HU.out rfl HFin.out HFrW.out HKW.out HBW.out HAW.out (W1 := W.drew.alloc (.cells #[.int .u8 (b.toNat : Nat)] 5)) (((Kept.refl (fun _ => False) W).drew).alloc _) HG5.out (by rw [HXl.out]; exact HO5.out) HT5.out
            exact ⟨⟨i + 1, by go_num, by have := HQn.out; omega, _, _, z1, z2, z3, z4, z5⟩, by simp [intOf]; have := HQn.out; omega⟩
        · have hcl : 0 < C.length := List.length_pos_iff.2 hC0
          obtain ⟨x0, hx0, hf⟩ := hnew.resolve_left hC0
          obtain ⟨hx1, _⟩ := HLE.out x0 hx0
          rw [← HR.out] at hx1
          obtain ⟨p, hp⟩ : ∃ p, p = R.length - 1 := ⟨_, rfl⟩
          rw [← hp] at hx1
          have hpm : p + 1 = m := by omega
          obtain ⟨u0, hu0⟩ : ∃ u, us[p]? = some u := ⟨_, List.getElem?_eq_getElem (by have := hD.len; show p < us.length; rw [this]; show p < R.length; omega)⟩
          obtain ⟨r7, rcap7, rcs7, hrv7, hrb7, hrc7⟩ := own_atB hro hu0
          injection hrv7 with hv7a hv7b hv7c
          subst hv7a
          have hou0 := hD.rooms p x0 u0 hx1 hu0
          obtain ⟨ua0, uc0, huf0⟩ := own_form hou0
          subst huf0
          have dcp : wr.cell? ⟨r7, p, none⟩ = some (.slice ua0 x0.length uc0) := (blk_cell hrb7).trans hrc7
          have e1 : ((m : Int) == (d.taken : Int)) = false := by simpa using (by omega : (m : Int) ≠ (d.taken : Int))
          have e2 : ((x0.length : Int) == ((d.size - 24 : Nat) : Int)) = true := by rw [hf]; simp
          have wp2 : IntKind.i64.wrap ((m : Int) - 1) = (p : Int) := by rw [IntKind.wrap_i64]; omega
          have qp1 : (0 : Int) ≤ (p : Int) := Int.natCast_nonneg _
          have qp2 : (p : Int) < (m : Int) := by omega
          clear hnew hD hro hm hRl hTl hC0 hcl hrl hcb hx0 hf hx1 hp hpm hu0 hrb7 hrc7 hou0 hv7b hv7c
          go_wp2
          go_quiet (fail)
          clear dcp
          go_wp2_with (first
            | (at_builtin; go_must (refine wpList_append_atP _ rfl _ _ 42 rfl 0 39 iR _ 1 24 Tryd.underlying42 hiR hr0 hr1 hr2 rfl (by decide) _ _ _ rfl ((own_kept HRo.out ((Kept.refl (fun _ => False) wr).drewN nq) (fun _ _ h => h)).alloc _) ⟨wr.heap.size, 0, none⟩ 1 1 _ rfl rfl (World.news_of_block (heap_alloc_new (wr.drewN nq) _)) (by simp [Value.oneCell']) m3.out m4.out (Nat.zero_le _) ?_); intro v4 w4 ho4 hg4 hat4; obtain ⟨a4, c4, hv4⟩ := own_form ho4; subst hv4; have hnr := own_apart HRo.out HD.out.box (by decide); have hb4 : w4.heap[g]? = _ := (hg4.block g (by have := blk_lt HD.out.box; simp; omega) (Ne.symm hnr)).trans (blk_alloc (blk_kept ((Kept.refl (fun _ => False) wr).drewN nq) (fun h => h) HD.out.box) _); have x3 : w4.cell? ⟨g, 3, none⟩ = some (.slice (some ⟨r7, 0, none⟩) m c6) := blk_cell hb4; have x4 : w4.frozen? ⟨g, 3, none⟩ = false := blk_free hb4; have HO4 := hidden ho4; have HG4 := hidden hg4; have HT4 := hidden hat4; clear ho4 hg4 hat4 hb4 hnr))
          obtain ⟨HD4, HB4, HA4, HF4, HK4, HU4⟩ := HD.out.grow HFr.out HKw.out HB.out HA.out (((Kept.refl (fun _ => False) wr).drewN nq).alloc _) HG4.out (by rw [← HM.out]; exact HO4.out) HT4.out
          rw [← HM.out] at HU4 HFin0
          have HDW := hidden HD4
          have HBW := hidden HB4
          have HAW := hidden HA4
          have HFrW := hidden HF4
          have HKW := hidden HK4
          have HFin := hidden HFin0.out
          have HX : Hid ((R ++ [[]])[m]? = some []) := hidden (by rw [HM.out]; simp)
          have HU := hidden HU4
          have HXl : Hid (([] : List UInt8).length = 0) := hidden rfl
          have HXb : Hid (0 ≤ 4072) := hidden (by omega)
          have hRm : (R ++ [[]]).length = m + 1 := by rw [List.length_append, HM.out]; rfl
          clear HD4 HB4 HA4 HF4 HK4 HU4 d0 d3 d4 x3 x4 HG4 HO4 HT4
          obtain ⟨xl, hxl⟩ : ∃ xl : Nat, xl = 0 := ⟨_, rfl⟩
          obtain ⟨x, hx⟩ : ∃ x : List UInt8, x = [] := ⟨_, rfl⟩
          obtain ⟨ua, hua⟩ : ∃ ua : Option Addr, ua = none := ⟨_, rfl⟩
          obtain ⟨uc, huc⟩ : ∃ uc : Nat, uc = 0 := ⟨_, rfl⟩
          rw [show (Value.slice none 0 0) = Value.slice ua xl uc by rw [hua, hxl, huc]] at HU HDW HAW HFrW
          obtain ⟨R2, hR2⟩ : ∃ R2, R2 = R ++ [[]] := ⟨_, rfl⟩
          rw [← hR2] at HDW HX HFin hRm
          have HX : Hid (R2[m]? = some x) := hidden (by rw [hx]; exact HX.out)
          have HFin : Hid (R2.set m (x ++ [b]) = d.rooms.take d.taken ++ pushL (d.size - 24) d.cur (L.take (i + 1))) := hidden (by rw [hx]; exact HFin.out)
          have HXl : Hid (x.length = xl) := hidden (by rw [hx, hxl]; rfl)
          have HXb : Hid (xl ≤ 4072) := hidden (by omega)
          clear hx hxl hua huc
          obtain ⟨us2, hus2⟩ : ∃ us2, us2 = us ++ [Value.slice ua xl uc] := ⟨_, rfl⟩
          rw [← hus2] at HDW HU HAW HFrW
          obtain ⟨W, hW⟩ : ∃ W, W = w4.setCell ⟨g, 3, none⟩ (.slice a4 (m + 1) c4) := ⟨_, rfl⟩
          rw [← hW] at HDW HBW HKW ⊢
          clear hW hR2 hus2
          -- region 13
          obtain ⟨rb, rcap, rcs, hrv, hrb, hrc⟩ := own_atB HDW.out.row HU.out
          injection hrv with hrv1 hrv2 hrv3
          subst hrv1
          subst hrv3
          have hbx := HDW.out.box
          have hou := HDW.out.rooms m x _ HX.out HU.out
          rw [HXl.out] at hou
          have hxb := HXb.out
          have d3 : W.cell? ⟨g, 3, none⟩ = some (.slice (some ⟨rb, 0, none⟩) (m + 1) c4) := blk_cell hbx
          have dc : W.cell? ⟨rb, m, none⟩ = some (.slice ua xl uc) := (blk_cell hrb).trans hrc
          have dcA : ∀ o, (W.alloc o).cell? ⟨rb, m, none⟩ = some (.slice ua xl uc) := fun o => (blk_cell (blk_alloc hrb o)).trans hrc
          have zg1 := own_apart hou hbx (by decide)
          have zg2 : g ≠ rb := fun e => own_apart HDW.out.row hbx (by decide) (by rw [e]; rfl)
          have zy1 : (Value.slice ua xl uc).ownBlock ≠ some y3 := fun e => HAW.out m _ y3 HU.out e rfl
          have zy2 : y3 ≠ rb := fun e => own_apart HBW.out hrb (by decide) (by rw [← e]; rfl)
          obtain ⟨b9, cap9, e9, d3c⟩ := own_at HBW.out (u := U8 b) (by rw [List.getElem?_map, HbL.out]; rfl)
          cases e9
          have d3c : W.cell? ⟨y3, i, none⟩ = some (.int .u8 (b.toNat : Nat)) := d3c
          have HS : Hid (∀ W', Kept (fun k : Nat => (Value.slice ua xl uc).ownBlock = some k ∨ k = rb) W W' → (fun w' : World => w'.cell? ⟨g, 3, none⟩ = some (.slice (some ⟨rb, 0, none⟩) (m + 1) c4) ∧ w'.cell? ⟨y3, i, none⟩ = some (.int .u8 (b.toNat : Nat))) W') := hidden (fun W' kk => ⟨Kept.cell kk (fun h => h.elim zg1 zg2) d3, Kept.cell kk (fun h => h.elim zy1 zy2) d3c⟩)
          have HOu := hidden hou
          have HRb := hidden hrb
          have HRc := hidden hrc
          have HSub := hidden (own_apart hou hrb (by decide))
          have hb1 : Hid (xl + 1 ≤ maxLen) := hidden (by unfold maxLen; omega)
          have hb2 : Hid ((xl + 1) * 1 ≤ 140737488355328) := hidden (by omega)
          have hmx : Tryd.prog.follows .mixedOrders = true := by kernel_rfl
          have wm : IntKind.i64.wrap (((m : Int) + 1) - 1) = (m : Int) := by rw [IntKind.wrap_i64]; omega
          have wm2 : IntKind.i64.wrap (m : Int) = (m : Int) := by rw [IntKind.wrap_i64]; omega
          have qm : (0 : Int) ≤ (m : Int) := Int.natCast_nonneg _
          have qn : (m : Int) < (m : Int) + 1 := by omega
          have qi : (0 : Int) ≤ (i : Int) := Int.natCast_nonneg _
          have q3 := HQ3.out
          clear hbx hou hrb hrc zg1 zg2 zy1 zy2 hxb hrv2
          refine wp_region_held_drew (S := (fun w' : World => w'.cell? ⟨g, 3, none⟩ = some (.slice (some ⟨rb, 0, none⟩) (m + 1) c4) ∧ w'.cell? ⟨y3, i, none⟩ = some (.int .u8 (b.toNat : Nat)))) hmx (HS.out _ ((Kept.refl (fun k : Nat => (Value.slice ua xl uc).ownBlock = some k ∨ k = rb) W).drew)) (fun _ => ?_)
          refine wpAnyH_take (i := 0) (v := (.pointer (some ⟨g, 0, none⟩))) rfl (by kernel_rfl) (by kernel_rfl) (by kernel_rfl) (fun _ _ _ h => h) (Or.inl ⟨by rfl, (by intro w hSw; obtain ⟨s1, s2⟩ := hSw; go_simp; try rfl)⟩) (HS.out _ (((Kept.refl (fun k : Nat => (Value.slice ua xl uc).ownBlock = some k ∨ k = rb) W).drew))) ?_; (try go_simp)
          refine wpAnyH_take (i := 1) (v := (.pointer (some ⟨g, 0, none⟩))) rfl (by kernel_rfl) (by kernel_rfl) (by kernel_rfl) (fun _ _ _ h => h) (Or.inl ⟨by rfl, (by intro w hSw; obtain ⟨s1, s2⟩ := hSw; go_simp; try rfl)⟩) (HS.out _ (((Kept.refl (fun k : Nat => (Value.slice ua xl uc).ownBlock = some k ∨ k = rb) W).drew))) ?_; (try go_simp)
          refine wpAnyH_take (i := 2) (v := (.pointer (some ⟨g, 3, none⟩))) rfl (by kernel_rfl) (by kernel_rfl) (by kernel_rfl) (fun _ _ _ h => h) (Or.inl ⟨by rfl, (by intro w hSw; obtain ⟨s1, s2⟩ := hSw; go_simp; try rfl)⟩) (HS.out _ (((Kept.refl (fun k : Nat => (Value.slice ua xl uc).ownBlock = some k ∨ k = rb) W).drew))) ?_; (try go_simp)
          refine wpAnyH_take (i := 3) (v := (.slice (some ⟨rb, 0, none⟩) (m + 1) c4)) rfl (by kernel_rfl) (by kernel_rfl) (by kernel_rfl) (fun _ _ _ h => h) (Or.inl ⟨by rfl, (by intro w hSw; obtain ⟨s1, s2⟩ := hSw; go_simp; try rfl)⟩) (HS.out _ (((Kept.refl (fun k : Nat => (Value.slice ua xl uc).ownBlock = some k ∨ k = rb) W).drew))) ?_; (try go_simp)
          refine wpAnyH_take (i := 4) (v := (.int .i64 ((m : Int) + 1))) rfl (by kernel_rfl) (by kernel_rfl) (by kernel_rfl) (fun _ _ _ h => h) (Or.inl ⟨by rfl, (by intro w hSw; obtain ⟨s1, s2⟩ := hSw; go_simp; try rfl)⟩) (HS.out _ (((Kept.refl (fun k : Nat => (Value.slice ua xl uc).ownBlock = some k ∨ k = rb) W).drew))) ?_; (try go_simp)
          refine wpAnyH_take (i := 5) (v := (.int .i64 (m : Int))) rfl (by kernel_rfl) (by kernel_rfl) (by kernel_rfl) (fun _ _ _ h => h) (Or.inl ⟨by rfl, (by intro w hSw; obtain ⟨s1, s2⟩ := hSw; go_simp; try rfl)⟩) (HS.out _ (((Kept.refl (fun k : Nat => (Value.slice ua xl uc).ownBlock = some k ∨ k = rb) W).drew))) ?_; (try go_simp)
          refine wpAnyH_take (i := 6) (v := (.pointer (some ⟨g, 0, none⟩))) rfl (by kernel_rfl) (by kernel_rfl) (by kernel_rfl) (fun _ _ _ h => h) (Or.inl ⟨by rfl, (by intro w hSw; obtain ⟨s1, s2⟩ := hSw; go_simp; try rfl)⟩) (HS.out _ (((Kept.refl (fun k : Nat => (Value.slice ua xl uc).ownBlock = some k ∨ k = rb) W).drew))) ?_; (try go_simp)
          refine wpAnyH_take (i := 7) (v := (.pointer (some ⟨g, 0, none⟩))) rfl (by kernel_rfl) (by kernel_rfl) (by kernel_rfl) (fun _ _ _ h => h) (Or.inl ⟨by rfl, (by intro w hSw; obtain ⟨s1, s2⟩ := hSw; go_simp; try rfl)⟩) (HS.out _ (((Kept.refl (fun k : Nat => (Value.slice ua xl uc).ownBlock = some k ∨ k = rb) W).drew))) ?_; (try go_simp)
          refine wpAnyH_take (i := 8) (v := (.pointer (some ⟨g, 3, none⟩))) rfl (by kernel_rfl) (by kernel_rfl) (by kernel_rfl) (fun _ _ _ h => h) (Or.inl ⟨by rfl, (by intro w hSw; obtain ⟨s1, s2⟩ := hSw; go_simp; try rfl)⟩) (HS.out _ (((Kept.refl (fun k : Nat => (Value.slice ua xl uc).ownBlock = some k ∨ k = rb) W).drew))) ?_; (try go_simp)
          refine wpAnyH_take (i := 9) (v := (.slice (some ⟨rb, 0, none⟩) (m + 1) c4)) rfl (by kernel_rfl) (by kernel_rfl) (by kernel_rfl) (fun _ _ _ h => h) (Or.inl ⟨by rfl, (by intro w hSw; obtain ⟨s1, s2⟩ := hSw; go_simp; try rfl)⟩) (HS.out _ (((Kept.refl (fun k : Nat => (Value.slice ua xl uc).ownBlock = some k ∨ k = rb) W).drew))) ?_; (try go_simp)
          refine wpAnyH_take (i := 10) (v := (.int .i64 ((m : Int) + 1))) rfl (by kernel_rfl) (by kernel_rfl) (by kernel_rfl) (fun _ _ _ h => h) (Or.inl ⟨by rfl, (by intro w hSw; obtain ⟨s1, s2⟩ := hSw; go_simp; try rfl)⟩) (HS.out _ (((Kept.refl (fun k : Nat => (Value.slice ua xl uc).ownBlock = some k ∨ k = rb) W).drew))) ?_; (try go_simp)
          refine wpAnyH_take (i := 11) (v := (.int .i64 (m : Int))) rfl (by kernel_rfl) (by kernel_rfl) (by kernel_rfl) (fun _ _ _ h => h) (Or.inl ⟨by rfl, (by intro w hSw; obtain ⟨s1, s2⟩ := hSw; go_simp; try rfl)⟩) (HS.out _ (((Kept.refl (fun k : Nat => (Value.slice ua xl uc).ownBlock = some k ∨ k = rb) W).drew))) ?_; (try go_simp)
          refine wpAnyH_take (i := 12) (v := (.pointer (some ⟨rb, m, none⟩))) rfl (by kernel_rfl) (by kernel_rfl) (by kernel_rfl) (fun _ _ _ h => h) (Or.inl ⟨by rfl, (by intro w hSw; obtain ⟨s1, s2⟩ := hSw; go_simp; try rfl)⟩) (HS.out _ (((Kept.refl (fun k : Nat => (Value.slice ua xl uc).ownBlock = some k ∨ k = rb) W).drew))) ?_; (try go_simp)
          refine wpAnyH_take (i := 14) (v := (.slice (some ⟨y3, 0, none⟩) N c3)) rfl (by kernel_rfl) (by kernel_rfl) (by kernel_rfl) (fun _ _ _ h => h) (Or.inl ⟨by rfl, (by intro w hSw; obtain ⟨s1, s2⟩ := hSw; go_simp; try rfl)⟩) (HS.out _ (((Kept.refl (fun k : Nat => (Value.slice ua xl uc).ownBlock = some k ∨ k = rb) W).drew))) ?_; (try go_simp)
          refine wpAnyH_take (i := 15) (v := (.int .i64 (i : Int))) rfl (by kernel_rfl) (by kernel_rfl) (by kernel_rfl) (fun _ _ _ h => h) (Or.inl ⟨by rfl, (by intro w hSw; obtain ⟨s1, s2⟩ := hSw; go_simp; try rfl)⟩) (HS.out _ (((Kept.refl (fun k : Nat => (Value.slice ua xl uc).ownBlock = some k ∨ k = rb) W).drew))) ?_; (try go_simp)
          refine wpAnyH_take (i := 16) (v := (.pointer (some ⟨y3, i, none⟩))) rfl (by kernel_rfl) (by kernel_rfl) (by kernel_rfl) (fun _ _ _ h => h) (Or.inl ⟨by rfl, (by intro w hSw; obtain ⟨s1, s2⟩ := hSw; go_simp; try rfl)⟩) (HS.out _ (((Kept.refl (fun k : Nat => (Value.slice ua xl uc).ownBlock = some k ∨ k = rb) W).drew))) ?_; (try go_simp)
          refine wpAnyH_take (i := 17) (v := (.int .u8 (b.toNat : Nat))) rfl (by kernel_rfl) (by kernel_rfl) (by kernel_rfl) (fun _ _ _ h => h) (Or.inl ⟨by rfl, (by intro w hSw; obtain ⟨s1, s2⟩ := hSw; go_simp; try rfl)⟩) (HS.out _ (((Kept.refl (fun k : Nat => (Value.slice ua xl uc).ownBlock = some k ∨ k = rb) W).drew))) ?_; (try go_simp)
          refine wpAnyH_ready (rs := [13, 18]) (by kernel_rfl) (by simp) ?_; refine (AllReadyH.cons rfl (fun K hK => ?_) (AllReadyH.cons rfl (fun K hK => ?_) AllReadyH.nil))
          · skip
            go_simp
            refine hK.out _ _ (HS.out _ (((Kept.refl (fun k : Nat => (Value.slice ua xl uc).ownBlock = some k ∨ k = rb) W).drew))) (fun _ => ?_); clear hK K; (try go_simp)
            refine wpAnyH_ready (rs := [18]) (by kernel_rfl) (by simp) ?_; refine (AllReadyH.cons rfl (fun K hK => ?_) AllReadyH.nil)
            go_simp
            refine hK.out _ _ (HS.out _ (((Kept.refl (fun k : Nat => (Value.slice ua xl uc).ownBlock = some k ∨ k = rb) W).drew).alloc (.cells #[.int .u8 (b.toNat : Nat)] 5))) (fun _ => ?_); clear hK K; (try go_simp)
            refine wpAnyH_ready (rs := [19]) (by kernel_rfl) (by simp) ?_; refine (AllReadyH.cons rfl (fun K hK => ?_) AllReadyH.nil)
            refine step_append_atP (by rfl) _ _ 39 (by rfl) 0 5 i0 _ 1 1 Tryd.underlying39 hi0 hz0 hz1 hz2 rfl (by decide) _ _ _ (by rfl) ((own_kept HOu.out ((Kept.refl (fun _ => False) W).drew) (fun _ _ h => h)).alloc _) ⟨W.heap.size, 0, none⟩ 1 1 _ (by rfl) (by rfl) (World.news_of_block (show _ = _ from heap_alloc_new W.drew (.cells #[.int .u8 (b.toNat : Nat)] 5))) (by simp [Value.oneCell']) hb1.out hb2.out (Nat.zero_le _) ?_
            intro v5 w5 hown5 hgrow5 hat5
            obtain ⟨a5, c5, hv5⟩ := own_form hown5
            subst hv5
            have K5 : Hid (Kept (fun k : Nat => (Value.slice ua xl uc).ownBlock = some k ∨ k = rb) W w5) := hidden ((((Kept.refl (fun k : Nat => (Value.slice ua xl uc).ownBlock = some k ∨ k = rb) W).drew).alloc (.cells #[.int .u8 (b.toNat : Nat)] 5)).grown hgrow5 (fun k hk _ => Or.inl hk))
            have b5 : w5.heap[rb]? = _ := (hgrow5.block rb (by have := blk_lt HRb.out; simp; omega) (Ne.symm HSub.out)).trans (blk_alloc (blk_kept ((Kept.refl (fun _ => False) W).drew) (fun h => h) HRb.out) _)
            have g5 : w5.cell? ⟨rb, m, none⟩ = some (.slice ua xl uc) := (blk_cell b5).trans HRc.out
            have y5 : w5.frozen? ⟨rb, m, none⟩ = false := blk_free b5
            have HO5 := hidden hown5
            have HG5 := hidden hgrow5
            have HT5 := hidden hat5
            clear hown5 hgrow5 hat5 b5
            refine hK.out _ _ (HS.out _ (K5.out)) (fun _ => ?_); clear hK K; (try go_simp)
            refine wpAnyH_take (i := 20) (v := (.pointer (some ⟨rb, m, none⟩))) rfl (by kernel_rfl) (by kernel_rfl) (by kernel_rfl) (fun _ _ _ h => h) (Or.inl ⟨by rfl, (by intro w hSw; obtain ⟨s1, s2⟩ := hSw; go_simp; try rfl)⟩) (HS.out _ (K5.out)) ?_; (try go_simp)
            refine wpAnyH_ready (rs := [21]) (by kernel_rfl) (by simp) ?_; refine (AllReadyH.cons rfl (fun K hK => ?_) AllReadyH.nil); go_simp
            refine hK.out _ _ (HS.out _ (K5.out.trans ((Kept.refl (fun k : Nat => (Value.slice ua xl uc).ownBlock = some k ∨ k = rb) _).setCell (p := ⟨rb, m, none⟩) (Or.inr rfl) _))) (fun _ => ?_); clear hK K; (try go_simp)
            refine wpAnyH_done (by kernel_rfl) ?_ _
            clear d3 dc dcA g5 y5 d3c
            go_wp2
            obtain ⟨z1, z2, z3, z4, z5⟩ := HDW.out.lay HX.out HU.out rfl HFin.out HFrW.out HKW.out HBW.out HAW.out (W1 := W.drew.alloc (.cells #[.int .u8 (b.toNat : Nat)] 5)) (((Kept.refl (fun _ => False) W).drew).alloc _) HG5.out (by rw [HXl.out]; exact HO5.out) HT5.out
            exact ⟨⟨i + 1, by go_num, by have := HQn.out; omega, _, _, z1, z2, z3, z4, z5⟩, by simp [intOf]; have := HQn.out; omega⟩
          · skip
            go_simp
            refine hK.out _ _ (HS.out _ (((Kept.refl (fun k : Nat => (Value.slice ua xl uc).ownBlock = some k ∨ k = rb) W).drew).alloc (.cells #[.int .u8 (b.toNat : Nat)] 5))) (fun _ => ?_); clear hK K; (try go_simp)
            refine wpAnyH_ready (rs := [13]) (by kernel_rfl) (by simp) ?_; refine (AllReadyH.cons rfl (fun K hK => ?_) AllReadyH.nil)
            go_simp
            refine hK.out _ _ (HS.out _ (((Kept.refl (fun k : Nat => (Value.slice ua xl uc).ownBlock = some k ∨ k = rb) W).drew).alloc (.cells #[.int .u8 (b.toNat : Nat)] 5))) (fun _ => ?_); clear hK K; (try go_simp)
            refine wpAnyH_ready (rs := [19]) (by kernel_rfl) (by simp) ?_; refine (AllReadyH.cons rfl (fun K hK => ?_) AllReadyH.nil)
            refine step_append_atP (by rfl) _ _ 39 (by rfl) 0 5 i0 _ 1 1 Tryd.underlying39 hi0 hz0 hz1 hz2 rfl (by decide) _ _ _ (by rfl) ((own_kept HOu.out ((Kept.refl (fun _ => False) W).drew) (fun _ _ h => h)).alloc _) ⟨W.heap.size, 0, none⟩ 1 1 _ (by rfl) (by rfl) (World.news_of_block (show _ = _ from heap_alloc_new W.drew (.cells #[.int .u8 (b.toNat : Nat)] 5))) (by simp [Value.oneCell']) hb1.out hb2.out (Nat.zero_le _) ?_
            intro v5 w5 hown5 hgrow5 hat5
            obtain ⟨a5, c5, hv5⟩ := own_form hown5
            subst hv5
            have K5 : Hid (Kept (fun k : Nat => (Value.slice ua xl uc).ownBlock = some k ∨ k = rb) W w5) := hidden ((((Kept.refl (fun k : Nat => (Value.slice ua xl uc).ownBlock = some k ∨ k = rb) W).drew).alloc (.cells #[.int .u8 (b.toNat : Nat)] 5)).grown hgrow5 (fun k hk _ => Or.inl hk))
            have b5 : w5.heap[rb]? = _ := (hgrow5.block rb (by have := blk_lt HRb.out; simp; omega) (Ne.symm HSub.out)).trans (blk_alloc (blk_kept ((Kept.refl (fun _ => False) W).drew) (fun h => h) HRb.out) _)
            have g5 : w5.cell? ⟨rb, m, none⟩ = some (.slice ua xl uc) := (blk_cell b5).trans HRc.out
            have y5 : w5.frozen? ⟨rb, m, none⟩ = false := blk_free b5
            have HO5 := hidden hown5
            have HG5 := hidden hgrow5
            have HT5 := hidden hat5
            clear hown5 hgrow5 hat5 b5
            refine hK.out _ _ (HS.out _ (K5.out)) (fun _ => ?_); clear hK K; (try go_simp)
            refine wpAnyH_take (i := 20) (v := (.pointer (some ⟨rb, m, none⟩))) rfl (by kernel_rfl) (by kernel_rfl) (by kernel_rfl) (fun _ _ _ h => h) (Or.inl ⟨by rfl, (by intro w hSw; obtain ⟨s1, s2⟩ := hSw; go_simp; try rfl)⟩) (HS.out _ (K5.out)) ?_; (try go_simp)
            refine wpAnyH_ready (rs := [21]) (by kernel_rfl) (by simp) ?_; refine (AllReadyH.cons rfl (fun K hK => ?_) AllReadyH.nil); go_simp
            refine hK.out _ _ (HS.out _ (K5.out.trans ((Kept.refl (fun k : Nat => (Value.slice ua xl uc).ownBlock = some k ∨ k = rb) _).setCell (p := ⟨rb, m, none⟩) (Or.inr rfl) _))) (fun _ => ?_); clear hK K; (try go_simp)
            refine wpAnyH_done (by kernel_rfl) ?_ _
            clear d3 dc dcA g5 y5 d3c
            go_wp2
            obtain ⟨z1, z2, z3, z4, z5⟩ := HDW.out.lay HX.out HU.out rfl HFin.out HFrW.out HKW.out HBW.out HAW.out (W1 := W.drew.alloc (.cells #[.int .u8 (b.toNat : Nat)] 5)) (((Kept.refl (fun _ => False) W).drew).alloc _) HG5.out (by rw [HXl.out]; exact HO5.out) HT5.out
            exact ⟨⟨i + 1, by go_num, by have := HQn.out; omega, _, _, z1, z2, z3, z4, z5⟩, by simp [intOf]; have := HQn.out; omega⟩
      · -- the last room has place
        have hC0 : C ≠ [] := fun h => hnew (.inl h)
        have hcl : 0 < C.length := List.length_pos_iff.2 hC0
        obtain ⟨x, hx⟩ : ∃ x, C[C.length - 1]? = some x := ⟨_, List.getElem?_eq_getElem (by omega)⟩
        have hf : x.length ≠ d.size - 24 := fun h => hnew (.inr ⟨x, hx, h⟩)
        have hxb : x.length ≤ 4072 := by have := hcb.le x (List.mem_of_getElem? hx); omega
        obtain ⟨hx1, hx2⟩ := HLE.out x hx
        have hpu := pushB_on (r := d.size - 24) b C x hx hf
        rw [← HR.out] at hx1 hx2
        obtain ⟨m, hm⟩ : ∃ m, m = R.length - 1 := ⟨_, rfl⟩
        rw [← hm] at hx1 hx2
        have hRm : R.length = m + 1 := by omega
        have hml : m ≤ 17005000 := by omega
        have HFin := hidden (show R.set m (x ++ [b]) = d.rooms.take d.taken ++ pushL (d.size - 24) d.cur (L.take (i + 1)) by rw [hx2, HNx'.out, hpu, ← HAA.out])
        obtain ⟨u, hu⟩ : ∃ u, us[m]? = some u := ⟨_, List.getElem?_eq_getElem (by have := hD.len; show m < us.length; rw [this]; show m < R.length; omega)⟩
        obtain ⟨a4, c4, hrv4⟩ : ∃ a c, rv = .slice a (m + 1) c := by
          obtain ⟨a, c, h⟩ := own_form hD.row
          exact ⟨a, c, by rw [h, show ({ d with rooms := R } : DSt).rooms.length = m + 1 from hRm]⟩
        subst hrv4
        have hro : wr.ownsRow 0 39 1 (.slice a4 (m + 1) c4) (m + 1) us := by
          rw [← hRm]
          exact hRm ▸ hD.row
        obtain ⟨r7, rcap7, rcs7, hrv7, hrb7, hrc7⟩ := own_atB hro hu
        injection hrv7 with hv7a hv7b hv7c
        subst hv7a
        have hou0 := hD.rooms m x u hx1 hu
        obtain ⟨ua, uc, huf0⟩ := own_form hou0
        subst huf0
        obtain ⟨xl, hxl⟩ : ∃ xl, xl = x.length := ⟨_, rfl⟩
        rw [← hxl] at hu hrc7 hf hxb
        have d0 : wr.cell? ⟨g, 0, none⟩ = some (.int .i64 d.size) := blk_cell hD.box
        have d3 : wr.cell? ⟨g, 3, none⟩ = some (.slice (some ⟨r7, 0, none⟩) (m + 1) c4) := blk_cell hD.box
        have d4 : wr.cell? ⟨g, 4, none⟩ = some (.int .i64 d.taken) := blk_cell hD.box
        have dcp : wr.cell? ⟨r7, m, none⟩ = some (.slice ua xl uc) := (blk_cell hrb7).trans hrc7
        have e1 : (((m : Int) + 1) == (d.taken : Int)) = false := by simpa using (by omega : (m : Int) + 1 ≠ (d.taken : Int))
        have e2 : ((xl : Int) == ((d.size - 24 : Nat) : Int)) = false := by simpa using (by omega : (xl : Int) ≠ ((d.size - 24 : Nat) : Int))
        have wp2 : IntKind.i64.wrap (((m : Int) + 1) - 1) = (m : Int) := by rw [IntKind.wrap_i64]; omega
        have qp1 : (0 : Int) ≤ (m : Int) := Int.natCast_nonneg _
        have qp2 : (m : Int) < (m : Int) + 1 := by omega
        have q3 := HQ3.out
        have HX := hidden hx1
        have HU := hidden hu
        have HXl : Hid (x.length = xl) := hidden hxl.symm
        have HXb : Hid (xl ≤ 4072) := hidden hxb
        have HD := hidden hD
        have HTl := hidden hTl
        clear hnew hD hro hm hRl hTl hC0 hcl hrl hcb hx hf hx1 hx2 hpu hrb7 hrc7 hou0 hv7b hv7c hu hxl hxb
        go_wp2
        go_quiet (fail)
        go_wp2
        have HDW := hidden (HD.out.same ((Kept.refl _ wr).drewN nq))
        have HBW := hidden (own_kept HB.out ((Kept.refl (fun _ => False) wr).drewN nq) (fun _ _ h => h))
        have HAW := HA
        have HFrW := HFr
        have HKW := hidden (HKw.out.drewN nq)
        clear d0 d3 d4 dcp HD HB HKw
        generalize wr.drewN nq = W at HDW HBW HKW ⊢
        -- region 13
        obtain ⟨rb, rcap, rcs, hrv, hrb, hrc⟩ := own_atB HDW.out.row HU.out
        injection hrv with hrv1 hrv2 hrv3
        have hq : rb = r7 := by cases hrv1; rfl
        subst hq
        subst hrv3
        have hbx := HDW.out.box
        have hou := HDW.out.rooms m x _ HX.out HU.out
        rw [HXl.out] at hou
        have hxb := HXb.out
        have d3 : W.cell? ⟨g, 3, none⟩ = some (.slice (some ⟨rb, 0, none⟩) (m + 1) c4) := blk_cell hbx
        have dc : W.cell? ⟨rb, m, none⟩ = some (.slice ua xl uc) := (blk_cell hrb).trans hrc
        have dcA : ∀ o, (W.alloc o).cell? ⟨rb, m, none⟩ = some (.slice ua xl uc) := fun o => (blk_cell (blk_alloc hrb o)).trans hrc
        have zg1 := own_apart hou hbx (by decide)
        have zg2 : g ≠ rb := fun e => own_apart HDW.out.row hbx (by decide) (by rw [e]; rfl)
        have zy1 : (Value.slice ua xl uc).ownBlock ≠ some y3 := fun e => HAW.out m _ y3 HU.out e rfl
        have zy2 : y3 ≠ rb := fun e => own_apart HBW.out hrb (by decide) (by rw [← e]; rfl)
        obtain ⟨b9, cap9, e9, d3c⟩ := own_at HBW.out (u := U8 b) (by rw [List.getElem?_map, HbL.out]; rfl)
        cases e9
        have d3c : W.cell? ⟨y3, i, none⟩ = some (.int .u8 (b.toNat : Nat)) := d3c
        have HS : Hid (∀ W', Kept (fun k : Nat => (Value.slice ua xl uc).ownBlock = some k ∨ k = rb) W W' → (fun w' : World => w'.cell? ⟨g, 3, none⟩ = some (.slice (some ⟨rb, 0, none⟩) (m + 1) c4) ∧ w'.cell? ⟨y3, i, none⟩ = some (.int .u8 (b.toNat : Nat))) W') := hidden (fun W' kk => ⟨Kept.cell kk (fun h => h.elim zg1 zg2) d3, Kept.cell kk (fun h => h.elim zy1 zy2) d3c⟩)
        have HOu := hidden hou
        have HRb := hidden hrb
        have HRc := hidden hrc
        have HSub := hidden (own_apart hou hrb (by decide))
        have hb1 : Hid (xl + 1 ≤ maxLen) := hidden (by unfold maxLen; omega)
        have hb2 : Hid ((xl + 1) * 1 ≤ 140737488355328) := hidden (by omega)
        have hmx : Tryd.prog.follows .mixedOrders = true := by kernel_rfl
        have wm : IntKind.i64.wrap (((m : Int) + 1) - 1) = (m : Int) := by rw [IntKind.wrap_i64]; omega
        have wm2 : IntKind.i64.wrap (m : Int) = (m : Int) := by rw [IntKind.wrap_i64]; omega
        have qm : (0 : Int) ≤ (m : Int) := Int.natCast_nonneg _
        have qn : (m : Int) < (m : Int) + 1 := by omega
        have qi : (0 : Int) ≤ (i : Int) := Int.natCast_nonneg _
        have q3 := HQ3.out
        clear hbx hou hrb hrc zg1 zg2 zy1 zy2 hxb hrv2
        refine wp_region_held_drew (S := (fun w' : World => w'.cell? ⟨g, 3, none⟩ = some (.slice (some ⟨rb, 0, none⟩) (m + 1) c4) ∧ w'.cell? ⟨y3, i, none⟩ = some (.int .u8 (b.toNat : Nat)))) hmx (HS.out _ ((Kept.refl (fun k : Nat => (Value.slice ua xl uc).ownBlock = some k ∨ k = rb) W).drew)) (fun _ => ?_)
        refine wpAnyH_take (i := 0) (v := (.pointer (some ⟨g, 0, none⟩))) rfl (by kernel_rfl) (by kernel_rfl) (by kernel_rfl) (fun _ _ _ h => h) (Or.inl ⟨by rfl, (by intro w hSw; obtain ⟨s1, s2⟩ := hSw; go_simp; try rfl)⟩) (HS.out _ (((Kept.refl (fun k : Nat => (Value.slice ua xl uc).ownBlock = some k ∨ k = rb) W).drew))) ?_; (try go_simp)
        refine wpAnyH_take (i := 1) (v := (.pointer (some ⟨g, 0, none⟩))) rfl (by kernel_rfl) (by kernel_rfl) (by kernel_rfl) (fun _ _ _ h => h) (Or.inl ⟨by rfl, (by intro w hSw; obtain ⟨s1, s2⟩ := hSw; go_simp; try rfl)⟩) (HS.out _ (((Kept.refl (fun k : Nat => (Value.slice ua xl uc).ownBlock = some k ∨ k = rb) W).drew))) ?_; (try go_simp)
        refine wpAnyH_take (i := 2) (v := (.pointer (some ⟨g, 3, none⟩))) rfl (by kernel_rfl) (by kernel_rfl) (by kernel_rfl) (fun _ _ _ h => h) (Or.inl ⟨by rfl, (by intro w hSw; obtain ⟨s1, s2⟩ := hSw; go_simp; try rfl)⟩) (HS.out _ (((Kept.refl (fun k : Nat => (Value.slice ua xl uc).ownBlock = some k ∨ k = rb) W).drew))) ?_; (try go_simp)
        refine wpAnyH_take (i := 3) (v := (.slice (some ⟨rb, 0, none⟩) (m + 1) c4)) rfl (by kernel_rfl) (by kernel_rfl) (by kernel_rfl) (fun _ _ _ h => h) (Or.inl ⟨by rfl, (by intro w hSw; obtain ⟨s1, s2⟩ := hSw; go_simp; try rfl)⟩) (HS.out _ (((Kept.refl (fun k : Nat => (Value.slice ua xl uc).ownBlock = some k ∨ k = rb) W).drew))) ?_; (try go_simp)
        refine wpAnyH_take (i := 4) (v := (.int .i64 ((m : Int) + 1))) rfl (by kernel_rfl) (by kernel_rfl) (by kernel_rfl) (fun _ _ _ h => h) (Or.inl ⟨by rfl, (by intro w hSw; obtain ⟨s1, s2⟩ := hSw; go_simp; try rfl)⟩) (HS.out _ (((Kept.refl (fun k : Nat => (Value.slice ua xl uc).ownBlock = some k ∨ k = rb) W).drew))) ?_; (try go_simp)
        refine wpAnyH_take (i := 5) (v := (.int .i64 (m : Int))) rfl (by kernel_rfl) (by kernel_rfl) (by kernel_rfl) (fun _ _ _ h => h) (Or.inl ⟨by rfl, (by intro w hSw; obtain ⟨s1, s2⟩ := hSw; go_simp; try rfl)⟩) (HS.out _ (((Kept.refl (fun k : Nat => (Value.slice ua xl uc).ownBlock = some k ∨ k = rb) W).drew))) ?_; (try go_simp)
        refine wpAnyH_take (i := 6) (v := (.pointer (some ⟨g, 0, none⟩))) rfl (by kernel_rfl) (by kernel_rfl) (by kernel_rfl) (fun _ _ _ h => h) (Or.inl ⟨by rfl, (by intro w hSw; obtain ⟨s1, s2⟩ := hSw; go_simp; try rfl)⟩) (HS.out _ (((Kept.refl (fun k : Nat => (Value.slice ua xl uc).ownBlock = some k ∨ k = rb) W).drew))) ?_; (try go_simp)
        refine wpAnyH_take (i := 7) (v := (.pointer (some ⟨g, 0, none⟩))) rfl (by kernel_rfl) (by kernel_rfl) (by kernel_rfl) (fun _ _ _ h => h) (Or.inl ⟨by rfl, (by intro w hSw; obtain ⟨s1, s2⟩ := hSw; go_simp; try rfl)⟩) (HS.out _ (((Kept.refl (fun k : Nat => (Value.slice ua xl uc).ownBlock = some k ∨ k = rb) W).drew))) ?_; (try go_simp)
        refine wpAnyH_take (i := 8) (v := (.pointer (some ⟨g, 3, none⟩))) rfl (by kernel_rfl) (by kernel_rfl) (by kernel_rfl) (fun _ _ _ h => h) (Or.inl ⟨by rfl, (by intro w hSw; obtain ⟨s1, s2⟩ := hSw; go_simp; try rfl)⟩) (HS.out _ (((Kept.refl (fun k : Nat => (Value.slice ua xl uc).ownBlock = some k ∨ k = rb) W).drew))) ?_; (try go_simp)
        refine wpAnyH_take (i := 9) (v := (.slice (some ⟨rb, 0, none⟩) (m + 1) c4)) rfl (by kernel_rfl) (by kernel_rfl) (by kernel_rfl) (fun _ _ _ h => h) (Or.inl ⟨by rfl, (by intro w hSw; obtain ⟨s1, s2⟩ := hSw; go_simp; try rfl)⟩) (HS.out _ (((Kept.refl (fun k : Nat => (Value.slice ua xl uc).ownBlock = some k ∨ k = rb) W).drew))) ?_; (try go_simp)
        refine wpAnyH_take (i := 10) (v := (.int .i64 ((m : Int) + 1))) rfl (by kernel_rfl) (by kernel_rfl) (by kernel_rfl) (fun _ _ _ h => h) (Or.inl ⟨by rfl, (by intro w hSw; obtain ⟨s1, s2⟩ := hSw; go_simp; try rfl)⟩) (HS.out _ (((Kept.refl (fun k : Nat => (Value.slice ua xl uc).ownBlock = some k ∨ k = rb) W).drew))) ?_; (try go_simp)
        refine wpAnyH_take (i := 11) (v := (.int .i64 (m : Int))) rfl (by kernel_rfl) (by kernel_rfl) (by kernel_rfl) (fun _ _ _ h => h) (Or.inl ⟨by rfl, (by intro w hSw; obtain ⟨s1, s2⟩ := hSw; go_simp; try rfl)⟩) (HS.out _ (((Kept.refl (fun k : Nat => (Value.slice ua xl uc).ownBlock = some k ∨ k = rb) W).drew))) ?_; (try go_simp)
        refine wpAnyH_take (i := 12) (v := (.pointer (some ⟨rb, m, none⟩))) rfl (by kernel_rfl) (by kernel_rfl) (by kernel_rfl) (fun _ _ _ h => h) (Or.inl ⟨by rfl, (by intro w hSw; obtain ⟨s1, s2⟩ := hSw; go_simp; try rfl)⟩) (HS.out _ (((Kept.refl (fun k : Nat => (Value.slice ua xl uc).ownBlock = some k ∨ k = rb) W).drew))) ?_; (try go_simp)
        refine wpAnyH_take (i := 14) (v := (.slice (some ⟨y3, 0, none⟩) N c3)) rfl (by kernel_rfl) (by kernel_rfl) (by kernel_rfl) (fun _ _ _ h => h) (Or.inl ⟨by rfl, (by intro w hSw; obtain ⟨s1, s2⟩ := hSw; go_simp; try rfl)⟩) (HS.out _ (((Kept.refl (fun k : Nat => (Value.slice ua xl uc).ownBlock = some k ∨ k = rb) W).drew))) ?_; (try go_simp)
        refine wpAnyH_take (i := 15) (v := (.int .i64 (i : Int))) rfl (by kernel_rfl) (by kernel_rfl) (by kernel_rfl) (fun _ _ _ h => h) (Or.inl ⟨by rfl, (by intro w hSw; obtain ⟨s1, s2⟩ := hSw; go_simp; try rfl)⟩) (HS.out _ (((Kept.refl (fun k : Nat => (Value.slice ua xl uc).ownBlock = some k ∨ k = rb) W).drew))) ?_; (try go_simp)
        refine wpAnyH_take (i := 16) (v := (.pointer (some ⟨y3, i, none⟩))) rfl (by kernel_rfl) (by kernel_rfl) (by kernel_rfl) (fun _ _ _ h => h) (Or.inl ⟨by rfl, (by intro w hSw; obtain ⟨s1, s2⟩ := hSw; go_simp; try rfl)⟩) (HS.out _ (((Kept.refl (fun k : Nat => (Value.slice ua xl uc).ownBlock = some k ∨ k = rb) W).drew))) ?_; (try go_simp)
        refine wpAnyH_take (i := 17) (v := (.int .u8 (b.toNat : Nat))) rfl (by kernel_rfl) (by kernel_rfl) (by kernel_rfl) (fun _ _ _ h => h) (Or.inl ⟨by rfl, (by intro w hSw; obtain ⟨s1, s2⟩ := hSw; go_simp; try rfl)⟩) (HS.out _ (((Kept.refl (fun k : Nat => (Value.slice ua xl uc).ownBlock = some k ∨ k = rb) W).drew))) ?_; (try go_simp)
        refine wpAnyH_ready (rs := [13, 18]) (by kernel_rfl) (by simp) ?_; refine (AllReadyH.cons rfl (fun K hK => ?_) (AllReadyH.cons rfl (fun K hK => ?_) AllReadyH.nil))
        · skip
          go_simp
          refine hK.out _ _ (HS.out _ (((Kept.refl (fun k : Nat => (Value.slice ua xl uc).ownBlock = some k ∨ k = rb) W).drew))) (fun _ => ?_); clear hK K; (try go_simp)
          refine wpAnyH_ready (rs := [18]) (by kernel_rfl) (by simp) ?_; refine (AllReadyH.cons rfl (fun K hK => ?_) AllReadyH.nil)
          go_simp
          refine hK.out _ _ (HS.out _ (((Kept.refl (fun k : Nat => (Value.slice ua xl uc).ownBlock = some k ∨ k = rb) W).drew).alloc (.cells #[.int .u8 (b.toNat : Nat)] 5))) (fun _ => ?_); clear hK K; (try go_simp)
          refine wpAnyH_ready (rs := [19]) (by kernel_rfl) (by simp) ?_; refine (AllReadyH.cons rfl (fun K hK => ?_) AllReadyH.nil)
          refine step_append_atP (by rfl) _ _ 39 (by rfl) 0 5 i0 _ 1 1 Tryd.underlying39 hi0 hz0 hz1 hz2 rfl (by decide) _ _ _ (by rfl) ((own_kept HOu.out ((Kept.refl (fun _ => False) W).drew) (fun _ _ h => h)).alloc _) ⟨W.heap.size, 0, none⟩ 1 1 _ (by rfl) (by rfl) (World.news_of_block (show _ = _ from heap_alloc_new W.drew (.cells #[.int .u8 (b.toNat : Nat)] 5))) (by simp [Value.oneCell']) hb1.out hb2.out (Nat.zero_le _) ?_
          intro v5 w5 hown5 hgrow5 hat5
          obtain ⟨a5, c5, hv5⟩ := own_form hown5
          subst hv5
          have K5 : Hid (Kept (fun k : Nat => (Value.slice ua xl uc).ownBlock = some k ∨ k = rb) W w5) := hidden ((((Kept.refl (fun k : Nat => (Value.slice ua xl uc).ownBlock = some k ∨ k = rb) W).drew).alloc (.cells #[.int .u8 (b.toNat : Nat)] 5)).grown hgrow5 (fun k hk _ => Or.inl hk))
          have b5 : w5.heap[rb]? = _ := (hgrow5.block rb (by have := blk_lt HRb.out; simp; omega) (Ne.symm HSub.out)).trans (blk_alloc (blk_kept ((Kept.refl (fun _ => False) W).drew) (fun h => h) HRb.out) _)
          have g5 : w5.cell? ⟨rb, m, none⟩ = some (.slice ua xl uc) := (blk_cell b5).trans HRc.out
          have y5 : w5.frozen? ⟨rb, m, none⟩ = false := blk_free b5
          have HO5 := hidden hown5
          have HG5 := hidden hgrow5
          have HT5 := hidden hat5
          clear hown5 hgrow5 hat5 b5
          refine hK.out _ _ (HS.out _ (K5.out)) (fun _ => ?_); clear hK K; (try go_simp)
          refine wpAnyH_take (i := 20) (v := (.pointer (some ⟨rb, m, none⟩))) rfl (by kernel_rfl) (by kernel_rfl) (by kernel_rfl) (fun _ _ _ h => h) (Or.inl ⟨by rfl, (by intro w hSw; obtain ⟨s1, s2⟩ := hSw; go_simp; try rfl)⟩) (HS.out _ (K5.out)) ?_; (try go_simp)
          refine wpAnyH_ready (rs := [21]) (by kernel_rfl) (by simp) ?_; refine (AllReadyH.cons rfl (fun K hK => ?_) AllReadyH.nil); go_simp
          refine hK.out _ _ (HS.out _ (K5.out.trans ((Kept.refl (fun k : Nat => (Value.slice ua xl uc).ownBlock = some k ∨ k = rb) _).setCell (p := ⟨rb, m, none⟩) (Or.inr rfl) _))) (fun _ => ?_); clear hK K; (try go_simp)
          refine wpAnyH_done (by kernel_rfl) ?_ _
          clear d3 dc dcA g5 y5 d3c
          go_wp2
          obtain ⟨z1, z2, z3, z4, z5⟩ := HDW.out.lay HX.out HU.out rfl HFin.out HFrW.out HKW.out HBW.out HAW.out (W1 := W.drew.alloc (.cells #[.int .u8 (b.toNat : Nat)] 5)) (((Kept.refl (fun _ => False) W).drew).alloc _) HG5.out (by rw [HXl.out]; exact HO5.out) HT5.out
          exact ⟨⟨i + 1, by go_num, by have := HQn.out; omega, _, _, z1, z2, z3, z4, z5⟩, by simp [intOf]; have := HQn.out; omega⟩
        · skip
          go_simp
          refine hK.out _ _ (HS.out _ (((Kept.refl (fun k : Nat => (Value.slice ua xl uc).ownBlock = some k ∨ k = rb) W).drew).alloc (.cells #[.int .u8 (b.toNat : Nat)] 5))) (fun _ => ?_); clear hK K; (try go_simp)
          refine wpAnyH_ready (rs := [13]) (by kernel_rfl) (by simp) ?_; refine (AllReadyH.cons rfl (fun K hK => ?_) AllReadyH.nil)
          go_simp
          refine hK.out _ _ (HS.out _ (((Kept.refl (fun k : Nat => (Value.slice ua xl uc).ownBlock = some k ∨ k = rb) W).drew).alloc (.cells #[.int .u8 (b.toNat : Nat)] 5))) (fun _ => ?_); clear hK K; (try go_simp)
          refine wpAnyH_ready (rs := [19]) (by kernel_rfl) (by simp) ?_; refine (AllReadyH.cons rfl (fun K hK => ?_) AllReadyH.nil)
          refine step_append_atP (by rfl) _ _ 39 (by rfl) 0 5 i0 _ 1 1 Tryd.underlying39 hi0 hz0 hz1 hz2 rfl (by decide) _ _ _ (by rfl) ((own_kept HOu.out ((Kept.refl (fun _ => False) W).drew) (fun _ _ h => h)).alloc _) ⟨W.heap.size, 0, none⟩ 1 1 _ (by rfl) (by rfl) (World.news_of_block (show _ = _ from heap_alloc_new W.drew (.cells #[.int .u8 (b.toNat : Nat)] 5))) (by simp [Value.oneCell']) hb1.out hb2.out (Nat.zero_le _) ?_
          intro v5 w5 hown5 hgrow5 hat5
          obtain ⟨a5, c5, hv5⟩ := own_form hown5
          subst hv5
          have K5 : Hid (Kept (fun k : Nat => (Value.slice ua xl uc).ownBlock = some k ∨ k = rb) W w5) := hidden ((((Kept.refl (fun k : Nat => (Value.slice ua xl uc).ownBlock = some k ∨ k = rb) W).drew).alloc (.cells #[.int .u8 (b.toNat : Nat)] 5)).grown hgrow5 (fun k hk _ => Or.inl hk))
          have b5 : w5.heap[rb]? = _ := (hgrow5.block rb (by have := blk_lt HRb.out; simp; omega) (Ne.symm HSub.out)).trans (blk_alloc (blk_kept ((Kept.refl (fun _ => False) W).drew) (fun h => h) HRb.out) _)
          have g5 : w5.cell? ⟨rb, m, none⟩ = some (.slice ua xl uc) := (blk_cell b5).trans HRc.out
          have y5 : w5.frozen? ⟨rb, m, none⟩ = false := blk_free b5
          have HO5 := hidden hown5
          have HG5 := hidden hgrow5
          have HT5 := hidden hat5
          clear hown5 hgrow5 hat5 b5
          refine hK.out _ _ (HS.out _ (K5.out)) (fun _ => ?_); clear hK K; (try go_simp)
          refine wpAnyH_take (i := 20) (v := (.pointer (some ⟨rb, m, none⟩))) rfl (by kernel_rfl) (by kernel_rfl) (by kernel_rfl) (fun _ _ _ h => h) (Or.inl ⟨by rfl, (by intro w hSw; obtain ⟨s1, s2⟩ := hSw; go_simp; try rfl)⟩) (HS.out _ (K5.out)) ?_; (try go_simp)
          refine wpAnyH_ready (rs := [21]) (by kernel_rfl) (by simp) ?_; refine (AllReadyH.cons rfl (fun K hK => ?_) AllReadyH.nil); go_simp
          refine hK.out _ _ (HS.out _ (K5.out.trans ((Kept.refl (fun k : Nat => (Value.slice ua xl uc).ownBlock = some k ∨ k = rb) _).setCell (p := ⟨rb, m, none⟩) (Or.inr rfl) _))) (fun _ => ?_); clear hK K; (try go_simp)
          refine wpAnyH_done (by kernel_rfl) ?_ _
          clear d3 dc dcA g5 y5 d3c
          go_wp2
          obtain ⟨z1, z2, z3, z4, z5⟩ := HDW.out.lay HX.out HU.out rfl HFin.out HFrW.out HKW.out HBW.out HAW.out (W1 := W.drew.alloc (.cells #[.int .u8 (b.toNat : Nat)] 5)) (((Kept.refl (fun _ => False) W).drew).alloc _) HG5.out (by rw [HXl.out]; exact HO5.out) HT5.out
          exact ⟨⟨i + 1, by go_num, by have := HQn.out; omega, _, _, z1, z2, z3, z4, z5⟩, by simp [intOf]; have := HQn.out; omega⟩
    · have hiN : i = N := by omega
      subst hiN
      have q3 : ¬ (i : Int) < (i : Int) := by omega
      have HD := hidden hD
      have HFr := hidden hF
      have HKw := hidden hK
      have d5 : wr.cell? ⟨g, 5, none⟩ = some (.int .i64 d.count) := blk_cell hD.box
      have f5 : wr.frozen? ⟨g, 5, none⟩ = false := blk_free hD.box
      clear hD hB hA hF hK
      have a5 : IntKind.i64.wrap ((d.count : Int) + 1) = (d.count : Int) + 1 := by have := HAg.out.count; have := HAg.out.ok.r; rw [IntKind.wrap_i64]; omega
      go_wp2
      go_returns
      obtain ⟨hc1, hc2⟩ := HD.out.count
      have hk2 := HKw.out.trans (hc2.mono (fun k _ e => (Or.inl e : dS g rv0 us0 k)))
      refine ⟨rfl, ⟨rv, us, ?_, HFr.out⟩, hk2⟩
      have hLN : L.take i = L := List.take_of_length_le (by rw [HLl.out]; exact Nat.le_refl _)
      have hap : (d.app rec.data.toList) = { ({ d with rooms := d.rooms.take d.taken ++ pushL (d.size - 24) d.cur (L.take i) } : DSt) with count := d.count + 1 } := by
        rw [hLN, HLd.out]
        show DSt.app d rec.data.toList = _
        unfold DSt.app
        rw [show rec.data.toList.length = rec.size by rw [Array.length_toList]; rfl]
      rw [hap]
      exact hc1
end Go.Proofs.YtljbmpnpbjnbkaaDoor
