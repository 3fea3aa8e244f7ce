/-
  ShaPieces (P1.3, P1.4), bounded form: whatever the pieces, together of bulk at most 1048576: the sum of what was written piece by piece, wherever one asks or goes on with a copy, is the document's sum of all of it: the law's call returns true and leaves its argument as it was.
  Condition: the table roundWords holds what the program's text lays (the card ties it); the bound of the second form.
-/
import Derived.Test.YtbankcgkbiflhaaDoorShSumP
import Derived.Test.YtbankcgkbiflhaaDoorShPc
namespace Go.Proofs.YtbankcgkbiflhaaDoor
open Go.RowKit
set_option linter.unusedVariables false

theorem write_byt (g : Nat) (L l : List UInt8) (a : Option Addr) (c : Nat) (w : World) (h : HW w g L) (hT : Tab w) (hg0 : 0 ≠ g) (hb : Byt w (.slice a l.length c) l) (ha : ∀ x, a = some x → x.block ≠ g) (hc : c ≤ 9223372036854775807) (hL : L.length + l.length ≤ 1152921504606846976) :
    Calls Tryd.prog 23 #[.pointer (some ⟨g, 0, none⟩), .slice a l.length c] w fun e w' => e = .returned (.tuple #[]) ∧ HW w' g (L ++ l) ∧ Kept (fun k => k = g) w w' := by
  obtain ⟨a', c', he, h1, h0, h2⟩ := hb
  injection he with e1 e2 e3
  subst e1 e3
  by_cases e : 0 < l.length
  · obtain ⟨b, off, rfl, h5⟩ := h2 e
    exact write_any g L l b off c w h hT hg0 (ha _ rfl) h1 hc hL h5
  · have e0 : l = [] := List.eq_nil_of_length_eq_zero (by omega)
    subst e0
    exact (write0_any g a c w).mono fun e w' ⟨x, y⟩ => ⟨x, by rw [List.append_nil]; exact y ▸ h, y ▸ Kept.refl _ _⟩
theorem wpList_append_at {P : Program} {w : World} {ops : Array Oper} {rest : List Oper} {o : Oper} {a : Act} {Q : Exit → Act → World → Prop} (hgd : o.guard = none) (s x : Operand) (t : TypeId)
    (ho : o.op = .call { callee := .builtin .append, args := #[s, x], argTypes := #[t, t] })
    (base : Nat) (e : TypeId) (i : TypeInfo) (z : Value) (size bytes : Nat) (ht : P.underlying t = some (.slice e)) (hi : P.info? e = some i) (hz : i.zero = some z)
    (hsize : i.size = size) (hby : i.bytes = bytes) (hzs : z.cells.size = size) (hsz : 0 < size)
    (a0 : Option Addr) (n c0 : Nat) (xs : List Value) (hs : a.eval s = .slice a0 n c0) (hown : w.ownsRow base e size (.slice a0 n c0) n xs)
    (ao : Option Addr) (m c : Nat) (news : List Value) (hx : a.eval x = .slice ao m c) (hl : news.length = m * size) (hnews : Lies w ao m news) (h1 : ∀ u ∈ news, u.oneCell' = true)
    (h63 : n + m ≤ maxLen) (hbytes : (n + m) * bytes ≤ 140737488355328) (hbase : base ≤ w.heap.size)
    (h : ∀ a' cap w', w'.ownsRow base e size (.slice a' (n + m) cap) (n + m) (xs ++ news) → w.grownBy w' (Value.slice a0 n c0).ownBlock → ((Value.slice a' (n + m) cap).ownBlock = (Value.slice a0 n c0).ownBlock ∨ (Value.slice a' (n + m) cap).ownBlock = some w.heap.size) → wpList P ops Q rest (a.put o.dst (.slice a' (n + m) cap)) w') : wpList P ops Q (o :: rest) a w := by
  obtain ⟨a', cap, w', hr, h2, h3, h4⟩ : ∃ a' cap w', (Builtin.append_ #[t, t] o.type #[.slice a0 n c0, .slice ao m c]).run P w = .ok (.slice a' (n + m) cap) w' ∧ w'.ownsRow base e size (.slice a' (n + m) cap) (n + m) (xs ++ news) ∧ w.grownBy w' (Value.slice a0 n c0).ownBlock ∧ ((Value.slice a' (n + m) cap).ownBlock = (Value.slice a0 n c0).ownBlock ∨ (Value.slice a' (n + m) cap).ownBlock = some w.heap.size) := by
    rcases Nat.eq_zero_or_pos m with rfl | hm
    · have hn0 : news = [] := List.length_eq_zero_iff.1 (by simpa using hl)
      subst hn0
      exact ⟨a0, c0, w, run_append_none w t _ e i ht hi a0 n c0 ao c (own_room hown), by simpa using hown, grownBy_rfl _ _, Or.inl (by cases a0 <;> rfl)⟩
    · obtain ⟨ad, rfl, hc⟩ := hnews hm
      obtain ⟨g, cap, w', hr, h2, h3, h5, _⟩ := run_append_lies (P := P) w t o.type base e i z size bytes ht hi hz hsize hby hzs hsz _ n xs hown ad m c news hl hc h1 hm h63 hbytes hbase _ rfl
      exact ⟨_, cap, w', hr, h2, h3, h5.elim (fun h => Or.inl (by rw [h]; rfl)) (fun h => Or.inr (by rw [h]; rfl))⟩
  exact wpList_plain hgd fun _ hK => by
    unfold Oper.wp execOp
    simp only [ho, resolve, invoke, builtin, Sem.run_bind, Sem.run_pure, Result.andThen_ok, List.map_toArray, List.map_cons, List.map_nil, hs, hx, hr]
    exact hK _ _ (h a' cap w' h2 h3 h4)
/-- The bytes of the first i pieces. -/
def acc (f : Nat → Pce) (i : Nat) : List UInt8 := (List.range i).flatMap fun j => (f j).bs
theorem acc_succ (f : Nat → Pce) (i : Nat) : acc f (i + 1) = acc f i ++ (f i).bs := by
  unfold acc
  rw [List.range_succ, List.flatMap_append]
  simp
theorem acc_le (f : Nat → Pce) : ∀ i, (acc f i).length + i = ((List.range i).map fun j => (f j).bs.length + 1).sum
  | 0 => rfl
  | i + 1 => by
    have := acc_le f i
    rw [acc_succ, List.range_succ, List.map_append, List.sum_append, List.length_append]
    simp only [List.map_cons, List.map_nil, List.sum_cons, List.sum_nil]
    omega
theorem sum_mono (h : Nat → Nat) : ∀ (n i : Nat), i ≤ n → ((List.range i).map h).sum ≤ ((List.range n).map h).sum
  | 0, i, hi => by rw [show i = 0 by omega]; exact Nat.le_refl _
  | n + 1, i, hi => by
    by_cases e : i = n + 1
    · subst e; exact Nat.le_refl _
    · have := sum_mono h n i (by omega)
      rw [List.range_succ, List.map_append, List.sum_append]
      omega
/-- How the law stands: the Hasher at g, and all bytes in a row of the law's own. -/
structure Pie (w W : World) (g : Nat) (v : Value) (L : List UInt8) : Prop where
  hw : HW W g L
  ge : w.heap.size ≤ g
  own : W.ownsRow w.heap.size 5 1 v L.length (L.map U8)
  same : Same w W
theorem Pie.apart {w W : World} {g : Nat} {v : Value} {L : List UInt8} (h : Pie w W g v L) : v.ownBlock ≠ some g := by
  obtain ⟨bs, h1, h2, h3⟩ := h.hw
  exact own_apart h.own h2 (by decide)
theorem Pie.later {w W W' : World} {g : Nat} {v : Value} {L : List UInt8} (h : Pie w W g v L) (k : Same W W') : Pie w W' g v L :=
  ⟨h.hw.kept k (fun h => h), h.ge, own_kept h.own k (fun _ _ h => h), Kept.trans h.same k⟩
/-- A block that is none of the law's turns. -/
theorem Pie.other {w W W' : World} {g q : Nat} {v : Value} {L : List UInt8} (h : Pie w W g v L) (k : Kept (fun x => x = q) W W') (h1 : g ≠ q) (h2 : v.ownBlock ≠ some q) (h3 : w.heap.size ≤ q) : Pie w W' g v L :=
  ⟨h.hw.kept k (fun e => h1 e), h.ge, own_kept h.own k (fun x hx e => h2 (by rw [hx, e])), h.same.trans' k (fun i hi (e : i = q) => by omega)⟩
theorem u8_succ (x : Nat) : Value.int .u8 (((x : Int) + 1) % 256) = U8 (UInt8.ofNat ((x + 1) % 256)) := by
  unfold U8
  rw [UInt8.toNat_ofNat', Nat.mod_eq_of_lt (a := (x + 1) % 256) (by have := Nat.mod_lt (x + 1) (show 0 < 256 by decide); omega)]
  congr 1
set_option maxHeartbeats 1500000 in
set_option maxRecDepth 100000 in
theorem spieces_walk (v : Value) (n : Nat) (f : Nat → Pce) (w : World) (hP : Pcs w v n f) (hbk : ((List.range n).map fun i => (f i).bs.length + 1).sum ≤ 1048576) (hT : Tab w) :
    Calls Tryd.prog 8 #[v] w fun e w' => e = .returned (.bool true) ∧ Same w w' := by
  obtain ⟨i0, hi, hz0, hz1, hz2⟩ := info_parts info5
  have HT := hidden hT
  have Hacc : Hid (∀ i, i ≤ n → (acc f i).length + i ≤ 1048576) := hidden (fun i hi => by rw [acc_le]; exact Nat.le_trans (sum_mono _ n i hi) hbk)
  have hnb : n ≤ 1048576 := by have := Hacc.out n (Nat.le_refl _); omega
  obtain ⟨va, vc, rfl, hcl⟩ := hP
  have HCl := hidden hcl
  have HTl := hT.lt
  clear hT hcl hbk
  go_enter Tryd.func8, Tryd.ntmps8
  go_wp2_with (first
    | (go_at_call 10; refine (lives_any _ HT.out).mono ?_; rintro e w1 ⟨rfl, k1⟩)
    | (go_at_call 21; refine (new_any _).mono ?_; rintro e w2 ⟨g, rfl, hg, hh, k2⟩; have HPi : Hid (Pie w w2 g (.slice none 0 0) (acc f 0)) := hidden ⟨hh, Nat.le_trans k1.size hg, ⟨rfl, Or.inl ⟨rfl, rfl⟩⟩, Kept.trans k1 k2⟩; clear k1 hg hh k2))
  go_loopw [3, 4, 5] (fun x y z wr => ∃ (i g : Nat) (a : Option Addr) (c : Nat), i ≤ n ∧ x = .pointer (some ⟨g, 0, none⟩) ∧ y = .slice a (acc f i).length c ∧ z = .int .i64 i ∧ Pie w wr g (.slice a (acc f i).length c) (acc f i)) (fun _ _ z _ => n - (intOf z).toNat)
  case atStart => exact ⟨0, g, none, 0, by omega, rfl, rfl, rfl, HPi.out⟩
  case round =>
    clear HPi
    obtain ⟨i, g, a, c, hin, rfl, rfl, rfl, hpi⟩ := hrel
    have HPi := hidden hpi
    by_cases hlt : i < n
    · obtain ⟨vb, voff, rfl, hcells⟩ := HCl.out (by omega)
      obtain ⟨hB, hc0, hc1, hc2⟩ := hcells i hlt
      have hsuc := acc_succ f i
      have hac := Hacc.out (i + 1) (by omega)
      rw [hsuc, List.length_append] at hac
      generalize f i = p at *
      obtain ⟨pa, pc, hpv, hp1, hp0, hpb⟩ := hB
      rw [hpv] at hc0
      have HC0 := hidden hc0
      have HC1 := hidden (Kept.cell HPi.out.same (fun h => h) hc1)
      have HC2 := hidden hc2
      have HLi : Hid (∀ W, Same w W → Lies W pa p.bs.length (p.bs.map U8)) := hidden (fun W k hp => by
        obtain ⟨b, off, rfl, hc⟩ := hpb hp
        refine ⟨_, rfl, fun j u hu => ?_⟩
        rw [List.getElem?_map, Option.map_eq_some_iff] at hu
        obtain ⟨x, hx, rfl⟩ := hu
        rw [Addr.add_mid]
        exact k.cell (p := ⟨b, off + j, none⟩) (fun h => h) (hc j x hx))
      have H1c : Hid (∀ u ∈ p.bs.map U8, u.oneCell' = true) := hidden (fun u hu => by obtain ⟨b, _, rfl⟩ := List.mem_map.1 hu; exact U8_one b)
      have Hsuc := hidden hsuc
      have k1 : (i : Int) < (n : Int) := by omega
      have e1 : IntKind.i64.wrap (i : Int) = (i : Int) := by rw [IntKind.wrap_i64]; omega
      clear hc0 hc1 hc2 hpv hpb hp0 hsuc hcells hpi
      cases hcpx : p.cp with
      | true =>
        rw [hcpx] at HC1
        have hc1 := HC1.out
        clear hcpx
        have tokA : True := trivial
        go_wp2_with (first
          | (go_at_call 22; refine (copy_any HPi.out.hw).mono ?_; rintro e w1 ⟨g', rfl, hg', hh', k1⟩; have HPi1 := hidden (HPi.out.later k1); have HH1 := hidden hh'; have HK1 := hidden k1; clear hh' k1; have hgl := HPi.out.hw.lt; have hcv := conv_const w1 #[.int .u8 111, .int .u8 116, .int .u8 104, .int .u8 101, .int .u8 114] 5 5; have tok : True := trivial)
          | (go_at_call 23; have _t := tok; refine (write_any g (acc f i) [111, 116, 104, 101, 114] w1.heap.size 0 5 _ ((HPi1.out.later (same_alloc w1 _)).hw) (HT.out.same ((HPi1.out.later (same_alloc w1 _)).same)) (by have := HPi.out.ge; omega) (by have := HK1.out.size; omega) (by decide) (by decide) (by have := Hacc.out i hin; simp; omega) (fun j x hj => by rw [Nat.zero_add, cell_of_row _ _ _ _ _ _ (blk_new w1 _)]; have hlt5 := (List.getElem?_eq_some_iff.1 hj).1; have : j = 0 ∨ j = 1 ∨ j = 2 ∨ j = 3 ∨ j = 4 := (by simp at hlt5; omega); rcases this with rfl | rfl | rfl | rfl | rfl <;> (simp at hj; subst hj; rfl))).mono ?_; rintro e w2 ⟨rfl, hh2, k2⟩; clear tok hcv; have HP0 : Hid (Pie w w2 g' (.slice a (acc f i).length c) (acc f i)) := hidden (Pie.other ⟨HH1.out.kept (same_alloc w1 _) (fun h => h), by have := HPi.out.same.size; omega, own_kept HPi1.out.own (same_alloc w1 _) (fun _ _ h => h), HPi1.out.same.alloc _⟩ k2 (by omega) HPi.out.apart HPi.out.ge); clear hh2 k2 HPi1 HH1 HK1 hgl; have hca0 := fun o => Kept.cell (HP0.out.same.alloc o) (fun h => h) HC0.out)
          | (have _t := tokA; refine wpList_append_any rfl _ _ 22 rfl w2.heap.size 5 i0 (.int .u8 0) 1 1 Tryd.underlying22 hi hz0 hz1 hz2 rfl (by decide) _ 0 0 _ rfl (World.ownsRow_made (base := w2.heap.size) (e := 5) (size := 1) w2 #[] 0 (Nat.le_refl _) (by decide) rfl) pa p.bs.length pc (p.bs.map U8) rfl (by rw [List.length_map, Nat.mul_one]) (HLi.out _ (Kept.trans HP0.out.same (same_alloc _ _))) H1c.out (by unfold maxLen; omega) (by omega) (by simp) ?_; intro a1 c1 w3 ho1 hg1; clear tokA; rw [Nat.zero_add, List.nil_append] at ho1; have HK3 : Hid (Same w2 w3) := hidden ((same_alloc w2 (.cells #[] 5)).grown hg1 (fun k hk hl => by simp [Value.ownBlock] at hk; omega)); have HO3 := hidden ho1; have HP3 := hidden (HP0.out.later HK3.out); clear ho1 hg1; have tokB : True := trivial)
          | (go_at_call 23; have _t := tokB; refine (write_byt g' (acc f i) p.bs a1 c1 w3 HP3.out.hw (HT.out.same HP3.out.same) (by have := HP3.out.ge; omega) (own_byt HO3.out).1 (fun x hx e => by subst hx; have := (HO3.out.lt _ rfl).1; have := HP0.out.hw.lt; omega) (own_byt HO3.out).2 (by omega)).mono ?_; rintro e w4 ⟨rfl, hh4, k4⟩; clear tokB; have HH4 := hidden hh4; have HO4 := hidden (own_kept HO3.out k4 (fun q hq (e : q = g') => by have := (HO3.out.lt q hq).1; have := HP0.out.hw.lt; omega)); have HA4 := hidden (own_kept HP3.out.own k4 (fun q hq (e : q = g') => HP3.out.apart (by rw [hq, e]))); have HS4 := hidden (HP3.out.same.trans' k4 (fun q hq (e : q = g') => by have := HP3.out.ge; omega)); have hk0 := Kept.cell HS4.out (fun h => h) HC0.out; clear hh4 k4; have tokC : True := trivial)
          | (have _t := tokC; refine wpList_append_at rfl _ _ 22 rfl w.heap.size 5 i0 (.int .u8 0) 1 1 Tryd.underlying22 hi hz0 hz1 hz2 rfl (by decide) _ _ _ _ rfl HA4.out pa p.bs.length pc (p.bs.map U8) rfl (by rw [List.length_map, Nat.mul_one]) (HLi.out _ HS4.out) H1c.out (by unfold maxLen; omega) (by omega) HS4.out.size ?_; intro a5 c5 w5 ho5 hg5 hat5; clear tokC))
        have KG := hidden ((Kept.refl (fun k => (Value.slice a (acc f i).length c).ownBlock = some k) w4).grown hg5 (fun k hk _ => hk))
        have hbk : ∀ k, (Value.slice a (acc f i).length c).ownBlock = some k → w.heap.size ≤ k ∧ k < w2.heap.size := fun k hk => HP0.out.own.lt k hk
        have hnl : (acc f i ++ p.bs).length = (acc f i).length + p.bs.length := List.length_append
        have HP5 : Hid (Pie w w5 g' (.slice a5 (acc f i ++ p.bs).length c5) (acc f i ++ p.bs)) := hidden ⟨HH4.out.kept KG.out (fun e => HP0.out.apart e), HP0.out.ge, by rw [hnl, List.map_append]; exact ho5, HS4.out.trans' KG.out (fun q hq e => by have := (hbk q e).1; omega)⟩
        have HO5 := hidden (own_kept HO4.out KG.out (fun q hq e => by have := (HO4.out.lt q hq).1; have := (hbk q e).2; omega))
        obtain ⟨bo, HBo⟩ : ∃ bo, Hid (0 < p.bs.length → a1 = some ⟨bo, 0, none⟩ ∧ bo ≠ g' ∧ (Value.slice a5 (acc f i ++ p.bs).length c5).ownBlock ≠ some bo ∧ w.heap.size ≤ bo ∧ ∃ cur, w5.heap[bo]? = some (.cells cur 5 (0, 0)) ∧ ∀ j, j < p.bs.length → ∃ x : UInt8, cur[j]? = some (U8 x)) := by
          rcases HO5.out.2 with ⟨hv, hn⟩ | ⟨bo, cap', cur, hv, hb, hh, hc, hm, hz, ht⟩
          · exact ⟨0, fun h => by omega⟩
          · simp only [Value.slice.injEq] at hv
            obtain ⟨rfl, _, rfl⟩ := hv
            have hs0 := HP0.out.same.size
            have hg0 := HP0.out.hw.lt
            refine ⟨bo, fun hp => ⟨rfl, by omega, fun e => ?_, by omega, cur, hh, fun j hj => ?_⟩⟩
            · have e1 : w5.heap[bo]? = some (.cells cur 5 (0, 0)) := hh
              have e' : (Value.slice a5 ((acc f i).length + p.bs.length) c5).ownBlock = some bo := by rw [hnl] at e; exact e
              rcases hat5 with h5 | h5
              · rw [h5] at e'
                have := (hbk bo e').2
                omega
              · rw [h5] at e'
                have h6 := (HO4.out.lt bo rfl).2
                simp only [Option.some.injEq] at e'
                omega
            · have e1 : (cur.toList.take (p.bs.length * 1))[j]? = some (U8 p.bs[j]) := by rw [ht, List.getElem?_map, List.getElem?_eq_getElem hj]; rfl
              rw [List.getElem?_take, if_pos (by omega), Array.getElem?_toList] at e1
              exact ⟨_, e1⟩
        obtain ⟨L', hL'⟩ : ∃ L', L' = acc f i ++ p.bs := ⟨_, rfl⟩
        rw [← hnl]
        rw [← hL'] at HP5 HBo hnl Hsuc ⊢
        obtain ⟨m, hm⟩ : ∃ m, m = p.bs.length := ⟨_, rfl⟩
        rw [← hm] at HBo hnl ⊢
        have hLb : L'.length ≤ 1048576 := by omega
        have hmb : m ≤ 1048576 := by omega
        clear hnl hac ho5 hg5 hat5 hbk hL' hm KG HO5 HO4 HA4 HS4 HH4 hk0 hc1 hca0 HLi H1c HC0 HC1
        go_loopw [8] (fun x wr => ∃ k : Nat, k ≤ m ∧ x = .int .i64 k ∧ Pie w wr g' (.slice a5 L'.length c5) L' ∧ (0 < m → ∃ cur, wr.heap[bo]? = some (.cells cur 5 (0, 0)) ∧ ∀ j, j < m → ∃ x : UInt8, cur[j]? = some (U8 x))) (fun x _ => m - (intOf x).toNat)
        case atStart => exact ⟨0, by omega, rfl, HP5.out, fun h => (HBo.out h).2.2.2.2⟩
        case round =>
          obtain ⟨k, hkm, rfl, hpie, hcur⟩ := hrel
          have HPe := hidden hpie
          by_cases hkl : k < m
          · obtain ⟨e1, n1, n2, n3, _⟩ := HBo.out (by omega)
            obtain ⟨cur, hb, hx⟩ := hcur (by omega)
            obtain ⟨x, hxk⟩ := hx k hkl
            have hck : wr.cell? ⟨bo, k, none⟩ = some (.int .u8 (x.toNat : Nat)) := (blk_cell hb).trans hxk
            have hfk : wr.frozen? ⟨bo, k, none⟩ = false := blk_free hb
            have Hb := hidden hb
            have Hx := hidden hx
            have N1 := hidden n1
            have N2 := hidden n2
            have N3 := hidden n3
            subst e1
            generalize x.toNat = xn at *
            have q1 : (k : Int) < (m : Int) := by omega
            have q2 : IntKind.i64.wrap (k : Int) = (k : Int) := by rw [IntKind.wrap_i64]; omega
            clear hb hx hxk hcur hpie n1 n2 n3
            go_wp2
            go_roundw
            case rel =>
              refine ⟨k + 1, by omega, by go_num, HPe.out.other ((Kept.refl (fun x => x = bo) wr).setCell (p := ⟨bo, k, none⟩) rfl _) (fun e => N1.out e.symm) N2.out N3.out, fun _ => ⟨_, blk_set Hb.out _, fun j hj => ?_⟩⟩
              rw [Array.getElem?_setIfInBounds]
              by_cases e : k = j
              · subst e
                obtain ⟨y, hy⟩ := Hx.out k hj
                rw [if_pos rfl, if_pos (Array.getElem?_eq_some_iff.1 hy).1, u8_succ]
                exact ⟨_, rfl⟩
              · rw [if_neg e]
                exact Hx.out j hj
            case measure => simp [intOf]; omega
          · have q1 : ¬ (k : Int) < (m : Int) := by omega
            have hc2 := Kept.cell hpie.same (fun h => h) HC2.out
            cases hask : p.ask with
            | false =>
              rw [hask] at hc2
              clear hask hcur hpie
              go_wp2
              go_roundw
              case rel => exact ⟨i + 1, g', a5, c5, by omega, rfl, by rw [Hsuc.out], by go_num, by rw [Hsuc.out]; exact HPe.out⟩
              case measure => simp [intOf]; omega
            | true =>
              rw [hask] at hc2
              have heq := fun W => sum_eqIn (shaL L') (out_len _) W
              have HSu := hidden (fun G W (h : HW W G L') t => sum_any h t (by omega))
              have HSd := hidden (fun W h => sumD_any (.slice a5 L'.length c5) L' W h (by omega))
              generalize ((shaL L').map U8).toArray = S at *
              clear hask hcur hpie
              go_wp2_with (first
                | (go_at_call 24; refine (HSu.out _ _ HPe.out.hw (HT.out.same HPe.out.same)).mono ?_; rintro e w6 ⟨rfl, k6⟩; have HP6 := hidden (HPe.out.later k6); clear k6)
                | (go_at_call 12; refine (HSd.out _ (own_byt HP6.out.own).1).mono ?_; rintro e w7 ⟨rfl, k7⟩; have HP7 := hidden (HP6.out.later k7); clear k7)
                | (go_at_call 25; refine (len_any HP7.out.hw).mono ?_; rintro e w8 ⟨rfl, rfl⟩))
              go_roundw
              case rel => exact ⟨i + 1, g', a5, c5, by omega, rfl, by rw [Hsuc.out], by go_num, by rw [Hsuc.out]; exact HP7.out⟩
              case measure => simp [intOf]; omega
      | false =>
        rw [hcpx] at HC1
        have hc1 := HC1.out
        have hca0 := fun o => Kept.cell (HPi.out.same.alloc o) (fun h => h) HC0.out
        clear hcpx
        have tokA : True := trivial
        go_wp2_with (first
          | (have _t := tokA; refine wpList_append_any rfl _ _ 22 rfl wr.heap.size 5 i0 (.int .u8 0) 1 1 Tryd.underlying22 hi hz0 hz1 hz2 rfl (by decide) _ 0 0 _ rfl (World.ownsRow_made (base := wr.heap.size) (e := 5) (size := 1) wr #[] 0 (Nat.le_refl _) (by decide) rfl) pa p.bs.length pc (p.bs.map U8) rfl (by rw [List.length_map, Nat.mul_one]) (HLi.out _ (Kept.trans HPi.out.same (same_alloc _ _))) H1c.out (by unfold maxLen; omega) (by omega) (by simp) ?_; intro a1 c1 w3 ho1 hg1; clear tokA; rw [Nat.zero_add, List.nil_append] at ho1; have HK3 : Hid (Same wr w3) := hidden ((same_alloc wr (.cells #[] 5)).grown hg1 (fun k hk hl => by simp [Value.ownBlock] at hk; omega)); have HO3 := hidden ho1; have HP3 := hidden (HPi.out.later HK3.out); clear ho1 hg1; have tokB : True := trivial)
          | (go_at_call 23; have _t := tokB; refine (write_byt g (acc f i) p.bs a1 c1 w3 HP3.out.hw (HT.out.same HP3.out.same) (by have := HP3.out.ge; omega) (own_byt HO3.out).1 (fun x hx e => by subst hx; have := (HO3.out.lt _ rfl).1; have := HPi.out.hw.lt; omega) (own_byt HO3.out).2 (by omega)).mono ?_; rintro e w4 ⟨rfl, hh4, k4⟩; clear tokB; have HH4 := hidden hh4; have HO4 := hidden (own_kept HO3.out k4 (fun q hq (e : q = g) => by have := (HO3.out.lt q hq).1; have := HPi.out.hw.lt; omega)); have HA4 := hidden (own_kept HP3.out.own k4 (fun q hq (e : q = g) => HP3.out.apart (by rw [hq, e]))); have HS4 := hidden (HP3.out.same.trans' k4 (fun q hq (e : q = g) => by have := HP3.out.ge; omega)); have hk0 := Kept.cell HS4.out (fun h => h) HC0.out; clear hh4 k4; have tokC : True := trivial)
          | (have _t := tokC; refine wpList_append_at rfl _ _ 22 rfl w.heap.size 5 i0 (.int .u8 0) 1 1 Tryd.underlying22 hi hz0 hz1 hz2 rfl (by decide) _ _ _ _ rfl HA4.out pa p.bs.length pc (p.bs.map U8) rfl (by rw [List.length_map, Nat.mul_one]) (HLi.out _ HS4.out) H1c.out (by unfold maxLen; omega) (by omega) HS4.out.size ?_; intro a5 c5 w5 ho5 hg5 hat5; clear tokC))
        have KG := hidden ((Kept.refl (fun k => (Value.slice a (acc f i).length c).ownBlock = some k) w4).grown hg5 (fun k hk _ => hk))
        have hbk : ∀ k, (Value.slice a (acc f i).length c).ownBlock = some k → w.heap.size ≤ k ∧ k < wr.heap.size := fun k hk => HPi.out.own.lt k hk
        have hnl : (acc f i ++ p.bs).length = (acc f i).length + p.bs.length := List.length_append
        have HP5 : Hid (Pie w w5 g (.slice a5 (acc f i ++ p.bs).length c5) (acc f i ++ p.bs)) := hidden ⟨HH4.out.kept KG.out (fun e => HPi.out.apart e), HPi.out.ge, by rw [hnl, List.map_append]; exact ho5, HS4.out.trans' KG.out (fun q hq e => by have := (hbk q e).1; omega)⟩
        have HO5 := hidden (own_kept HO4.out KG.out (fun q hq e => by have := (HO4.out.lt q hq).1; have := (hbk q e).2; omega))
        obtain ⟨bo, HBo⟩ : ∃ bo, Hid (0 < p.bs.length → a1 = some ⟨bo, 0, none⟩ ∧ bo ≠ g ∧ (Value.slice a5 (acc f i ++ p.bs).length c5).ownBlock ≠ some bo ∧ w.heap.size ≤ bo ∧ ∃ cur, w5.heap[bo]? = some (.cells cur 5 (0, 0)) ∧ ∀ j, j < p.bs.length → ∃ x : UInt8, cur[j]? = some (U8 x)) := by
          rcases HO5.out.2 with ⟨hv, hn⟩ | ⟨bo, cap', cur, hv, hb, hh, hc, hm, hz, ht⟩
          · exact ⟨0, fun h => by omega⟩
          · simp only [Value.slice.injEq] at hv
            obtain ⟨rfl, _, rfl⟩ := hv
            have hs0 := HPi.out.same.size
            have hg0 := HPi.out.hw.lt
            refine ⟨bo, fun hp => ⟨rfl, by omega, fun e => ?_, by omega, cur, hh, fun j hj => ?_⟩⟩
            · have e1 : w5.heap[bo]? = some (.cells cur 5 (0, 0)) := hh
              have e' : (Value.slice a5 ((acc f i).length + p.bs.length) c5).ownBlock = some bo := by rw [hnl] at e; exact e
              rcases hat5 with h5 | h5
              · rw [h5] at e'
                have := (hbk bo e').2
                omega
              · rw [h5] at e'
                have h6 := (HO4.out.lt bo rfl).2
                simp only [Option.some.injEq] at e'
                omega
            · have e1 : (cur.toList.take (p.bs.length * 1))[j]? = some (U8 p.bs[j]) := by rw [ht, List.getElem?_map, List.getElem?_eq_getElem hj]; rfl
              rw [List.getElem?_take, if_pos (by omega), Array.getElem?_toList] at e1
              exact ⟨_, e1⟩
        obtain ⟨L', hL'⟩ : ∃ L', L' = acc f i ++ p.bs := ⟨_, rfl⟩
        rw [← hnl]
        rw [← hL'] at HP5 HBo hnl Hsuc ⊢
        obtain ⟨m, hm⟩ : ∃ m, m = p.bs.length := ⟨_, rfl⟩
        rw [← hm] at HBo hnl ⊢
        have hLb : L'.length ≤ 1048576 := by omega
        have hmb : m ≤ 1048576 := by omega
        clear hnl hac ho5 hg5 hat5 hbk hL' hm KG HO5 HO4 HA4 HS4 HH4 hk0 hc1 hca0 HLi H1c HC0 HC1
        go_loopw [8] (fun x wr => ∃ k : Nat, k ≤ m ∧ x = .int .i64 k ∧ Pie w wr g (.slice a5 L'.length c5) L' ∧ (0 < m → ∃ cur, wr.heap[bo]? = some (.cells cur 5 (0, 0)) ∧ ∀ j, j < m → ∃ x : UInt8, cur[j]? = some (U8 x))) (fun x _ => m - (intOf x).toNat)
        case atStart => exact ⟨0, by omega, rfl, HP5.out, fun h => (HBo.out h).2.2.2.2⟩
        case round =>
          obtain ⟨k, hkm, rfl, hpie, hcur⟩ := hrel
          have HPe := hidden hpie
          by_cases hkl : k < m
          · obtain ⟨e1, n1, n2, n3, _⟩ := HBo.out (by omega)
            obtain ⟨cur, hb, hx⟩ := hcur (by omega)
            obtain ⟨x, hxk⟩ := hx k hkl
            have hck : wr.cell? ⟨bo, k, none⟩ = some (.int .u8 (x.toNat : Nat)) := (blk_cell hb).trans hxk
            have hfk : wr.frozen? ⟨bo, k, none⟩ = false := blk_free hb
            have Hb := hidden hb
            have Hx := hidden hx
            have N1 := hidden n1
            have N2 := hidden n2
            have N3 := hidden n3
            subst e1
            generalize x.toNat = xn at *
            have q1 : (k : Int) < (m : Int) := by omega
            have q2 : IntKind.i64.wrap (k : Int) = (k : Int) := by rw [IntKind.wrap_i64]; omega
            clear hb hx hxk hcur hpie n1 n2 n3
            go_wp2
            go_roundw
            case rel =>
              refine ⟨k + 1, by omega, by go_num, HPe.out.other ((Kept.refl (fun x => x = bo) wr).setCell (p := ⟨bo, k, none⟩) rfl _) (fun e => N1.out e.symm) N2.out N3.out, fun _ => ⟨_, blk_set Hb.out _, fun j hj => ?_⟩⟩
              rw [Array.getElem?_setIfInBounds]
              by_cases e : k = j
              · subst e
                obtain ⟨y, hy⟩ := Hx.out k hj
                rw [if_pos rfl, if_pos (Array.getElem?_eq_some_iff.1 hy).1, u8_succ]
                exact ⟨_, rfl⟩
              · rw [if_neg e]
                exact Hx.out j hj
            case measure => simp [intOf]; omega
          · have q1 : ¬ (k : Int) < (m : Int) := by omega
            have hc2 := Kept.cell hpie.same (fun h => h) HC2.out
            cases hask : p.ask with
            | false =>
              rw [hask] at hc2
              clear hask hcur hpie
              go_wp2
              go_roundw
              case rel => exact ⟨i + 1, g, a5, c5, by omega, rfl, by rw [Hsuc.out], by go_num, by rw [Hsuc.out]; exact HPe.out⟩
              case measure => simp [intOf]; omega
            | true =>
              rw [hask] at hc2
              have heq := fun W => sum_eqIn (shaL L') (out_len _) W
              have HSu := hidden (fun G W (h : HW W G L') t => sum_any h t (by omega))
              have HSd := hidden (fun W h => sumD_any (.slice a5 L'.length c5) L' W h (by omega))
              generalize ((shaL L').map U8).toArray = S at *
              clear hask hcur hpie
              go_wp2_with (first
                | (go_at_call 24; refine (HSu.out _ _ HPe.out.hw (HT.out.same HPe.out.same)).mono ?_; rintro e w6 ⟨rfl, k6⟩; have HP6 := hidden (HPe.out.later k6); clear k6)
                | (go_at_call 12; refine (HSd.out _ (own_byt HP6.out.own).1).mono ?_; rintro e w7 ⟨rfl, k7⟩; have HP7 := hidden (HP6.out.later k7); clear k7)
                | (go_at_call 25; refine (len_any HP7.out.hw).mono ?_; rintro e w8 ⟨rfl, rfl⟩))
              go_roundw
              case rel => exact ⟨i + 1, g, a5, c5, by omega, rfl, by rw [Hsuc.out], by go_num, by rw [Hsuc.out]; exact HP7.out⟩
              case measure => simp [intOf]; omega
    · have k1 : ¬ (i : Int) < (n : Int) := by omega
      have hin2 : i = n := by omega
      have hab := Hacc.out i hin
      have heq := fun W => sum_eqIn (shaL (acc f i)) (out_len _) W
      have HSu := hidden (fun G W (h : HW W G (acc f i)) t => sum_any h t (by omega))
      have HSd := hidden (fun W h => sumD_any (.slice a (acc f i).length c) (acc f i) W h (by omega))
      generalize ((shaL (acc f i)).map U8).toArray = S at *
      have tok1 : True := trivial
      have tok2 : True := trivial
      clear hpi hin2
      go_wp2_with (first
        | (go_at_call 24; have _t := tok1; refine (HSu.out _ _ HPi.out.hw (HT.out.same HPi.out.same)).mono ?_; rintro e w6 ⟨rfl, k6⟩; clear tok1; have HP6 := hidden (HPi.out.later k6); clear k6)
        | (go_at_call 12; have _t := tok2; refine (HSd.out _ (own_byt HP6.out.own).1).mono ?_; rintro e w7 ⟨rfl, k7⟩; clear tok2; have HP7 := hidden (HP6.out.later k7); clear k7)
        | (go_at_call 24; refine (HSu.out _ _ HP7.out.hw (HT.out.same HP7.out.same)).mono ?_; rintro e w8 ⟨rfl, k8⟩; have HP8 := hidden (HP7.out.later k8); clear k8)
        | (go_at_call 12; refine (HSd.out _ (own_byt HP8.out.own).1).mono ?_; rintro e w9 ⟨rfl, k9⟩; have HP9 := hidden (HP8.out.later k9); clear k9)
        | (go_at_call 25; refine (len_any HP9.out.hw).mono ?_; rintro e w10 ⟨rfl, rfl⟩))
      go_returns
      exact ⟨rfl, HP9.out.same⟩
end Go.Proofs.YtbankcgkbiflhaaDoor
namespace Go.Proofs.YtbankcgkbiflhaaDoor.ShaPieces
open Go.ChangeShapes Go.WideShapes Go.ChangeAt Go.RowKit Go.Joins Go.ChangeMaps
set_option maxRecDepth 100000 in
theorem contract (H : Type) (enc : TypeId × Value → H) (W : World) (base : Nat) (args : Array Value) (ds gs : List (DataW H)) (before : List MemPlace)
    (hval : ∀ (j : Nat) t v, Tryd.f8.params[j]? = some t → args[j]? = some v → Value.okWide Tryd.prog W .any base t v)
    (hW : DataW.Whole enc Tryd.prog Tryd.f8.params.toList Rows.shaPiecesSpec.vars false W args.toList ds gs before)
    (hsz : (DataW.weightsEach Tryd.prog (Tryd.f8.params.toList ++ (OpenSpec.ofChange Rows.shaPiecesSpec).bare.plain.varTypes Tryd.prog) (ds ++ gs)).all (· ≤ reachBytes) = true)
    (hk : Rows.uptoSmall H (ds ++ gs) = true)
    (hL : laidMetH Tryd.prog Rows.shaPiecesUptoRow.laid W) :
    Calls Tryd.prog 8 args W fun e W' => ∃ v, e = .returned v ∧ Rows.shaPiecesSpec.post enc Tryd.prog Tryd.f8 false true false false W args v W' := by
  have hW' := hW
  obtain ⟨p, q, hA0, hV, rfl, hfz, hnd⟩ := hW
  have hA : DataW.TrodAll enc Tryd.prog W 0 (fun _ => true) true Tryd.f8.params.toList args.toList ds p := hA0
  rw [Tryd.params8] at hA hval hsz
  obtain ⟨v0, vs0, d0, ds0, p0, q0, hargs, rfl, rfl, h0, r0⟩ := trodAll_cons hA
  obtain ⟨rfl, rfl, rfl⟩ := trodAll_nil r0
  obtain rfl : args = #[v0] := by cases args; simp_all
  obtain ⟨rfl, rfl⟩ := trodVars_none hV
  obtain ⟨n_l, f_l, in_l, bk_l⟩ := pieces_openU (hval 0 41 v0 rfl rfl) h0
  have hbk : ((List.range n_l).map fun i => (f_l i).bs.length + 1).sum ≤ 1048576 := by
    have h9 := of_decide_eq_true hk
    simp only [List.append_nil, Rows.uptoBulkAll] at h9
    omega
  refine (spieces_walk v0 n_l f_l W in_l hbk (tab_laid hL)).mono fun e W' ⟨he, hg⟩ => ?_
  subst he
  exact ⟨_, rfl, law_post laidOut (by rw [Tryd.params8]; decide +kernel) rfl hW' rfl Tryd.underlying4 ⟨rfl, rfl, rfl⟩ (hg.below (Nat.le_refl _) fun _ h => h.elim)⟩
set_option maxRecDepth 100000 in
theorem lifted (os : Os) (started : os.Started) (H : Type) (enc : TypeId × Value → H) (F : Stop.Interp) :
    ReturnsInHanded {} Tryd.checked os 8 .any ((Rows.OpenSpec.upto Rows.shaPiecesSpec).preRow enc Tryd.prog Tryd.f8 Rows.shaPiecesUptoRow.domain false Rows.shaPiecesUptoRow.laid) (((Rows.OpenSpec.upto Rows.shaPiecesSpec).at F).post enc Tryd.prog Tryd.f8 false true false false) := by
  refine returnsInHanded_of_row (C := Tryd.checked) (s := Rows.OpenSpec.upto Rows.shaPiecesSpec) own started (by kernel_rfl) Tryd.func8
    (witness_row_at (enc := enc) (C := Tryd.checked) false ({ World.holding Tryd.prog os ⟨#[], #[], []⟩ with heap := (World.holding Tryd.prog os ⟨#[], #[], []⟩).heap.modify tabBlock fun | .cells _ t frozen => .cells (tabInts.map (Value.int .u32)).toArray t frozen | o => o }) #[.slice none 0 0] rfl (by kernel_rfl) (by kernel_rfl) (by kernel_rfl)
      (OpenSpec.preRow_of_cond (x := ([.nil], [], [])) 8 (by kernel_rfl) (by kernel_rfl) (fun k hk => by cases hk; kernel_rfl) (by kernel_rfl) (laidMet_of_run' 8 (by kernel_rfl) (by kernel_rfl)))) ?_
  intro W base args ds gs before hval hW _ hcond hsz hL _ _
  exact contract H enc W base args ds gs before hval hW hsz (hcond _ rfl) hL
theorem said : Rows.ShaPiecesUptoSaid :=
  OpenClaim.holds_of_cond 8 Tryd.f8 rfl rfl rfl rfl rfl rfl rfl ⟨rfl, rfl, rfl, rfl, rfl⟩ rfl rfl rfl rfl rfl (by kernel_rfl) Tryd.func8 (by kernel_rfl)
    (of_decide_eq_true (by kernel_rfl)) (by unfold Func.isWrapper; first | (rw [if_pos (by decide +kernel)]; kernel_rfl) | (rw [if_neg (by decide +kernel)]; exact ⟨rfl, rfl⟩))
    (fun os started H enc _ F => by rw [OpenClaim.pre_eq_preRow]; exact lifted os started H enc F)
theorem plain (f : FuncId) (fn : Func) (hf : Tryd.pinned.checked.prog.funcNamed Rows.shaPiecesUptoRow.func = some f) (hfn : Tryd.pinned.checked.prog.funcs[f]? = some fn) :
    false = Tryd.pinned.checked.prog.looks [] ∧ ∀ (j : Nat) t, fn.params[j]? = some t → Tryd.pinned.checked.prog.wantsStandIn t = false := by
  obtain rfl : f = 8 := Option.some.inj ((show Tryd.prog.funcNamed Rows.shaPiecesUptoRow.func = some 8 by kernel_rfl).symm.trans hf) |>.symm
  obtain rfl : fn = Tryd.f8 := (Option.some.inj (Tryd.func8.symm.trans hfn)).symm
  refine ⟨by kernel_rfl, fun j t ht => ?_⟩
  rw [Tryd.params8] at ht
  have hm : t ∈ [41] := by simpa using Array.mem_of_getElem? ht
  have hall : [41].all (fun t => !Tryd.prog.wantsStandIn t) = true := by kernel_rfl
  have h1 := List.all_eq_true.1 hall t hm
  have h2 : Tryd.prog.wantsStandIn t = false := by simpa using h1
  exact h2
theorem card : Rows.ShaPiecesUptoCardSaid :=
  Claim7.holds_tied_plain_at .later [] _ _ _ _ said (fun _ h => by cases h) (by kernel_rfl) (fun _ h => by cases h) shaPiecesUpto_row_tie rfl ⟨rfl, rfl⟩ (by kernel_rfl) rfl plain (by kernel_rfl)
end Go.Proofs.YtbankcgkbiflhaaDoor.ShaPieces
namespace Go.Proofs.YtbankcgkbiflhaaDoor
theorem shaPiecesUpto_card : Rows.ShaPiecesUptoCardSaid := ShaPieces.card
end Go.Proofs.YtbankcgkbiflhaaDoor
