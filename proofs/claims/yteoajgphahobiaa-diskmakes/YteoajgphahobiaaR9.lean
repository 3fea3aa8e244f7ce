/- The document's disk as a state. -/
import Derived.Test.YteoajgphahobiaaR4
import Derived.Test.YteoajgphahobiaaR7
import Derived.Test.YteoajgphahobiaaR8
/- The document's disk: Pending. -/
namespace Go.Proofs.Yteoajgphahobiaa
open Go.RowKit
set_option linter.unusedVariables false
theorem ints_own' {w : World} {B m : Nat} {v : Value} {zs : List Int} (h : w.ownsRow B 3 1 v m (zs.map (Value.int .i64))) : Ints w v zs := by
  have hl : zs.length = m := by simpa using h.1
  rcases h.2 with ⟨e, h0⟩ | ⟨g, cap, cur, e, _⟩
  · refine Or.inl ⟨e, ?_⟩
    match zs, hl with
    | [], _ => rfl
    | _ :: _, hl => simp at hl; omega
  · refine Or.inr ⟨⟨g, 0, none⟩, cap, by rw [hl]; exact e, fun j hj => ?_⟩
    exact h.cells (g := g) (by rw [e]; rfl) j _ (by rw [List.getElem?_map, List.getElem?_eq_getElem hj]; rfl)
set_option maxHeartbeats 2000000 in
set_option maxRecDepth 100000 in
theorem r_pending (n c pb L pc g m : Nat) (qv : Value) (qs : List Value) (pend : List (Nat × List UInt8)) (lim : Bool) (more : Int) (r wn f : Nat) (w : World)
    (hb : w.heap[g]? = some (.cells (RC n c pb L pc qv r wn f lim more) 35 (0, 0))) (hq : w.ownsRow 0 58 2 qv m qs) (hpm : pend.length = m) (hN : RQ w c n qs pend) (hm : m ≤ 4398046511104) :
    Calls Try.prog 48 #[.pointer (some ⟨g, 0, none⟩)] w fun e w' => ∃ v, e = .returned v ∧ Ints w' v (pend.map fun x => (x.1 : Int)) ∧ Same w w' := by
  obtain ⟨qa, qc, rfl⟩ := own_form hq
  have c3 : w.cell? ⟨g, 3, none⟩ = some (.slice qa m qc) := blk_cell hb
  obtain ⟨i1, hi1, hy0, hy1, hy2⟩ := info_parts infoInt
  have HQ := hidden hq
  have HN := hidden hN
  have HPM := hidden hpm
  clear hb hq hN hpm
  go_enter Try.func48, Try.ntmps48
  go_wp2
  go_loopw [3, 4] (fun v i wr => ∃ (k : Nat) (aa : Option Addr) (ac : Nat), k ≤ m ∧ i = .int .i64 k ∧ v = .slice aa k ac ∧ wr.ownsRow w.heap.size 3 1 (.slice aa k ac) k (((pend.take k).map fun x => (x.1 : Int)).map (Value.int .i64)) ∧ Same w wr) (fun v i wr => m - (intOf i).toNat)
  case atStart => exact ⟨0, none, 0, Nat.zero_le _, rfl, rfl, World.ownsRow_nil _ _ _ _, Kept.refl _ _⟩
  case round =>
    obtain ⟨k, aa, ac, hk, rfl, rfl, hA, hS⟩ := hrel
    have AA := hidden hA
    have SA := hidden hS
    have hsz := hS.size
    have d3 : wr.cell? ⟨g, 3, none⟩ = some (.slice qa m qc) := Kept.cell hS (fun h => h) c3
    clear hA hS
    by_cases hlt : k < m
    · obtain ⟨u, n1, n2, n4, n3, n5⟩ := HN.out k (by rw [HPM.out]; exact hlt)
      have hsn : ((pend.take (k + 1)).map fun x => (x.1 : Int)).map (Value.int .i64) = ((pend.take k).map fun x => (x.1 : Int)).map (Value.int .i64) ++ [.int .i64 ((pend[k]'(by rw [HPM.out]; exact hlt)).1 : Int)] := by
        rw [List.take_add_one, List.getElem?_eq_getElem (by rw [HPM.out]; exact hlt), Option.toList_some, List.map_append, List.map_append]
        rfl
      obtain ⟨N, hNe⟩ : ∃ N, (pend[k]'(by rw [HPM.out]; exact hlt)).1 = N := ⟨_, rfl⟩
      rw [hNe] at n1 hsn
      have HSN := hidden hsn
      obtain ⟨gq, rfl⟩ : ∃ gq : Nat, qa = some ⟨gq, 0, none⟩ := by
        rcases HQ.out.2 with ⟨_, h⟩ | ⟨gq, cap, cur, h, _⟩
        · omega
        · exact ⟨gq, by simpa using (Value.slice.inj h).1⟩
      have hqr := own_kept HQ.out SA.out (fun _ _ h => h)
      have z1 := hqr.cells (g := gq) rfl (k * 2) _ n1
      rw [add_none, Nat.zero_add] at z1
      have m1 : Hid (k + 1 ≤ maxLen) := by rw [Hid]; unfold maxLen; omega
      have m2 : Hid ((k + 1) * 8 ≤ 140737488355328) := by rw [Hid]; omega
      have q0 : (0 : Int) ≤ (k : Int) := Int.natCast_nonneg _
      have q1 : (k : Int) < (m : Int) := by omega
      clear hqr n1 n2 n4 n3 n5 hsn hNe
      go_wp2_with (at_builtin; go_must (refine wpList_append_lies _ (by rfl) _ _ 39 (by rfl) w.heap.size 3 i1 _ 1 8 Try.underlying39 hi1 hy0 hy1 hy2 rfl (by decide) _ _ _ (by rfl) (AA.out.alloc _) ⟨wr.heap.size, 0, none⟩ 1 1 _ (by rfl) (by rfl) (World.news_of_block (heap_alloc_new wr _)) (by simp [Value.oneCell']) (by decide) m1.out m2.out (by simp; omega) (wr.heap.size + 1) (by simp) ?_); intro ga ca w9 hown hgrow hat hlt6)
      have K9 : Kept (fun x => (Value.slice aa k ac).ownBlock = some x) wr w9 := ((Kept.refl (fun x => (Value.slice aa k ac).ownBlock = some x) wr).alloc _).grown hgrow (fun k hk _ => hk)
      have S9 := hidden (SA.out.trans' K9 (fun q hq hs => by have := (AA.out.lt q hs).1; omega))
      have O9 : Hid (w9.ownsRow w.heap.size 3 1 (.slice (some ⟨ga, 0, none⟩) (k + 1) ca) (k + 1) (((pend.take (k + 1)).map fun x => (x.1 : Int)).map (Value.int .i64))) := by rw [Hid, HSN.out]; exact hown
      clear hown hgrow hat hlt6 K9
      go_roundw
      case rel => exact ⟨k + 1, _, _, by omega, by go_num, rfl, O9.out, S9.out⟩
      case measure => simp [intOf]; omega
    · have q1 : ¬ (k : Int) < (m : Int) := by omega
      go_wp2
      go_returns
      have ha := AA.out
      rw [List.take_of_length_le (by rw [HPM.out]; omega)] at ha
      exact ⟨_, rfl, ints_own' ha, SA.out⟩
end Go.Proofs.Yteoajgphahobiaa
namespace Go.Proofs.Yteoajgphahobiaa
open Go.RowKit
set_option linter.unusedVariables false
/-- The blocks that a call of the document's Disk may write. -/
def rS (g pb : Nat) (w : World) : Nat → Prop := fun k => k = g ∨ k = pb ∨ rowOf w g 3 = some k
structure RF (g pb : Nat) (w w' : World) : Prop where
  kept : Kept (rS g pb w) w w'
  row : ∀ k, k < w.heap.size → rowOf w' g 3 = some k → rowOf w g 3 = some k
theorem RF.refl (g pb : Nat) (w : World) : RF g pb w w := ⟨Kept.refl _ _, fun _ _ h => h⟩
structure RD (A : Nat → Prop) (B n c g pb pc : Nat) (s : St) (w : World) : Prop where
  ex : ∃ (qv : Value) (qs : List Value) (more : Int), w.heap[g]? = some (.cells (RC n c pb (n * c) pc qv s.r s.wn s.f s.lim more) 35 (0, 0)) ∧ (s.lim = true → more = s.lf) ∧ more ≤ 9223372036854775807 ∧
    w.ownsRow 0 58 2 qv s.pend.length qs ∧ RQ w c n qs s.pend ∧ (∀ k, qv.ownBlock = some k → B ≤ k) ∧ (∀ u ∈ qs, ∀ k, u.ownBlock = some k → ¬ A k)
  pr : PR w pb (n * c) pc s.pl.flatten
  ok : SOk n c s
  ap : A pb
  lg : B ≤ g
  lp : B ≤ pb
  n1 : 1 ≤ n
  hn : n ≤ 4096
  c1 : 1 ≤ c
  hc : c ≤ 4096
theorem rowOf_rc {w : World} {g n c pb L pc r wn f : Nat} {lim : Bool} {more : Int} {qv : Value} (h : w.heap[g]? = some (.cells (RC n c pb L pc qv r wn f lim more) 35 (0, 0))) : rowOf w g 3 = qv.ownBlock := by
  unfold rowOf
  rw [blk_cell h]
  rfl
theorem RB.same {w w' : World} {u : Value} {l : List UInt8} (h : RB w u l) (k : Same w w') : RB w' u l := own_kept h k (fun _ _ h => h)
theorem RD.same {A : Nat → Prop} {B n c g pb pc : Nat} {s : St} {w w' : World} (h : RD A B n c g pb pc s w) (k : Same w w') : RD A B n c g pb pc s w' := by
  obtain ⟨qv, qs, more, h1, h2, h3, h4, h5, h6, h7⟩ := h.ex
  exact ⟨⟨qv, qs, more, blk_kept k (fun h => h) h1, h2, h3, own_kept h4 k (fun _ _ h => h), h5.kept k (fun _ _ _ _ h => h), h6, h7⟩, h.pr.kept k (fun h => h), h.ok, h.ap, h.lg, h.lp, h.n1, h.hn, h.c1, h.hc⟩
theorem gone_more {s : St} {more : Int} (hg : s.gone = false) (h : s.lim = true → more = s.lf) : ¬ (s.lim = true ∧ more = 0) := fun ⟨a, b⟩ => by
  have := h a
  unfold St.gone at hg
  rw [a, ← this, b] at hg
  simp at hg
theorem spL_more {s : St} {more : Int} (h : s.lim = true → more = s.lf) : s.lim = true → spL s.lim more = spL s.lim s.lf := fun a => by rw [h a]
theorem more_ge {A : Nat → Prop} {B n c g pb pc : Nat} {s : St} {w : World} (h : RD A B n c g pb pc s w) {more : Int} (hm : s.lim = true → more = s.lf) : s.lim = true → 0 ≤ more := fun a => by rw [hm a]; exact h.ok.f0
theorem spL_le {lim : Bool} {more : Int} (h : more ≤ 9223372036854775807) : spL lim more ≤ 9223372036854775807 := by
  unfold spL
  split <;> omega
theorem rd_write {A : Nat → Prop} {B n c g pb pc M : Nat} {s : St} {w : World} (h : RD A B n c g pb pc s w) (hA : ∀ k, A k → k < w.heap.size) (hM : SB M s) (hm : M ≤ 4398046511102) (hB : B ≤ w.heap.size) (i : Nat) (hi : i < c) (v : Value) (l : List UInt8) (hv : Byt w v l) (hvn : ∀ a k cap, v = .slice (some a) k cap → a.block ≠ g) (hl : l.length = n) :
    Calls Try.prog 45 #[.pointer (some ⟨g, 0, none⟩), .int .i64 i, v] w fun e w' => e = .returned (.int .i64 0) ∧ RD A B n c g pb pc (s.write i l) w' ∧ KT B w w' ∧ RF g pb w w' := by
  obtain ⟨qv, qs, more, h1, h2, h3, h4, h5, h6, h7⟩ := h.ex
  have hw : s.write i l = if s.gone then s else { s with pend := s.pend ++ [(i, l)], lf := spL s.lim s.lf, wn := s.wn + 1 } := rfl
  cases hgo : s.gone
  · have := hM.m
    have := hM.wn
    refine (r_write n c pb (n * c) pc g i s.pend.length qv qs s.lim more (gone_more hgo h2) (more_ge h h2) h3 s.r s.wn s.f v l w h1 h4 hv hvn hl h.n1 h.hn hi (by omega) (by omega)).mono ?_
    rintro e w' ⟨rfl, ⟨u, gq, qc, o1, o2, o3, o4, o5, o6⟩⟩
    have kk : KT B w w' := KT.of o5 fun k hk hs => by
      rcases hs with rfl | hs
      · exact kt_of h1 h.lg (by decide)
      · exact kt_row h4 hs (h6 _ hs) (by decide)
    have hok := h.ok.write hi hl
    rw [hw, hgo, if_neg (by simp)]
    rw [hw, hgo, if_neg (by simp)] at hok
    have hql : qs.length = s.pend.length * 2 := h4.1
    have hpg : ¬ (pb = g ∨ qv.ownBlock = some pb) := fun hs => by
      rcases hs with hs | hs
      · exact own_apart h.pr.2 h1 (by decide) (by rw [← hs]; rfl)
      · rcases own_rows h4 h.pr.2 (by decide) with hx | hx
        · rw [hs] at hx; cases hx
        · exact hx (by rw [hs]; rfl)
    have ho5 : ∀ u l, RB w u l → RB w' u l := fun u l o => own_kept o o5 (fun k hk hs => by
      rcases hs with hs | hs
      · exact own_apart o h1 (by decide) (by rw [hk, hs])
      · rcases own_rows h4 o (by decide) with hx | hx
        · rw [hs] at hx; cases hx
        · exact hx (by rw [hs, hk]))
    have hun : ∀ k, u.ownBlock = some k → ¬ A k := fun k hk ha => by have := o2 k hk; have := hA k ha; omega
    refine ⟨rfl, ⟨⟨_, _, spL s.lim more, o3, spL_more h2, spL_le h3, by rw [List.length_append]; exact o4, ?_, ?_, ?_⟩, h.pr.kept o5 hpg, hok, h.ap, h.lg, h.lp, h.n1, h.hn, h.c1, h.hc⟩, kk, ⟨o5.mono (fun k _ hs => hs.imp id (fun h => Or.inr (by rw [rowOf_rc h1]; exact h))), fun k hk hr => ?_⟩⟩
    · intro k hk
      by_cases hkm : k < s.pend.length
      · obtain ⟨y, a, b, d, e', f'⟩ := h5 k hkm
        refine ⟨y, ?_, ?_, ?_, ?_, ?_⟩
        · rw [List.getElem?_append_left (by omega), List.getElem_append_left hkm]; exact a
        · rw [List.getElem?_append_left (by omega)]; exact b
        · rw [List.getElem_append_left hkm]; exact ho5 _ _ d
        · rw [List.getElem_append_left hkm]; exact e'
        · rw [List.getElem_append_left hkm]; exact f'
      · obtain rfl : k = s.pend.length := by rw [List.length_append] at hk; simp at hk; omega
        refine ⟨u, ?_, ?_, ?_, ?_, ?_⟩
        · rw [List.getElem?_append_right (by omega), hql, Nat.sub_self]; simp
        · rw [List.getElem?_append_right (by omega), hql, Nat.add_sub_cancel_left]; rfl
        · simpa using o1
        · simpa using hi
        · simpa using hl
    · intro k hk
      simp [Value.ownBlock] at hk
      subst hk
      rcases o6 with h | h
      · exact h6 _ h
      · omega
    · intro x hx
      rcases List.mem_append.1 hx with hx | hx
      · exact h7 x hx
      · rcases List.mem_cons.1 hx with rfl | hx
        · intro k hk; cases hk
        · rw [List.mem_singleton.1 hx]; exact hun
    · rw [rowOf_rc o3] at hr
      rw [rowOf_rc h1]
      simp [Value.ownBlock] at hr
      subst hr
      rcases o6 with h | h
      · exact h
      · omega
  · have hg2 : s.lim = true ∧ s.lf = 0 := by simpa [St.gone] using hgo
    have h1' := h1
    rw [hg2.1, h2 hg2.1, hg2.2] at h1'
    refine (r_writeOff n c pb (n * c) pc g i qv s.r s.wn s.f v l w h1' hv hl hi).mono ?_
    rintro e w' ⟨rfl, rfl⟩
    rw [hw, hgo, if_pos rfl]
    exact ⟨rfl, h, KT.refl _ _, RF.refl _ _ _⟩
theorem rd_flush {A : Nat → Prop} {B n c g pb pc M : Nat} {s : St} {w : World} (h : RD A B n c g pb pc s w) (hM : SB M s) (hm : M ≤ 4398046511104) :
    Calls Try.prog 47 #[.pointer (some ⟨g, 0, none⟩)] w fun e w' => e = .returned (.int .i64 s.pend.length) ∧ RD A B n c g pb pc s.flush w' ∧ RF g pb w w' := by
  obtain ⟨qv, qs, more, h1, h2, h3, h4, h5, h6, h7⟩ := h.ex
  have hw : s.flush = if s.gone then s else { s with pl := app s.pend s.pl, pend := [], lf := spL s.lim s.lf, f := s.f + 1 } := rfl
  cases hgo : s.gone
  · have := hM.m
    have := hM.f
    refine (r_flush n c pb (n * c) pc g s.pend.length qv qs s.pl s.pend s.lim more (gone_more hgo h2) (more_ge h h2) h3 s.r s.wn s.f w h1 rfl h.pr h.ok.len h.ok.pn h4 rfl h5 (fun u hu e => h7 u hu pb e h.ap) h.n1 h.hn h.hc (by omega) (by omega)).mono ?_
    rintro e w' ⟨rfl, o1, o2, o3⟩
    have hok := h.ok.flush
    rw [hw, hgo, if_neg (by simp)]
    rw [hw, hgo, if_neg (by simp)] at hok
    exact ⟨rfl, ⟨⟨_, [], spL s.lim more, o1, spL_more h2, spL_le h3, World.ownsRow_nil _ _ _ _, (fun k hk => absurd hk (by simp)), (fun k hk => by cases hk), (fun u hu => by cases hu)⟩, o2, hok, h.ap, h.lg, h.lp, h.n1, h.hn, h.c1, h.hc⟩, ⟨o3.mono (fun k _ hs => hs.imp id Or.inl), fun k hk hr => by rw [rowOf_rc o1] at hr; cases hr⟩⟩
  · have hg2 : s.lim = true ∧ s.lf = 0 := by simpa [St.gone] using hgo
    obtain ⟨qa, qc, rfl⟩ := own_form h4
    have h1' := h1
    rw [hg2.1, h2 hg2.1, hg2.2] at h1'
    refine (r_flushOff n c pb (n * c) pc g s.pend.length qc qa s.r s.wn s.f w h1').mono ?_
    rintro e w' ⟨rfl, rfl⟩
    rw [hw, hgo, if_pos rfl]
    exact ⟨rfl, h, RF.refl _ _ _⟩
theorem rd_crashYes {A : Nat → Prop} {B n c g pb pc M : Nat} {s : St} {w : World} (h : RD A B n c g pb pc s w) (hM : SB M s) (hm : M ≤ 4398046511104) (kv : Value) (ks : List Int) (hk : Ints w kv ks) (hkb : ∀ a k c, kv = .slice (some a) k c → 0 < k → a.block ≠ pb ∧ a.block ≠ g) (hl : ks.length ≤ 140737488355328) (hy : mayB s.pend.length 0 ks = true) :
    Calls Try.prog 49 #[.pointer (some ⟨g, 0, none⟩), kv] w fun e w' => e = .returned (.int .i64 0) ∧ RD A B n c g pb pc (s.crash ks) w' ∧ RF g pb w w' := by
  obtain ⟨qv, qs, more, h1, h2, h3, h4, h5, h6, h7⟩ := h.ex
  have hmM := hM.m
  have hall := mayB_all s.pend.length ks 0 (Int.le_refl _) hy
  refine (r_crash n c pb (n * c) pc g s.pend.length kv ks qv qs s.pl s.pend (selOf s.pend ks) s.lim more s.r s.wn s.f w hk hkb hl h1 rfl h.pr h.ok.len h.ok.pn h4 rfl h5 (fun u hu e => h7 u hu pb e h.ap) (by simp [selOf]) (fun k h h' j hj => ?_) h.n1 h.hn h.hc (by omega) hy).mono ?_
  · have hm := hall _ (List.getElem_mem h)
    rw [hj] at hm
    refine ⟨by omega, ?_⟩
    simp only [selOf, List.getElem_map, hj]
    rw [List.getD_eq_getElem?_getD, Int.toNat_natCast, List.getElem?_eq_getElem (by omega)]
    rfl
  rintro e w' ⟨rfl, o1, o2, o3⟩
  exact ⟨rfl, ⟨⟨_, [], 0, o1, (fun h => by cases h), by omega, World.ownsRow_nil _ _ _ _, (fun k hk => absurd hk (by simp [St.crash])), (fun k hk => by cases hk), (fun u hu => by cases hu)⟩, o2, h.ok.crash hy, h.ap, h.lg, h.lp, h.n1, h.hn, h.c1, h.hc⟩, ⟨o3.mono (fun k _ hs => hs.imp id Or.inl), fun k hk hr => by rw [rowOf_rc o1] at hr; cases hr⟩⟩
theorem rd_crashNo {A : Nat → Prop} {B n c g pb pc M : Nat} {s : St} {w : World} (h : RD A B n c g pb pc s w) (hM : SB M s) (hm : M ≤ 4398046511104) (kv : Value) (ks : List Int) (hk : Ints w kv ks) (hkz : ∀ z ∈ ks, -9223372036854775808 ≤ z ∧ z ≤ 9223372036854775807) (hl : ks.length ≤ 140737488355328) (hy : mayB s.pend.length 0 ks = false) :
    Calls Try.prog 49 #[.pointer (some ⟨g, 0, none⟩), kv] w fun e w' => e = .returned (.int .i64 1) ∧ Same w w' := by
  obtain ⟨qv, qs, more, h1, h2, h3, h4, h5, h6, h7⟩ := h.ex
  have hmM := hM.m
  obtain ⟨qa, qc, rfl⟩ := own_form h4
  exact r_crashNo g s.pend.length qc qa kv ks w hk hl hkz (blk_cell h1) (by omega) hy
theorem rd_pending {A : Nat → Prop} {B n c g pb pc M : Nat} {s : St} {w : World} (h : RD A B n c g pb pc s w) (hM : SB M s) (hm : M ≤ 4398046511104) :
    Calls Try.prog 48 #[.pointer (some ⟨g, 0, none⟩)] w fun e w' => ∃ v, e = .returned v ∧ Ints w' v s.pds ∧ Same w w' := by
  obtain ⟨qv, qs, more, h1, h2, h3, h4, h5, h6, h7⟩ := h.ex
  have hmM := hM.m
  exact r_pending n c pb (n * c) pc g s.pend.length qv qs s.pend s.lim more s.r s.wn s.f w h1 h4 rfl h5 (by omega)
theorem rd_off {A : Nat → Prop} {B n c g pb pc : Nat} {s : St} {w : World} (h : RD A B n c g pb pc s w) :
    Calls Try.prog 51 #[.pointer (some ⟨g, 0, none⟩)] w fun e w' => e = .returned (.bool s.gone) ∧ w = w' := by
  obtain ⟨qv, qs, more, h1, h2, _⟩ := h.ex
  have hh := r_off g s.lim more w (blk_cell h1) (blk_cell h1)
  have e : (s.lim && (more == 0)) = s.gone := by
    unfold St.gone
    cases hl : s.lim
    · rfl
    · rw [h2 hl]
  rw [e] at hh
  exact hh
theorem rd_stop {A : Nat → Prop} {B n c g pb pc : Nat} {s : St} {w : World} (h : RD A B n c g pb pc s w) (z : Int) (hz : z ≤ 9223372036854775807) :
    Calls Try.prog 50 #[.pointer (some ⟨g, 0, none⟩), .int .i64 z] w fun e w' => e = .returned (.tuple #[]) ∧ RD A B n c g pb pc (s.stop z) w' ∧ RF g pb w w' := by
  obtain ⟨qv, qs, more, h1, h2, h3, h4, h5, h6, h7⟩ := h.ex
  refine (r_stop n c pb (n * c) pc g qv s.r s.wn s.f s.lim more z w h1).mono ?_
  rintro e w' ⟨rfl, o1, o2⟩
  have ng := own_apart h4 h1 (by decide)
  have hpg : pb ≠ g := fun e => own_apart h.pr.2 h1 (by decide) (by rw [← e]; rfl)
  have hN : RQ w' c n qs s.pend := fun j hj => by
    obtain ⟨u, a, b, d, e, f⟩ := h5 j hj
    exact ⟨u, a, b, own_kept d o2 (fun k hk hs => own_apart d h1 (by decide) (by rw [hk, hs])), e, f⟩
  exact ⟨rfl, ⟨⟨qv, qs, z, o1, (fun hl => by have h0 : 0 ≤ z := (by simpa [St.stop] using hl); simp [St.stop, h0]), hz, own_kept h4 o2 (fun k hk e => ng (by rw [hk, e])), hN, h6, h7⟩, h.pr.kept o2 hpg, h.ok.stop hz, h.ap, h.lg, h.lp, h.n1, h.hn, h.c1, h.hc⟩, ⟨o2.mono (fun k _ hs => Or.inl hs), fun k hk hr => by rw [rowOf_rc o1] at hr; rw [rowOf_rc h1]; exact hr⟩⟩
theorem rd_read {A : Nat → Prop} {B n c g pb pc M : Nat} {s : St} {w : World} (h : RD A B n c g pb pc s w) (hM : SB M s) (hm : M ≤ 4398046511104) (i : Nat) (hi : i < c) (hir : i < (app s.pend s.pl).length) :
    Calls Try.prog 46 #[.pointer (some ⟨g, 0, none⟩), .int .i64 i] w fun e w' => ∃ go gc, e = .returned (.tuple #[.slice (some ⟨go, 0, none⟩) n gc, .int .i64 0]) ∧ w.heap.size ≤ go ∧ PR w' go n gc (app s.pend s.pl)[i] ∧ RD A B n c g pb pc s.read w' ∧ KT B w w' ∧ RF g pb w w' := by
  obtain ⟨qv, qs, more, h1, h2, h3, h4, h5, h6, h7⟩ := h.ex
  have := hM.m
  have := hM.r
  refine (r_read n c pb (n * c) pc g s.pend.length i qv qs s.pl s.pend s.lim more s.r s.wn s.f w h1 rfl h.pr h.ok.len h.ok.pn h4 rfl h5 h.n1 h.hn h.hc (by omega) (by omega) hi hir).mono ?_
  rintro e w' ⟨go, gc, rfl, o0, oP, o1, o2⟩
  have ng := own_apart h4 h1 (by decide)
  have hpg : pb ≠ g := fun e => own_apart h.pr.2 h1 (by decide) (by rw [← e]; rfl)
  have hN : RQ w' c n qs s.pend := fun j hj => by
    obtain ⟨u, a, b, d, e, f⟩ := h5 j hj
    exact ⟨u, a, b, own_kept d o2 (fun k hk hs => own_apart d h1 (by decide) (by rw [hk, hs])), e, f⟩
  exact ⟨go, gc, rfl, o0, oP, ⟨⟨qv, qs, more, o1, h2, h3, own_kept h4 o2 (fun k hk e => ng (by rw [hk, e])), hN, h6, h7⟩, h.pr.kept o2 hpg, h.ok.read, h.ap, h.lg, h.lp, h.n1, h.hn, h.c1, h.hc⟩, KT.of o2 (fun k hk hs => by subst hs; exact kt_of h1 h.lg (by decide)), ⟨o2.mono (fun k _ hs => Or.inl hs), fun k hk hr => by rw [rowOf_rc o1] at hr; rw [rowOf_rc h1]; exact hr⟩⟩
end Go.Proofs.Yteoajgphahobiaa
