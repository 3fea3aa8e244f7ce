/- The law's goes. (Made by mkgoes.py.) -/
import Derived.Test.YtelngbkbdihdnaaItPart
import Derived.Test.YtelngbkbdihdnaaSNobody
import Derived.RangeFuncCalls
import Derived.LoopNIn
namespace Go.Proofs.Ytelngbkbdihdnaa
open Go.RowKit Go.Shelf
set_option linter.unusedVariables false
attribute [local go_sem] Oper.semAt_some
theorem hp_push (W : World) (o : Obj) (i : Nat) : (W.alloc o).heap[i]? = if i = W.heap.size then some o else W.heap[i]? := by
  split
  · rename_i h
    rw [h]
    exact heap_alloc_new W o
  · rename_i h
    by_cases hi : i < W.heap.size
    · exact heap_alloc_old W o hi
    · rw [Array.getElem?_eq_none (by rw [alloc_size1]; omega), Array.getElem?_eq_none (by omega)]
/-- The law's boxes: the wanted items, the stop, the result. -/
structure GB (w : World) (q bW bS bR : Nat) (vw : Value) (st : Int) (W : World) : Prop where
  same : Same w W
  want : W.heap[bW]? = some (.cells #[vw] 42 (0, 0))
  stop : W.heap[bS]? = some (.cells #[.int .i64 st] 3 (0, 0))
  res : W.heap[bR]? = some (.cells #[.bool false] 4 (0, 0))
  l1 : bW < q
  l2 : bS < q
  l3 : bR < q
  l4 : w.heap.size ≤ bR
theorem GB.kept {w W W' : World} {q bW bS bR : Nat} {vw : Value} {st : Int} (h : GB w q bW bS bR vw st W) (k : Kept (fun j => q ≤ j) W W') : GB w q bW bS bR vw st W' :=
  ⟨h.same.trans' k (fun i hi e => by have := h.l3; have := h.l4; omega), blk_kept k (by have := h.l1; omega) h.want, blk_kept k (by have := h.l2; omega) h.stop, blk_kept k (by have := h.l3; omega) h.res, h.l1, h.l2, h.l3, h.l4⟩
/-- What stands in a round over the iterator. -/
structure GI (W0 : World) (q bi br : Nat) (r : Int) (L : List Kv) (Ds : List Nat) (pre : List Kv) (X : World) : Prop where
  kept : Kept (fun j => q ≤ j) W0 X
  ib : X.heap[bi]? = some (.cells #[.int .i64 (pre.length : Nat)] 3 (0, 0))
  rb : X.heap[br]? = some (.cells #[.int .i64 r] 3 (0, 0))
  pf : pre <+: L
  ds : ∀ D ∈ Ds, X.heap[D]? = some (.deferred (some []))
theorem GI.own {W0 : World} {q bi br : Nat} {r : Int} {L : List Kv} {Ds : List Nat} {N : Nat} (h1 : bi < N) (h2 : br < N) (hq : q ≤ N) (hD : ∀ D ∈ Ds, D < N) : OwnFrom N (GI W0 q bi br r L Ds) := fun pre A B row hs hg hr =>
  ⟨hs.kept.grown hg (fun k e _ => by have := (hr k e).1; omega), (hg.block bi (blk_lt hs.ib) (fun e => by have := (hr bi e.symm).1; omega)).trans hs.ib, (hg.block br (blk_lt hs.rb) (fun e => by have := (hr br e.symm).1; omega)).trans hs.rb, hs.pf,
    fun D hd => (hg.block D (blk_lt (hs.ds D hd)) (fun e => by have := (hr D e.symm).1; have := hD D hd; omega)).trans (hs.ds D hd)⟩
theorem beqS_ne2 {a b : ByteArray} (h : a ≠ b) : (a.toList == b.toList) = false := by
  rw [beq_eq_false_iff_ne]
  exact fun e => h (bytes_ext e)
theorem pf_iff2 {pre l : List Kv} {i : Nat} {x e : Kv} (hp : pre <+: l) (hl : pre.length = i) (he : l[i]? = some e) : (pre ++ [x]) <+: l ↔ x = e := by
  obtain ⟨q, rfl⟩ := hp
  rw [List.prefix_append_right_inj]
  rw [List.getElem?_append_right (by omega)] at he
  have e0 : i - pre.length = 0 := by omega
  rw [e0] at he
  rcases q with _ | ⟨c, q⟩
  · simp at he
  · simp at he
    subst he
    simp [List.cons_prefix_cons]
theorem keepsFrom_one {B b : Nat} {W W' : World} (k : Kept (fun j => j = b) W W') (hb : b < B) : KeepsFrom B W W' :=
  ⟨k.size, fun i o hB hi _ => (k.block i (Array.getElem?_eq_some_iff.1 hi).1 (by omega)).trans hi⟩
theorem two_defers_cell {W : World} {bR D E : Nat} (c : W.cell? ⟨bR, 0, none⟩ = some (.bool true)) (h1 : bR ≠ D) (h2 : bR ≠ E) : ((W.putObj D (.deferred none)).putObj E (.deferred none)).cell? ⟨bR, 0, none⟩ = some (.bool true) :=
  Kept.cell ((kept_putObj (S := fun k => k = D ∨ k = E) _ D _ (Or.inl rfl)).trans (kept_putObj _ E _ (Or.inr rfl))) (by simp; omega) c
set_option maxRecDepth 100000 in
set_option maxHeartbeats 8000000 in
theorem goes_all (x y : ByteArray) {B g : Nat} {l : List Kv} {v : Value} (st : Int) {w : World} (hm : MP B g l w) (h : ItR 0 w v (l)) (hl : ((l).length + 1) * 24 ≤ 140737488355328) :
    Calls Try.prog 53 #[.pointer (some ⟨g, 0, none⟩), .string x, .string y, .bool true, v, .int .i64 st] w fun e w' => e = .returned (.bool true) ∧ Same w w' := by
  have HR : Hid (∀ W, Same w W → ItR 0 W v (l)) := fun W kk => h.same kk
  obtain ⟨a0, c0, rfl, hc0, hb⟩ := h.form
  have HB := hidden hb
  obtain ⟨v0, t, e1, e2, e3⟩ := hm.ex
  obtain ⟨p, rfl⟩ := e2.ptr
  have HST := hidden hm.st
  have HBG := hidden e1
  have HBT := hidden e2
  have hgl : g < w.heap.size := blk_lt e1
  subst e3
  obtain ⟨L, hL⟩ : ∃ L, t.list = L := ⟨_, rfl⟩
  rw [hL] at HR HB hl hc0 ⊢
  have HLL := hidden hL
  obtain ⟨n, hn⟩ : ∃ n, L.length = n := ⟨_, rfl⟩
  have HN := hidden hn
  have CA := hidden (fun m W => (callsIn_wide (n := 5)).2 (all_fn m W))
  have CR := hidden (fun m x y W => (callsIn_wide (n := 5)).2 (range_fn m x y W))
  rw [hn] at hl hc0 ⊢
  clear h hb hn hm e1 e2 hL
  refine (callsIn_wide (n := 6)).1 ?_
  refine callsIn_of_wp_marks Try.func53 rfl trivial ?_ rfl
  simp only [Try.ntmps53, List.size_toArray, List.length_cons, List.length_nil, Nat.reduceAdd, Nat.reduceSub, Array.replicate_succ, Array.replicate_zero, List.push_toArray, List.append_toArray, List.nil_append, List.cons_append]
  gi_wp2_with (first
    | (refine ⟨trivial, ?_⟩; gi_at_call 41; refine (CR.out _ _ _ _).mono ?_; rintro e w1 ⟨rfl, rfl⟩)
    | (refine ⟨trivial, ?_⟩; gi_at_call 28; refine (CA.out _ _).mono ?_; rintro e w2 ⟨rfl, rfl⟩))
  obtain ⟨W0, hW0⟩ : ∃ X, X = ((((((((w.alloc (.cells #[.slice a0 n c0] 42)).alloc (.cells #[.int .i64 st] 3)).alloc (.cells #[.bool false] 4)).alloc (.cells #[.pointer (some ⟨g, 0, none⟩)] 40)).alloc (.cells #[.string x] 9)).alloc (.cells #[.string y] 9)).alloc (.cells #[.pointer (some ⟨g, 0, none⟩)] 40)).alloc (.cells #[.int .i64 0] 3)) := ⟨_, rfl⟩
  rw [← hW0]
  obtain ⟨bA, hbA⟩ : ∃ b, b = w.heap.size + 1 + 1 + 1 + 1 + 1 + 1 := ⟨_, rfl⟩
  obtain ⟨q, hq⟩ : ∃ q, q = w.heap.size + 7 := ⟨_, rfl⟩
  obtain ⟨f0, f1, f2, fi, fr⟩ : W0.heap[w.heap.size]? = some (.cells #[.slice a0 n c0] 42 (0, 0)) ∧ W0.heap[w.heap.size + 1]? = some (.cells #[.int .i64 st] 3 (0, 0)) ∧ W0.heap[w.heap.size + 1 + 1]? = some (.cells #[.bool false] 4 (0, 0)) ∧ (W0.heap[w.heap.size + 1 + 1 + 1 + 1 + 1 + 1]? = some (.cells #[.pointer (some ⟨g, 0, none⟩)] 40 (0, 0))) ∧ W0.heap[w.heap.size + 1 + 1 + 1 + 1 + 1 + 1 + 1]? = some (.cells #[.int .i64 0] 3 (0, 0)) := by
    rw [hW0]
    refine ⟨?_, ?_, ?_, ?_, ?_⟩ <;> (simp only [hp_push, alloc_size1]; (repeat first | rw [if_pos trivial] | rw [if_pos rfl] | rw [if_neg (by omega)]); try rfl)
  have kw0 : Same w W0 := by rw [hW0]; repeat first | exact Kept.refl _ _ | refine Kept.alloc ?_ _
  have hs0 : W0.heap.size = w.heap.size + 8 := by rw [hW0]; simp
  have G0 : Hid (GB w q w.heap.size (w.heap.size + 1) (w.heap.size + 1 + 1) (.slice a0 n c0) st W0) := ⟨kw0, f0, f1, f2, by omega, by omega, by omega, by omega⟩
  have HIT : Hid (∀ W, Kept (fun j => q ≤ j) W0 W → SeqStopsK Fence.wide 5 Try.prog 57 #[.pointer (some ⟨bA, 0, none⟩)] encKV (Kept (fun j => q ≤ j)) (fun ys => ys = L) (fun pre => pre <+: L) L.length W) := fun W kW => by
    have kk : Same w W := kw0.trans' kW (fun i hi e => by omega)
    have hg := blk_kept kk (fun h => h) HBG.out
    have hbt : BTo (fun j => q ≤ j) W (.pointer p) t := (BTo.of (w := w) (fun i cs hi => by have := blk_lt hi; omega) HBT.out).heap (fun i o hi => blk_kept kk (fun h => h) hi)
    have := allM_stops 5 bA g (by decide) (fun j => q ≤ j) W p t (blk_cell (blk_kept (g := bA) kW (by show ¬ q ≤ bA; omega) (by rw [hbA]; exact fi))) (blk_cell hg) hbt
    rw [HLL.out] at this
    exact this
  obtain ⟨br, hbr⟩ : ∃ b, b = w.heap.size + 1 + 1 + 1 + 1 + 1 + 1 + 1 := ⟨_, rfl⟩
  skip
  have F0 : Hid (W0.heap[br]? = some (.cells #[.int .i64 0] 3 (0, 0))) := by rw [hbr]; exact fr
  have hq0 : q ≤ br := by omega
  have hbrl : br < W0.heap.size := by omega
  obtain ⟨bR, hbR⟩ : ∃ b, b = w.heap.size + 1 + 1 := ⟨_, rfl⟩
  obtain ⟨bS, hbS⟩ : ∃ b, b = w.heap.size + 1 := ⟨_, rfl⟩
  rw [← hbr, ← hbA, ← hbR, ← hbS]
  rw [← hbR, ← hbS] at G0
  obtain ⟨bW, hbW⟩ : ∃ b, b = w.heap.size := ⟨_, rfl⟩
  rw [← hbW]
  have G1 : Hid (GB w q bW bS bR (.slice a0 n c0) st W0) := by rw [hbW]; exact G0.out
  have hwq : w.heap.size ≤ q := by omega
  clear hW0 f0 f1 f2 fi fr kw0 hs0 G0 hbr hbR hbS hbW hq hbA
  refine wpIn_loop_rounds 3 ?_
  rw [roundsIn_succ]
  have k00 : Kept (fun j => q ≤ j) W0 W0 := Kept.refl _ _
  have rcA0 : W0.cell? ⟨br, 0, none⟩ = some (.int .i64 0) := blk_cell F0.out
  gi_wp2
  obtain ⟨WBA0, hWB⟩ : ∃ X, X = W0.alloc (.cells #[.int .i64 0] 3) := ⟨_, rfl⟩
  rw [← hWB]
  have kWB : Kept (fun j => q ≤ j) W0 WBA0 := by rw [hWB]; exact Kept.alloc k00 _
  have bI : WBA0.heap[W0.heap.size]? = some (.cells #[.int .i64 0] 3 (0, 0)) := by rw [hWB]; exact heap_alloc_new W0 _
  have sB : W0.heap.size < WBA0.heap.size := by rw [hWB]; simp
  have bRr : WBA0.heap[br]? = some (.cells #[.int .i64 0] 3 (0, 0)) := by rw [hWB]; exact blk_alloc F0.out _
  have qiA0 : q ≤ W0.heap.size := by omega
  have bneA0 : br < W0.heap.size := hbrl
  have GIA0 : Hid (GI W0 q W0.heap.size br 0 L [] [] WBA0) := ⟨kWB, bI, bRr, List.nil_prefix, fun D hD => by cases hD⟩
  have hrunA0 := HIT.out WBA0 kWB
  have dslA0 : ∀ D ∈ ([] : List Nat), D < WBA0.heap.size := fun D hD => blk_lt (GIA0.out.ds D hD)
  clear hWB kWB bI bRr
  refine wpIn_rangeFunc_ownG rfl (by decide) (gf := 57) (lb := #[.pointer (some ⟨bA, 0, none⟩)]) rfl trivial (enters_of (Try.func57) (by kernel_rfl) rfl)
    hrunA0 (fun h k => h.trans k) (fun W l o o' hl _ _ _ => kept_putObj W l o' (by omega)) (Below.refl _ _) (fun _ => rfl)
    (GI W0 q W0.heap.size br 0 L []) (fun c pre X => ¬ pre <+: L ∨ (c = .exit 2 ∧ (pre.length : Int) = st ∧ GI W0 q W0.heap.size br 0 L [] pre X))
    (GI.own (by omega) (by omega) (by omega) dslA0) (fun c pre A B row hs hg hr => hs.imp id (fun ⟨e, f, i⟩ => ⟨e, f, GI.own (by omega) (by omega) (by omega) dslA0 pre A B row i hg hr⟩)) GIA0.out ?a1A0 ?assignA0 ?bodyA0 ?doneA0 ?stopA0
  case assignA0 =>
    intro lp x W K hK
    gi_wp2
    exact hK
  case bodyA0 =>
    rintro lp pre ⟨xk, xv⟩ W hG hlt
    obtain ⟨⟨a, yv⟩, hay⟩ : ∃ e, L[pre.length]? = some e := ⟨_, List.getElem?_eq_getElem hlt⟩
    have GK : Hid (Kept (fun j => q ≤ j) W0 W) := hG.kept
    obtain ⟨i, hi⟩ : ∃ i, pre.length = i := ⟨_, rfl⟩
    have HI := hidden hi
    have hin : i < n := by rw [← hi, ← HN.out]; exact hlt
    have gib := hG.ib
    have HG := hidden hG
    rw [hi] at gib hay
    obtain ⟨bb, rfl⟩ := HB.out (by have := HN.out; omega)
    have gb := G1.out.kept GK.out
    have hit := (HR.out W gb.same).at i (by have := HN.out; omega)
    obtain ⟨hlt2, hay2⟩ := List.getElem?_eq_some_iff.1 hay
    rw [hay2] at hit
    obtain ⟨u0, u1⟩ := hit
    have z0 : W.cell? ⟨bW, 0, none⟩ = some (.slice (some ⟨bb, 0, none⟩) n c0) := blk_cell gb.want
    have z1 : W.cell? ⟨bS, 0, none⟩ = some (.int .i64 st) := blk_cell gb.stop
    have z2 : W.cell? ⟨bR, 0, none⟩ = some (.bool false) := blk_cell gb.res
    have z3 : W.frozen? ⟨bR, 0, none⟩ = false := blk_free gb.res
    have z4 : W.cell? ⟨W0.heap.size, 0, none⟩ = some (.int .i64 i) := blk_cell gib
    have z5 : W.frozen? ⟨W0.heap.size, 0, none⟩ = false := blk_free gib
    have z6 : W.cell? ⟨br, 0, none⟩ = some (.int .i64 0) := blk_cell hG.rb
    have PFX : Hid ((pre ++ [(xk, xv)]) <+: L ↔ (xk, xv) = (a, yv)) := pf_iff2 hG.pf hi hay
    have q1 : ¬ (n : Int) ≤ (i : Int) := by omega
    have q2 : (i : Int) < (n : Int) := by omega
    have q3 : (0 : Int) ≤ (i : Int) := Int.natCast_nonneg _
    have hb3 : bR ≠ br := by have := gb.l3; omega
    have hlR : bR < WBA0.heap.size := by have := gb.l3; omega
    have GIB := hidden gib
    clear hi hay gib hG hlt hlt2 hay2 gb
    by_cases hk : xk = a
    · subst hk
      have hk2 : (xk.toList == xk.toList) = true := by simp
      by_cases hv : xv = yv
      · subst hv
        have PF : Hid ((pre ++ [(xk, xv)]) <+: L) := PFX.out.2 rfl
        have hv2 : (xv == xv) = true := by simp
        have zz : (W.setCell ⟨W0.heap.size, 0, none⟩ (.int .i64 ((i : Int) + 1))).cell? ⟨br, 0, none⟩ = some (.int .i64 0) := Kept.cell ((Kept.refl (fun k => k = W0.heap.size) W).setCell (p := ⟨W0.heap.size, 0, none⟩) rfl _) (by show ¬ br = W0.heap.size; omega) z6
        have KI : Hid (Kept (fun j => j = W0.heap.size) W (W.setCell ⟨W0.heap.size, 0, none⟩ (.int .i64 ((i : Int) + 1)))) := (Kept.refl (fun k => k = W0.heap.size) W).setCell (p := ⟨W0.heap.size, 0, none⟩) rfl _
        have NG : Hid (GI W0 q W0.heap.size br 0 L [] (pre ++ [(xk, xv)]) (W.setCell ⟨W0.heap.size, 0, none⟩ (.int .i64 ((i : Int) + 1)))) := ⟨GK.out.trans (KI.out.mono (fun j _ e => by omega)), by have := blk_set (j := 0) GIB.out (.int .i64 ((i : Int) + 1)); rw [List.length_append, HI.out]; exact this, blk_kept KI.out (by omega) HG.out.rb, PF.out, fun D hD => blk_kept KI.out (fun e => by have h1 := HG.out.ds D hD; rw [e, GIB.out] at h1; cases h1) (HG.out.ds D hD)⟩
        have zs : (W.setCell ⟨W0.heap.size, 0, none⟩ (.int .i64 ((i : Int) + 1))).cell? ⟨bS, 0, none⟩ = some (.int .i64 st) := blk_cell ((G1.out.kept NG.out.kept).stop)
        by_cases hs : (i : Int) + 1 = st
        · have HS := hidden hs
          have hs2 : ((i : Int) + 1 == st) = true := by rw [beq_iff_eq]; exact hs
          clear hs
          gi_wp2
          exact ⟨keepsFrom_one KI.out (by omega), .inr ⟨rfl, by rw [List.length_append, HI.out]; have := HS.out; simp; omega, NG.out⟩⟩
        · have hs2 : ((i : Int) + 1 == st) = false := by rw [beq_eq_false_iff_ne]; exact hs
          gi_wp2
          exact ⟨keepsFrom_one KI.out (by omega), KI.out.mono (fun j _ e => by omega), NG.out⟩
      · have NPF : Hid (¬ (pre ++ [(xk, xv)]) <+: L) := fun h => hv (by have := PFX.out.1 h; simp at this; exact this)
        gi_wp2
        exact ⟨keepsFrom_one ((Kept.refl (fun k => k = bR) W).setCell (p := ⟨bR, 0, none⟩) rfl _) hlR, .inl NPF.out⟩
    · have NPF : Hid (¬ (pre ++ [(xk, xv)]) <+: L) := fun h => hk (by have := PFX.out.1 h; simp at this; exact this.1)
      have hk2 : (xk.toList == a.toList) = false := beqS_ne2 hk
      gi_wp2
      exact ⟨keepsFrom_one ((Kept.refl (fun k => k = bR) W).setCell (p := ⟨bR, 0, none⟩) rfl _) hlR, .inl NPF.out⟩
  case doneA0 =>
    rintro DA0 ys XA0 hDlA0 hys hG hD
    rw [hys] at hG
    clear hys
    have GK : Hid (Kept (fun j => q ≤ j) W0 XA0) := hG.kept
    have HKD := hidden hD
    have gb := G1.out.kept GK.out
    have z0 : XA0.cell? ⟨bW, 0, none⟩ = some (.slice a0 n c0) := blk_cell gb.want
    have z1 : XA0.cell? ⟨bS, 0, none⟩ = some (.int .i64 st) := blk_cell gb.stop
    have gib := hG.ib
    rw [HN.out] at gib
    have z4 : XA0.cell? ⟨W0.heap.size, 0, none⟩ = some (.int .i64 n) := blk_cell gib
    have z6 : XA0.cell? ⟨br, 0, none⟩ = some (.int .i64 0) := blk_cell hG.rb
    have DSL := hidden hG.ds
    have hXBA0 : WBA0.heap.size ≤ XA0.heap.size := by have := blk_lt hD; omega
    clear gb gib hG hD
    gi_wp2
    rw [roundsIn_succ]
    obtain ⟨WAd, hW1⟩ : ∃ Z, Z = XA0.alloc (.cells #[.int .i64 1] 3) := ⟨_, rfl⟩
    rw [← hW1]
    have KAd1 : Hid (Kept (fun j => q ≤ j) W0 WAd) := by rw [hW1]; exact Kept.alloc GK.out _
    have FAd1 : Hid (WAd.heap[XA0.heap.size]? = some (.cells #[.int .i64 1] 3 (0, 0))) := by rw [hW1]; exact heap_alloc_new XA0 _
    have hlAd1 : XA0.heap.size < WAd.heap.size := by rw [hW1]; simp
    have DSAd1 : Hid (∀ d ∈ (DA0 :: [] : List Nat), WAd.heap[d]? = some (.deferred (some []))) := fun d hd => by
      rw [hW1]
      rcases List.mem_cons.1 hd with rfl | hd
      · exact blk_alloc HKD.out _
      · exact blk_alloc (DSL.out d hd) _
    have hDxAd : DA0 < XA0.heap.size := blk_lt HKD.out
    clear hW1 z0 z1 z4 z6 GK HKD DSL
    (try clear hs3)

    have rcAd1 : WAd.cell? ⟨XA0.heap.size, 0, none⟩ = some (.int .i64 1) := blk_cell FAd1.out
    gi_wp2
    obtain ⟨WBAd1, hWB⟩ : ∃ X, X = WAd.alloc (.cells #[.int .i64 0] 3) := ⟨_, rfl⟩
    rw [← hWB]
    have kWB : Kept (fun j => q ≤ j) W0 WBAd1 := by rw [hWB]; exact Kept.alloc KAd1.out _
    have bI : WBAd1.heap[WAd.heap.size]? = some (.cells #[.int .i64 0] 3 (0, 0)) := by rw [hWB]; exact heap_alloc_new WAd _
    have sB : WAd.heap.size < WBAd1.heap.size := by rw [hWB]; simp
    have bRr : WBAd1.heap[XA0.heap.size]? = some (.cells #[.int .i64 1] 3 (0, 0)) := by rw [hWB]; exact blk_alloc FAd1.out _
    have qiAd1 : q ≤ WAd.heap.size := by omega
    have bneAd1 : XA0.heap.size < WAd.heap.size := hlAd1
    have GIAd1 : Hid (GI W0 q WAd.heap.size XA0.heap.size 1 L (DA0 :: []) [] WBAd1) := ⟨kWB, bI, bRr, List.nil_prefix, fun D hD => by rw [hWB]; exact blk_alloc (DSAd1.out D hD) _⟩
    have hrunAd1 := HIT.out WBAd1 kWB
    have dslAd1 : ∀ D ∈ ((DA0 :: []) : List Nat), D < WBAd1.heap.size := fun D hD => blk_lt (GIAd1.out.ds D hD)
    clear hWB kWB bI bRr
    refine wpIn_rangeFunc_ownG rfl (by decide) (gf := 57) (lb := #[.pointer (some ⟨bA, 0, none⟩)]) rfl trivial (enters_of (Try.func57) (by kernel_rfl) rfl)
      hrunAd1 (fun h k => h.trans k) (fun W l o o' hl _ _ _ => kept_putObj W l o' (by omega)) (Below.refl _ _) (fun _ => rfl)
      (GI W0 q WAd.heap.size XA0.heap.size 1 L (DA0 :: [])) (fun _ pre _ => ¬ pre <+: L)
      (GI.own (by omega) (by omega) (by omega) dslAd1) (fun _ _ _ _ _ hs _ _ => hs) GIAd1.out ?a1Ad1 ?assignAd1 ?bodyAd1 ?doneAd1 ?stopAd1
    case assignAd1 =>
      intro lp x W K hK
      gi_wp2
      exact hK
    case bodyAd1 =>
      rintro lp pre ⟨xk, xv⟩ W hG hlt
      obtain ⟨⟨a, yv⟩, hay⟩ : ∃ e, L[pre.length]? = some e := ⟨_, List.getElem?_eq_getElem hlt⟩
      have GK : Hid (Kept (fun j => q ≤ j) W0 W) := hG.kept
      obtain ⟨i, hi⟩ : ∃ i, pre.length = i := ⟨_, rfl⟩
      have HI := hidden hi
      have hin : i < n := by rw [← hi, ← HN.out]; exact hlt
      have gib := hG.ib
      have HG := hidden hG
      rw [hi] at gib hay
      obtain ⟨bb, rfl⟩ := HB.out (by have := HN.out; omega)
      have gb := G1.out.kept GK.out
      have hit := (HR.out W gb.same).at i (by have := HN.out; omega)
      obtain ⟨hlt2, hay2⟩ := List.getElem?_eq_some_iff.1 hay
      rw [hay2] at hit
      obtain ⟨u0, u1⟩ := hit
      have z0 : W.cell? ⟨bW, 0, none⟩ = some (.slice (some ⟨bb, 0, none⟩) n c0) := blk_cell gb.want
      have z1 : W.cell? ⟨bS, 0, none⟩ = some (.int .i64 st) := blk_cell gb.stop
      have z2 : W.cell? ⟨bR, 0, none⟩ = some (.bool false) := blk_cell gb.res
      have z3 : W.frozen? ⟨bR, 0, none⟩ = false := blk_free gb.res
      have z4 : W.cell? ⟨WAd.heap.size, 0, none⟩ = some (.int .i64 i) := blk_cell gib
      have z5 : W.frozen? ⟨WAd.heap.size, 0, none⟩ = false := blk_free gib
      have z6 : W.cell? ⟨XA0.heap.size, 0, none⟩ = some (.int .i64 1) := blk_cell hG.rb
      have PFX : Hid ((pre ++ [(xk, xv)]) <+: L ↔ (xk, xv) = (a, yv)) := pf_iff2 hG.pf hi hay
      have q1 : ¬ (n : Int) ≤ (i : Int) := by omega
      have q2 : (i : Int) < (n : Int) := by omega
      have q3 : (0 : Int) ≤ (i : Int) := Int.natCast_nonneg _
      have hb3 : bR ≠ XA0.heap.size := by have := gb.l3; omega
      have hlR : bR < WBAd1.heap.size := by have := gb.l3; omega
      have GIB := hidden gib
      clear hi hay gib hG hlt hlt2 hay2 gb
      by_cases hk : xk = a
      · subst hk
        have hk2 : (xk.toList == xk.toList) = true := by simp
        by_cases hv : xv = yv
        · subst hv
          have PF : Hid ((pre ++ [(xk, xv)]) <+: L) := PFX.out.2 rfl
          have hv2 : (xv == xv) = true := by simp
          have zz : (W.setCell ⟨WAd.heap.size, 0, none⟩ (.int .i64 ((i : Int) + 1))).cell? ⟨XA0.heap.size, 0, none⟩ = some (.int .i64 1) := Kept.cell ((Kept.refl (fun k => k = WAd.heap.size) W).setCell (p := ⟨WAd.heap.size, 0, none⟩) rfl _) (by show ¬ XA0.heap.size = WAd.heap.size; omega) z6
          have KI : Hid (Kept (fun j => j = WAd.heap.size) W (W.setCell ⟨WAd.heap.size, 0, none⟩ (.int .i64 ((i : Int) + 1)))) := (Kept.refl (fun k => k = WAd.heap.size) W).setCell (p := ⟨WAd.heap.size, 0, none⟩) rfl _
          have NG : Hid (GI W0 q WAd.heap.size XA0.heap.size 1 L (DA0 :: []) (pre ++ [(xk, xv)]) (W.setCell ⟨WAd.heap.size, 0, none⟩ (.int .i64 ((i : Int) + 1)))) := ⟨GK.out.trans (KI.out.mono (fun j _ e => by omega)), by have := blk_set (j := 0) GIB.out (.int .i64 ((i : Int) + 1)); rw [List.length_append, HI.out]; exact this, blk_kept KI.out (by omega) HG.out.rb, PF.out, fun D hD => blk_kept KI.out (fun e => by have h1 := HG.out.ds D hD; rw [e, GIB.out] at h1; cases h1) (HG.out.ds D hD)⟩
          gi_wp2
          exact ⟨keepsFrom_one KI.out (by omega), KI.out.mono (fun j _ e => by omega), NG.out⟩
        · have NPF : Hid (¬ (pre ++ [(xk, xv)]) <+: L) := fun h => hv (by have := PFX.out.1 h; simp at this; exact this)
          gi_wp2
          exact ⟨keepsFrom_one ((Kept.refl (fun k => k = bR) W).setCell (p := ⟨bR, 0, none⟩) rfl _) hlR, NPF.out⟩
      · have NPF : Hid (¬ (pre ++ [(xk, xv)]) <+: L) := fun h => hk (by have := PFX.out.1 h; simp at this; exact this.1)
        have hk2 : (xk.toList == a.toList) = false := beqS_ne2 hk
        gi_wp2
        exact ⟨keepsFrom_one ((Kept.refl (fun k => k = bR) W).setCell (p := ⟨bR, 0, none⟩) rfl _) hlR, NPF.out⟩
    case doneAd1 =>
      rintro DAd1 ys XAd1 hDlAd1 hys hG hD
      rw [hys] at hG
      clear hys
      have GK : Hid (Kept (fun j => q ≤ j) W0 XAd1) := hG.kept
      have HKD := hidden hD
      have gb := G1.out.kept GK.out
      have z0 : XAd1.cell? ⟨bW, 0, none⟩ = some (.slice a0 n c0) := blk_cell gb.want
      have z1 : XAd1.cell? ⟨bS, 0, none⟩ = some (.int .i64 st) := blk_cell gb.stop
      have gib := hG.ib
      rw [HN.out] at gib
      have z4 : XAd1.cell? ⟨WAd.heap.size, 0, none⟩ = some (.int .i64 n) := blk_cell gib
      have z6 : XAd1.cell? ⟨XA0.heap.size, 0, none⟩ = some (.int .i64 1) := blk_cell hG.rb
      have DSL := hidden hG.ds
      have hXBAd1 : WBAd1.heap.size ≤ XAd1.heap.size := by have := blk_lt hD; omega
      clear gb gib hG hD
      gi_wp2
      rw [roundsIn_succ]
      obtain ⟨WAdd, hW1⟩ : ∃ Z, Z = XAd1.alloc (.cells #[.int .i64 2] 3) := ⟨_, rfl⟩
      rw [← hW1]
      have KAdd2 : Hid (Kept (fun j => q ≤ j) W0 WAdd) := by rw [hW1]; exact Kept.alloc GK.out _
      have FAdd2 : Hid (WAdd.heap[XAd1.heap.size]? = some (.cells #[.int .i64 2] 3 (0, 0))) := by rw [hW1]; exact heap_alloc_new XAd1 _
      have hlAdd2 : XAd1.heap.size < WAdd.heap.size := by rw [hW1]; simp
      have DSAdd2 : Hid (∀ d ∈ (DAd1 :: (DA0 :: []) : List Nat), WAdd.heap[d]? = some (.deferred (some []))) := fun d hd => by
        rw [hW1]
        rcases List.mem_cons.1 hd with rfl | hd
        · exact blk_alloc HKD.out _
        · exact blk_alloc (DSL.out d hd) _
      have hDxAdd : DAd1 < XAd1.heap.size := blk_lt HKD.out
      clear hW1 z0 z1 z4 z6 GK HKD DSL
      (try clear hs3)
      have gz := G1.out.kept KAdd2.out
      have rc : WAdd.cell? ⟨XAd1.heap.size, 0, none⟩ = some (.int .i64 2) := blk_cell FAdd2.out
      have z2 : WAdd.cell? ⟨bR, 0, none⟩ = some (.bool false) := blk_cell gz.res
      have z3 : WAdd.frozen? ⟨bR, 0, none⟩ = false := blk_free gz.res
      have GZ := hidden gz
      clear gz
      gi_wp2
      have e1 := DSAdd2.out DAd1 (by simp)
      have e2 := DSAdd2.out DA0 (by simp)
      have dne : DA0 ≠ DAd1 := by omega
      have c3 : (WAdd.setCell ⟨bR, 0, none⟩ (.bool true)).cell? ⟨bR, 0, none⟩ = some (.bool true) := World.cell?_setCell_same' _ _ _ (by rw [z2]; rfl)
      have l3 := G1.out.l3
      have e3 : (WAdd.setCell ⟨bR, 0, none⟩ (.bool true)).heap[DAd1]? = some (.deferred (some [])) := blk_off e1 (by omega)
      have e4 : ((WAdd.setCell ⟨bR, 0, none⟩ (.bool true)).putObj DAd1 (.deferred none)).heap[DA0]? = some (.deferred (some [])) := blk_kept (kept_putObj (S := fun k => k = DAd1) _ DAd1 _ rfl) dne (blk_off e2 (by omega))
      have c4 := two_defers_cell (D := DAd1) (E := DA0) c3 (by omega) (by omega)
      refine ⟨by simp, .inl ⟨_, _, rfl, run_takeDeferred e3, ?_⟩⟩
      refine ⟨by simp, .inl ⟨_, _, rfl, run_takeDeferred e4, ?_⟩⟩
      refine ⟨_, by simp [results, Try.results53, go_sem, c4], rfl, ?_⟩
      exact Kept.trans' GZ.out.same (((Kept.refl (fun k => w.heap.size ≤ k) WAdd).setCell (p := ⟨bR, 0, none⟩) GZ.out.l4 _).trans ((kept_putObj _ DAd1 _ (by omega)).trans (kept_putObj _ DA0 _ (by omega)))) (fun k hk h => by omega)
    case stopAd1 =>
      rintro D c pre W _ hp h _
      exact absurd hp h
  case stopA0 =>
    rintro DA0 c pre XA0 hDlA0 hp h hD
    rcases h with h | ⟨rfl, hst, hG⟩
    · exact absurd hp h
    obtain ⟨i, hi⟩ : ∃ i, pre.length = i := ⟨_, rfl⟩
    have HST2 := hidden hst
    have hs2 : ((i : Int) == st) = true := by rw [beq_iff_eq, ← hi]; exact hst
    clear hp
    by_cases hin : i = n
    · clear hs2
      have GK : Hid (Kept (fun j => q ≤ j) W0 XA0) := hG.kept
      have HKD := hidden hD
      have gb := G1.out.kept GK.out
      have z0 : XA0.cell? ⟨bW, 0, none⟩ = some (.slice a0 n c0) := blk_cell gb.want
      have z1 : XA0.cell? ⟨bS, 0, none⟩ = some (.int .i64 st) := blk_cell gb.stop
      have gib := hG.ib
      rw [hi, hin] at gib; clear hi hst hin
      have z4 : XA0.cell? ⟨W0.heap.size, 0, none⟩ = some (.int .i64 n) := blk_cell gib
      have z6 : XA0.cell? ⟨br, 0, none⟩ = some (.int .i64 0) := blk_cell hG.rb
      have DSL := hidden hG.ds
      have hXBA0 : WBA0.heap.size ≤ XA0.heap.size := by have := blk_lt hD; omega
      clear gb gib hG hD
      gi_wp2
      rw [roundsIn_succ]
      obtain ⟨WAs, hW1⟩ : ∃ Z, Z = XA0.alloc (.cells #[.int .i64 1] 3) := ⟨_, rfl⟩
      rw [← hW1]
      have KAs1 : Hid (Kept (fun j => q ≤ j) W0 WAs) := by rw [hW1]; exact Kept.alloc GK.out _
      have FAs1 : Hid (WAs.heap[XA0.heap.size]? = some (.cells #[.int .i64 1] 3 (0, 0))) := by rw [hW1]; exact heap_alloc_new XA0 _
      have hlAs1 : XA0.heap.size < WAs.heap.size := by rw [hW1]; simp
      have DSAs1 : Hid (∀ d ∈ (DA0 :: [] : List Nat), WAs.heap[d]? = some (.deferred (some []))) := fun d hd => by
        rw [hW1]
        rcases List.mem_cons.1 hd with rfl | hd
        · exact blk_alloc HKD.out _
        · exact blk_alloc (DSL.out d hd) _
      have hDxAs : DA0 < XA0.heap.size := blk_lt HKD.out
      clear hW1 z0 z1 z4 z6 GK HKD DSL
      (try clear hs3)

      have rcAs1 : WAs.cell? ⟨XA0.heap.size, 0, none⟩ = some (.int .i64 1) := blk_cell FAs1.out
      gi_wp2
      obtain ⟨WBAs1, hWB⟩ : ∃ X, X = WAs.alloc (.cells #[.int .i64 0] 3) := ⟨_, rfl⟩
      rw [← hWB]
      have kWB : Kept (fun j => q ≤ j) W0 WBAs1 := by rw [hWB]; exact Kept.alloc KAs1.out _
      have bI : WBAs1.heap[WAs.heap.size]? = some (.cells #[.int .i64 0] 3 (0, 0)) := by rw [hWB]; exact heap_alloc_new WAs _
      have sB : WAs.heap.size < WBAs1.heap.size := by rw [hWB]; simp
      have bRr : WBAs1.heap[XA0.heap.size]? = some (.cells #[.int .i64 1] 3 (0, 0)) := by rw [hWB]; exact blk_alloc FAs1.out _
      have qiAs1 : q ≤ WAs.heap.size := by omega
      have bneAs1 : XA0.heap.size < WAs.heap.size := hlAs1
      have GIAs1 : Hid (GI W0 q WAs.heap.size XA0.heap.size 1 L (DA0 :: []) [] WBAs1) := ⟨kWB, bI, bRr, List.nil_prefix, fun D hD => by rw [hWB]; exact blk_alloc (DSAs1.out D hD) _⟩
      have hrunAs1 := HIT.out WBAs1 kWB
      have dslAs1 : ∀ D ∈ ((DA0 :: []) : List Nat), D < WBAs1.heap.size := fun D hD => blk_lt (GIAs1.out.ds D hD)
      clear hWB kWB bI bRr
      refine wpIn_rangeFunc_ownG rfl (by decide) (gf := 57) (lb := #[.pointer (some ⟨bA, 0, none⟩)]) rfl trivial (enters_of (Try.func57) (by kernel_rfl) rfl)
        hrunAs1 (fun h k => h.trans k) (fun W l o o' hl _ _ _ => kept_putObj W l o' (by omega)) (Below.refl _ _) (fun _ => rfl)
        (GI W0 q WAs.heap.size XA0.heap.size 1 L (DA0 :: [])) (fun _ pre _ => ¬ pre <+: L)
        (GI.own (by omega) (by omega) (by omega) dslAs1) (fun _ _ _ _ _ hs _ _ => hs) GIAs1.out ?a1As1 ?assignAs1 ?bodyAs1 ?doneAs1 ?stopAs1
      case assignAs1 =>
        intro lp x W K hK
        gi_wp2
        exact hK
      case bodyAs1 =>
        rintro lp pre ⟨xk, xv⟩ W hG hlt
        obtain ⟨⟨a, yv⟩, hay⟩ : ∃ e, L[pre.length]? = some e := ⟨_, List.getElem?_eq_getElem hlt⟩
        have GK : Hid (Kept (fun j => q ≤ j) W0 W) := hG.kept
        obtain ⟨i, hi⟩ : ∃ i, pre.length = i := ⟨_, rfl⟩
        have HI := hidden hi
        have hin : i < n := by rw [← hi, ← HN.out]; exact hlt
        have gib := hG.ib
        have HG := hidden hG
        rw [hi] at gib hay
        obtain ⟨bb, rfl⟩ := HB.out (by have := HN.out; omega)
        have gb := G1.out.kept GK.out
        have hit := (HR.out W gb.same).at i (by have := HN.out; omega)
        obtain ⟨hlt2, hay2⟩ := List.getElem?_eq_some_iff.1 hay
        rw [hay2] at hit
        obtain ⟨u0, u1⟩ := hit
        have z0 : W.cell? ⟨bW, 0, none⟩ = some (.slice (some ⟨bb, 0, none⟩) n c0) := blk_cell gb.want
        have z1 : W.cell? ⟨bS, 0, none⟩ = some (.int .i64 st) := blk_cell gb.stop
        have z2 : W.cell? ⟨bR, 0, none⟩ = some (.bool false) := blk_cell gb.res
        have z3 : W.frozen? ⟨bR, 0, none⟩ = false := blk_free gb.res
        have z4 : W.cell? ⟨WAs.heap.size, 0, none⟩ = some (.int .i64 i) := blk_cell gib
        have z5 : W.frozen? ⟨WAs.heap.size, 0, none⟩ = false := blk_free gib
        have z6 : W.cell? ⟨XA0.heap.size, 0, none⟩ = some (.int .i64 1) := blk_cell hG.rb
        have PFX : Hid ((pre ++ [(xk, xv)]) <+: L ↔ (xk, xv) = (a, yv)) := pf_iff2 hG.pf hi hay
        have q1 : ¬ (n : Int) ≤ (i : Int) := by omega
        have q2 : (i : Int) < (n : Int) := by omega
        have q3 : (0 : Int) ≤ (i : Int) := Int.natCast_nonneg _
        have hb3 : bR ≠ XA0.heap.size := by have := gb.l3; omega
        have hlR : bR < WBAs1.heap.size := by have := gb.l3; omega
        have GIB := hidden gib
        clear hi hay gib hG hlt hlt2 hay2 gb
        by_cases hk : xk = a
        · subst hk
          have hk2 : (xk.toList == xk.toList) = true := by simp
          by_cases hv : xv = yv
          · subst hv
            have PF : Hid ((pre ++ [(xk, xv)]) <+: L) := PFX.out.2 rfl
            have hv2 : (xv == xv) = true := by simp
            have zz : (W.setCell ⟨WAs.heap.size, 0, none⟩ (.int .i64 ((i : Int) + 1))).cell? ⟨XA0.heap.size, 0, none⟩ = some (.int .i64 1) := Kept.cell ((Kept.refl (fun k => k = WAs.heap.size) W).setCell (p := ⟨WAs.heap.size, 0, none⟩) rfl _) (by show ¬ XA0.heap.size = WAs.heap.size; omega) z6
            have KI : Hid (Kept (fun j => j = WAs.heap.size) W (W.setCell ⟨WAs.heap.size, 0, none⟩ (.int .i64 ((i : Int) + 1)))) := (Kept.refl (fun k => k = WAs.heap.size) W).setCell (p := ⟨WAs.heap.size, 0, none⟩) rfl _
            have NG : Hid (GI W0 q WAs.heap.size XA0.heap.size 1 L (DA0 :: []) (pre ++ [(xk, xv)]) (W.setCell ⟨WAs.heap.size, 0, none⟩ (.int .i64 ((i : Int) + 1)))) := ⟨GK.out.trans (KI.out.mono (fun j _ e => by omega)), by have := blk_set (j := 0) GIB.out (.int .i64 ((i : Int) + 1)); rw [List.length_append, HI.out]; exact this, blk_kept KI.out (by omega) HG.out.rb, PF.out, fun D hD => blk_kept KI.out (fun e => by have h1 := HG.out.ds D hD; rw [e, GIB.out] at h1; cases h1) (HG.out.ds D hD)⟩
            gi_wp2
            exact ⟨keepsFrom_one KI.out (by omega), KI.out.mono (fun j _ e => by omega), NG.out⟩
          · have NPF : Hid (¬ (pre ++ [(xk, xv)]) <+: L) := fun h => hv (by have := PFX.out.1 h; simp at this; exact this)
            gi_wp2
            exact ⟨keepsFrom_one ((Kept.refl (fun k => k = bR) W).setCell (p := ⟨bR, 0, none⟩) rfl _) hlR, NPF.out⟩
        · have NPF : Hid (¬ (pre ++ [(xk, xv)]) <+: L) := fun h => hk (by have := PFX.out.1 h; simp at this; exact this.1)
          have hk2 : (xk.toList == a.toList) = false := beqS_ne2 hk
          gi_wp2
          exact ⟨keepsFrom_one ((Kept.refl (fun k => k = bR) W).setCell (p := ⟨bR, 0, none⟩) rfl _) hlR, NPF.out⟩
      case doneAs1 =>
        rintro DAs1 ys XAs1 hDlAs1 hys hG hD
        rw [hys] at hG
        clear hys
        have GK : Hid (Kept (fun j => q ≤ j) W0 XAs1) := hG.kept
        have HKD := hidden hD
        have gb := G1.out.kept GK.out
        have z0 : XAs1.cell? ⟨bW, 0, none⟩ = some (.slice a0 n c0) := blk_cell gb.want
        have z1 : XAs1.cell? ⟨bS, 0, none⟩ = some (.int .i64 st) := blk_cell gb.stop
        have gib := hG.ib
        rw [HN.out] at gib
        have z4 : XAs1.cell? ⟨WAs.heap.size, 0, none⟩ = some (.int .i64 n) := blk_cell gib
        have z6 : XAs1.cell? ⟨XA0.heap.size, 0, none⟩ = some (.int .i64 1) := blk_cell hG.rb
        have DSL := hidden hG.ds
        have hXBAs1 : WBAs1.heap.size ≤ XAs1.heap.size := by have := blk_lt hD; omega
        clear gb gib hG hD
        gi_wp2
        rw [roundsIn_succ]
        obtain ⟨WAsd, hW1⟩ : ∃ Z, Z = XAs1.alloc (.cells #[.int .i64 2] 3) := ⟨_, rfl⟩
        rw [← hW1]
        have KAsd2 : Hid (Kept (fun j => q ≤ j) W0 WAsd) := by rw [hW1]; exact Kept.alloc GK.out _
        have FAsd2 : Hid (WAsd.heap[XAs1.heap.size]? = some (.cells #[.int .i64 2] 3 (0, 0))) := by rw [hW1]; exact heap_alloc_new XAs1 _
        have hlAsd2 : XAs1.heap.size < WAsd.heap.size := by rw [hW1]; simp
        have DSAsd2 : Hid (∀ d ∈ (DAs1 :: (DA0 :: []) : List Nat), WAsd.heap[d]? = some (.deferred (some []))) := fun d hd => by
          rw [hW1]
          rcases List.mem_cons.1 hd with rfl | hd
          · exact blk_alloc HKD.out _
          · exact blk_alloc (DSL.out d hd) _
        have hDxAsd : DAs1 < XAs1.heap.size := blk_lt HKD.out
        clear hW1 z0 z1 z4 z6 GK HKD DSL
        (try clear hs3)
        have gz := G1.out.kept KAsd2.out
        have rc : WAsd.cell? ⟨XAs1.heap.size, 0, none⟩ = some (.int .i64 2) := blk_cell FAsd2.out
        have z2 : WAsd.cell? ⟨bR, 0, none⟩ = some (.bool false) := blk_cell gz.res
        have z3 : WAsd.frozen? ⟨bR, 0, none⟩ = false := blk_free gz.res
        have GZ := hidden gz
        clear gz
        gi_wp2
        have e1 := DSAsd2.out DAs1 (by simp)
        have e2 := DSAsd2.out DA0 (by simp)
        have dne : DA0 ≠ DAs1 := by omega
        have c3 : (WAsd.setCell ⟨bR, 0, none⟩ (.bool true)).cell? ⟨bR, 0, none⟩ = some (.bool true) := World.cell?_setCell_same' _ _ _ (by rw [z2]; rfl)
        have l3 := G1.out.l3
        have e3 : (WAsd.setCell ⟨bR, 0, none⟩ (.bool true)).heap[DAs1]? = some (.deferred (some [])) := blk_off e1 (by omega)
        have e4 : ((WAsd.setCell ⟨bR, 0, none⟩ (.bool true)).putObj DAs1 (.deferred none)).heap[DA0]? = some (.deferred (some [])) := blk_kept (kept_putObj (S := fun k => k = DAs1) _ DAs1 _ rfl) dne (blk_off e2 (by omega))
        have c4 := two_defers_cell (D := DAs1) (E := DA0) c3 (by omega) (by omega)
        refine ⟨by simp, .inl ⟨_, _, rfl, run_takeDeferred e3, ?_⟩⟩
        refine ⟨by simp, .inl ⟨_, _, rfl, run_takeDeferred e4, ?_⟩⟩
        refine ⟨_, by simp [results, Try.results53, go_sem, c4], rfl, ?_⟩
        exact Kept.trans' GZ.out.same (((Kept.refl (fun k => w.heap.size ≤ k) WAsd).setCell (p := ⟨bR, 0, none⟩) GZ.out.l4 _).trans ((kept_putObj _ DAs1 _ (by omega)).trans (kept_putObj _ DA0 _ (by omega)))) (fun k hk h => by omega)
      case stopAs1 =>
        rintro D c pre W _ hp h _
        exact absurd hp h
    · have hs3 : ¬ (i : Int) = (n : Int) := by omega
      clear hin hs2
      have GK : Hid (Kept (fun j => q ≤ j) W0 XA0) := hG.kept
      have HKD := hidden hD
      have gb := G1.out.kept GK.out
      have z0 : XA0.cell? ⟨bW, 0, none⟩ = some (.slice a0 n c0) := blk_cell gb.want
      have z1 : XA0.cell? ⟨bS, 0, none⟩ = some (.int .i64 (i : Int)) := by rw [show (i : Int) = st from by rw [← hi]; exact hst]; exact blk_cell gb.stop
      have gib := hG.ib
      rw [hi] at gib; clear hi hst
      have z4 : XA0.cell? ⟨W0.heap.size, 0, none⟩ = some (.int .i64 i) := blk_cell gib
      have z6 : XA0.cell? ⟨br, 0, none⟩ = some (.int .i64 0) := blk_cell hG.rb
      have DSL := hidden hG.ds
      have hXBA0 : WBA0.heap.size ≤ XA0.heap.size := by have := blk_lt hD; omega
      clear gb gib hG hD
      gi_wp2
      rw [roundsIn_succ]
      obtain ⟨WAt, hW1⟩ : ∃ Z, Z = XA0.alloc (.cells #[.int .i64 1] 3) := ⟨_, rfl⟩
      rw [← hW1]
      have KAt1 : Hid (Kept (fun j => q ≤ j) W0 WAt) := by rw [hW1]; exact Kept.alloc GK.out _
      have FAt1 : Hid (WAt.heap[XA0.heap.size]? = some (.cells #[.int .i64 1] 3 (0, 0))) := by rw [hW1]; exact heap_alloc_new XA0 _
      have hlAt1 : XA0.heap.size < WAt.heap.size := by rw [hW1]; simp
      have DSAt1 : Hid (∀ d ∈ (DA0 :: [] : List Nat), WAt.heap[d]? = some (.deferred (some []))) := fun d hd => by
        rw [hW1]
        rcases List.mem_cons.1 hd with rfl | hd
        · exact blk_alloc HKD.out _
        · exact blk_alloc (DSL.out d hd) _
      have hDxAt : DA0 < XA0.heap.size := blk_lt HKD.out
      clear hW1 z0 z1 z4 z6 GK HKD DSL
      (try clear hs3)

      have rcAt1 : WAt.cell? ⟨XA0.heap.size, 0, none⟩ = some (.int .i64 1) := blk_cell FAt1.out
      gi_wp2
      obtain ⟨WBAt1, hWB⟩ : ∃ X, X = WAt.alloc (.cells #[.int .i64 0] 3) := ⟨_, rfl⟩
      rw [← hWB]
      have kWB : Kept (fun j => q ≤ j) W0 WBAt1 := by rw [hWB]; exact Kept.alloc KAt1.out _
      have bI : WBAt1.heap[WAt.heap.size]? = some (.cells #[.int .i64 0] 3 (0, 0)) := by rw [hWB]; exact heap_alloc_new WAt _
      have sB : WAt.heap.size < WBAt1.heap.size := by rw [hWB]; simp
      have bRr : WBAt1.heap[XA0.heap.size]? = some (.cells #[.int .i64 1] 3 (0, 0)) := by rw [hWB]; exact blk_alloc FAt1.out _
      have qiAt1 : q ≤ WAt.heap.size := by omega
      have bneAt1 : XA0.heap.size < WAt.heap.size := hlAt1
      have GIAt1 : Hid (GI W0 q WAt.heap.size XA0.heap.size 1 L (DA0 :: []) [] WBAt1) := ⟨kWB, bI, bRr, List.nil_prefix, fun D hD => by rw [hWB]; exact blk_alloc (DSAt1.out D hD) _⟩
      have hrunAt1 := HIT.out WBAt1 kWB
      have dslAt1 : ∀ D ∈ ((DA0 :: []) : List Nat), D < WBAt1.heap.size := fun D hD => blk_lt (GIAt1.out.ds D hD)
      clear hWB kWB bI bRr
      refine wpIn_rangeFunc_ownG rfl (by decide) (gf := 57) (lb := #[.pointer (some ⟨bA, 0, none⟩)]) rfl trivial (enters_of (Try.func57) (by kernel_rfl) rfl)
        hrunAt1 (fun h k => h.trans k) (fun W l o o' hl _ _ _ => kept_putObj W l o' (by omega)) (Below.refl _ _) (fun _ => rfl)
        (GI W0 q WAt.heap.size XA0.heap.size 1 L (DA0 :: [])) (fun _ pre _ => ¬ pre <+: L)
        (GI.own (by omega) (by omega) (by omega) dslAt1) (fun _ _ _ _ _ hs _ _ => hs) GIAt1.out ?a1At1 ?assignAt1 ?bodyAt1 ?doneAt1 ?stopAt1
      case assignAt1 =>
        intro lp x W K hK
        gi_wp2
        exact hK
      case bodyAt1 =>
        rintro lp pre ⟨xk, xv⟩ W hG hlt
        obtain ⟨⟨a, yv⟩, hay⟩ : ∃ e, L[pre.length]? = some e := ⟨_, List.getElem?_eq_getElem hlt⟩
        have GK : Hid (Kept (fun j => q ≤ j) W0 W) := hG.kept
        obtain ⟨i, hi⟩ : ∃ i, pre.length = i := ⟨_, rfl⟩
        have HI := hidden hi
        have hin : i < n := by rw [← hi, ← HN.out]; exact hlt
        have gib := hG.ib
        have HG := hidden hG
        rw [hi] at gib hay
        obtain ⟨bb, rfl⟩ := HB.out (by have := HN.out; omega)
        have gb := G1.out.kept GK.out
        have hit := (HR.out W gb.same).at i (by have := HN.out; omega)
        obtain ⟨hlt2, hay2⟩ := List.getElem?_eq_some_iff.1 hay
        rw [hay2] at hit
        obtain ⟨u0, u1⟩ := hit
        have z0 : W.cell? ⟨bW, 0, none⟩ = some (.slice (some ⟨bb, 0, none⟩) n c0) := blk_cell gb.want
        have z1 : W.cell? ⟨bS, 0, none⟩ = some (.int .i64 st) := blk_cell gb.stop
        have z2 : W.cell? ⟨bR, 0, none⟩ = some (.bool false) := blk_cell gb.res
        have z3 : W.frozen? ⟨bR, 0, none⟩ = false := blk_free gb.res
        have z4 : W.cell? ⟨WAt.heap.size, 0, none⟩ = some (.int .i64 i) := blk_cell gib
        have z5 : W.frozen? ⟨WAt.heap.size, 0, none⟩ = false := blk_free gib
        have z6 : W.cell? ⟨XA0.heap.size, 0, none⟩ = some (.int .i64 1) := blk_cell hG.rb
        have PFX : Hid ((pre ++ [(xk, xv)]) <+: L ↔ (xk, xv) = (a, yv)) := pf_iff2 hG.pf hi hay
        have q1 : ¬ (n : Int) ≤ (i : Int) := by omega
        have q2 : (i : Int) < (n : Int) := by omega
        have q3 : (0 : Int) ≤ (i : Int) := Int.natCast_nonneg _
        have hb3 : bR ≠ XA0.heap.size := by have := gb.l3; omega
        have hlR : bR < WBAt1.heap.size := by have := gb.l3; omega
        have GIB := hidden gib
        clear hi hay gib hG hlt hlt2 hay2 gb
        by_cases hk : xk = a
        · subst hk
          have hk2 : (xk.toList == xk.toList) = true := by simp
          by_cases hv : xv = yv
          · subst hv
            have PF : Hid ((pre ++ [(xk, xv)]) <+: L) := PFX.out.2 rfl
            have hv2 : (xv == xv) = true := by simp
            have zz : (W.setCell ⟨WAt.heap.size, 0, none⟩ (.int .i64 ((i : Int) + 1))).cell? ⟨XA0.heap.size, 0, none⟩ = some (.int .i64 1) := Kept.cell ((Kept.refl (fun k => k = WAt.heap.size) W).setCell (p := ⟨WAt.heap.size, 0, none⟩) rfl _) (by show ¬ XA0.heap.size = WAt.heap.size; omega) z6
            have KI : Hid (Kept (fun j => j = WAt.heap.size) W (W.setCell ⟨WAt.heap.size, 0, none⟩ (.int .i64 ((i : Int) + 1)))) := (Kept.refl (fun k => k = WAt.heap.size) W).setCell (p := ⟨WAt.heap.size, 0, none⟩) rfl _
            have NG : Hid (GI W0 q WAt.heap.size XA0.heap.size 1 L (DA0 :: []) (pre ++ [(xk, xv)]) (W.setCell ⟨WAt.heap.size, 0, none⟩ (.int .i64 ((i : Int) + 1)))) := ⟨GK.out.trans (KI.out.mono (fun j _ e => by omega)), by have := blk_set (j := 0) GIB.out (.int .i64 ((i : Int) + 1)); rw [List.length_append, HI.out]; exact this, blk_kept KI.out (by omega) HG.out.rb, PF.out, fun D hD => blk_kept KI.out (fun e => by have h1 := HG.out.ds D hD; rw [e, GIB.out] at h1; cases h1) (HG.out.ds D hD)⟩
            gi_wp2
            exact ⟨keepsFrom_one KI.out (by omega), KI.out.mono (fun j _ e => by omega), NG.out⟩
          · have NPF : Hid (¬ (pre ++ [(xk, xv)]) <+: L) := fun h => hv (by have := PFX.out.1 h; simp at this; exact this)
            gi_wp2
            exact ⟨keepsFrom_one ((Kept.refl (fun k => k = bR) W).setCell (p := ⟨bR, 0, none⟩) rfl _) hlR, NPF.out⟩
        · have NPF : Hid (¬ (pre ++ [(xk, xv)]) <+: L) := fun h => hk (by have := PFX.out.1 h; simp at this; exact this.1)
          have hk2 : (xk.toList == a.toList) = false := beqS_ne2 hk
          gi_wp2
          exact ⟨keepsFrom_one ((Kept.refl (fun k => k = bR) W).setCell (p := ⟨bR, 0, none⟩) rfl _) hlR, NPF.out⟩
      case doneAt1 =>
        rintro DAt1 ys XAt1 hDlAt1 hys hG hD
        rw [hys] at hG
        clear hys
        have GK : Hid (Kept (fun j => q ≤ j) W0 XAt1) := hG.kept
        have HKD := hidden hD
        have gb := G1.out.kept GK.out
        have z0 : XAt1.cell? ⟨bW, 0, none⟩ = some (.slice a0 n c0) := blk_cell gb.want
        have z1 : XAt1.cell? ⟨bS, 0, none⟩ = some (.int .i64 st) := blk_cell gb.stop
        have gib := hG.ib
        rw [HN.out] at gib
        have z4 : XAt1.cell? ⟨WAt.heap.size, 0, none⟩ = some (.int .i64 n) := blk_cell gib
        have z6 : XAt1.cell? ⟨XA0.heap.size, 0, none⟩ = some (.int .i64 1) := blk_cell hG.rb
        have DSL := hidden hG.ds
        have hXBAt1 : WBAt1.heap.size ≤ XAt1.heap.size := by have := blk_lt hD; omega
        clear gb gib hG hD
        gi_wp2
        rw [roundsIn_succ]
        obtain ⟨WAtd, hW1⟩ : ∃ Z, Z = XAt1.alloc (.cells #[.int .i64 2] 3) := ⟨_, rfl⟩
        rw [← hW1]
        have KAtd2 : Hid (Kept (fun j => q ≤ j) W0 WAtd) := by rw [hW1]; exact Kept.alloc GK.out _
        have FAtd2 : Hid (WAtd.heap[XAt1.heap.size]? = some (.cells #[.int .i64 2] 3 (0, 0))) := by rw [hW1]; exact heap_alloc_new XAt1 _
        have hlAtd2 : XAt1.heap.size < WAtd.heap.size := by rw [hW1]; simp
        have DSAtd2 : Hid (∀ d ∈ (DAt1 :: (DA0 :: []) : List Nat), WAtd.heap[d]? = some (.deferred (some []))) := fun d hd => by
          rw [hW1]
          rcases List.mem_cons.1 hd with rfl | hd
          · exact blk_alloc HKD.out _
          · exact blk_alloc (DSL.out d hd) _
        have hDxAtd : DAt1 < XAt1.heap.size := blk_lt HKD.out
        clear hW1 z0 z1 z4 z6 GK HKD DSL
        (try clear hs3)
        have gz := G1.out.kept KAtd2.out
        have rc : WAtd.cell? ⟨XAt1.heap.size, 0, none⟩ = some (.int .i64 2) := blk_cell FAtd2.out
        have z2 : WAtd.cell? ⟨bR, 0, none⟩ = some (.bool false) := blk_cell gz.res
        have z3 : WAtd.frozen? ⟨bR, 0, none⟩ = false := blk_free gz.res
        have GZ := hidden gz
        clear gz
        gi_wp2
        have e1 := DSAtd2.out DAt1 (by simp)
        have e2 := DSAtd2.out DA0 (by simp)
        have dne : DA0 ≠ DAt1 := by omega
        have c3 : (WAtd.setCell ⟨bR, 0, none⟩ (.bool true)).cell? ⟨bR, 0, none⟩ = some (.bool true) := World.cell?_setCell_same' _ _ _ (by rw [z2]; rfl)
        have l3 := G1.out.l3
        have e3 : (WAtd.setCell ⟨bR, 0, none⟩ (.bool true)).heap[DAt1]? = some (.deferred (some [])) := blk_off e1 (by omega)
        have e4 : ((WAtd.setCell ⟨bR, 0, none⟩ (.bool true)).putObj DAt1 (.deferred none)).heap[DA0]? = some (.deferred (some [])) := blk_kept (kept_putObj (S := fun k => k = DAt1) _ DAt1 _ rfl) dne (blk_off e2 (by omega))
        have c4 := two_defers_cell (D := DAt1) (E := DA0) c3 (by omega) (by omega)
        refine ⟨by simp, .inl ⟨_, _, rfl, run_takeDeferred e3, ?_⟩⟩
        refine ⟨by simp, .inl ⟨_, _, rfl, run_takeDeferred e4, ?_⟩⟩
        refine ⟨_, by simp [results, Try.results53, go_sem, c4], rfl, ?_⟩
        exact Kept.trans' GZ.out.same (((Kept.refl (fun k => w.heap.size ≤ k) WAtd).setCell (p := ⟨bR, 0, none⟩) GZ.out.l4 _).trans ((kept_putObj _ DAt1 _ (by omega)).trans (kept_putObj _ DA0 _ (by omega)))) (fun k hk h => by omega)
      case stopAt1 =>
        rintro D c pre W _ hp h _
        exact absurd hp h
end Go.Proofs.Ytelngbkbdihdnaa
