/- PathParts: the parts of every path, gone over up to one of them, then whole, are those that the document tells, with their places. (Made by mkpp.py.) -/
import Derived.Test.YtabpjegigpmfmaaDoorPaI
namespace Go.Proofs.YtabpjegigpmfmaaDoor
open Go.RowKit Go.Shelf
set_option linter.unusedVariables false
attribute [local go_sem] Oper.semAt_some
theorem kept_putObj {S : Nat → Prop} (W : World) (l : Nat) (o : Obj) (hl : S l) : Kept S W (W.putObj l o) :=
  (Kept.refl S W).grown (grownBy_putObj' W l o) (fun k e _ => by cases e; exact hl)
theorem blk_off {w : World} {g b j : Nat} {o : Obj} {v : Value} (h : w.heap[g]? = some o) (hne : b ≠ g) : (w.setCell ⟨b, j, none⟩ v).heap[g]? = some o :=
  blk_kept ((Kept.refl (fun k => k = b) w).setCell (p := ⟨b, j, none⟩) rfl v) (Ne.symm hne) h
/-- The law's boxes: the wanted items, the stop, the result. -/
structure GB (w : World) (q bW bS bR : Nat) (vw : Value) (st : Int) (W : World) : Prop where
  same : Same w W
  want : W.heap[bW]? = some (.cells #[vw] 22 (0, 0))
  stop : W.heap[bS]? = some (.cells #[.int .i64 st] 3 (0, 0))
  res : W.heap[bR]? = some (.cells #[.bool false] 4 (0, 0))
  l1 : bW < q
  l2 : bS < q
  l3 : bR < q
  l4 : w.heap.size ≤ bR
theorem GB.kept {w W W' : World} {q bW bS bR : Nat} {vw : Value} {st : Int} (h : GB w q bW bS bR vw st W) (k : Kept (fun j => q ≤ j) W W') : GB w q bW bS bR vw st W' :=
  ⟨h.same.trans' k (fun i hi e => by have := h.l3; have := h.l4; omega), blk_kept k (by have := h.l1; omega) h.want, blk_kept k (by have := h.l2; omega) h.stop, blk_kept k (by have := h.l3; omega) h.res, h.l1, h.l2, h.l3, h.l4⟩
/-- What stands in a round over the iterator. -/
structure GI (W0 : World) (q bi br : Nat) (r : Int) (L : List Ip) (Ds : List Nat) (pre : List Ip) (X : World) : Prop where
  kept : Kept (fun j => q ≤ j) W0 X
  ib : X.heap[bi]? = some (.cells #[.int .i64 (pre.length : Nat)] 3 (0, 0))
  rb : X.heap[br]? = some (.cells #[.int .i64 r] 3 (0, 0))
  pf : pre <+: L
  ds : ∀ D ∈ Ds, X.heap[D]? = some (.deferred (some []))
theorem GI.own {W0 : World} {q bi br : Nat} {r : Int} {L : List Ip} {Ds : List Nat} {N : Nat} (h1 : bi < N) (h2 : br < N) (hq : q ≤ N) (hD : ∀ D ∈ Ds, D < N) : OwnFrom N (GI W0 q bi br r L Ds) := fun pre A B row hs hg hr =>
  ⟨hs.kept.grown hg (fun k e _ => by have := (hr k e).1; omega), (hg.block bi (blk_lt hs.ib) (fun e => by have := (hr bi e.symm).1; omega)).trans hs.ib, (hg.block br (blk_lt hs.rb) (fun e => by have := (hr br e.symm).1; omega)).trans hs.rb, hs.pf,
    fun D hd => (hg.block D (blk_lt (hs.ds D hd)) (fun e => by have := (hr D e.symm).1; have := hD D hd; omega)).trans (hs.ds D hd)⟩
theorem beqS_ne2 {a b : ByteArray} (h : a ≠ b) : (a.toList == b.toList) = false := by
  rw [beq_eq_false_iff_ne]
  exact fun e => h (bytes_ext e)
theorem pf_iff2 {pre l : List Ip} {i : Nat} {x e : Ip} (hp : pre <+: l) (hl : pre.length = i) (he : l[i]? = some e) : (pre ++ [x]) <+: l ↔ x = e := by
  obtain ⟨q, rfl⟩ := hp
  rw [List.prefix_append_right_inj]
  rw [List.getElem?_append_right (by omega)] at he
  have e0 : i - pre.length = 0 := by omega
  rw [e0] at he
  rcases q with _ | ⟨c, q⟩
  · simp at he
  · simp at he
    subst he
    simp [List.cons_prefix_cons]
theorem keepsFrom_one {B b : Nat} {W W' : World} (k : Kept (fun j => j = b) W W') (hb : b < B) : KeepsFrom B W W' :=
  ⟨k.size, fun i o hB hi _ => (k.block i (Array.getElem?_eq_some_iff.1 hi).1 (by omega)).trans hi⟩
theorem two_defers_cell {W : World} {bR D E : Nat} (c : W.cell? ⟨bR, 0, none⟩ = some (.bool true)) (h1 : bR ≠ D) (h2 : bR ≠ E) : ((W.putObj D (.deferred none)).putObj E (.deferred none)).cell? ⟨bR, 0, none⟩ = some (.bool true) :=
  Kept.cell ((kept_putObj (S := fun k => k = D ∨ k = E) _ D _ (Or.inl rfl)).trans (kept_putObj _ E _ (Or.inr rfl))) (by simp; omega) c
set_option maxRecDepth 100000 in
set_option maxHeartbeats 8000000 in
theorem parts_walk (p : ByteArray) (st : Int) (w : World) (hp : p.size ≤ 140737488351232) (hst1 : -9223372036854775808 ≤ st) (hst2 : st ≤ 9223372036854775807) :
    Calls Tryd.prog 5 #[.string p, .int .i64 st] w fun e w' => e = .returned (.bool true) ∧ Same w w' := by
  have CA := hidden (fun W => (callsIn_wide (n := 5)).2 (awake_any W))
  obtain ⟨P, hP⟩ : ∃ P, P = p.data.toList := ⟨_, rfl⟩
  obtain ⟨l, hl⟩ : ∃ l, l = (splL P).map BA := ⟨_, rfl⟩
  have hll : l.length ≤ 513 := by
    rw [hl, List.length_map]
    unfold splL
    split
    · rename_i h0
      have := pc_len P []
      have := (splE_zero.1 h0).2.1
      simp at *
      omega
    · simp
  have CS : Hid (∀ W, CallsIn Fence.wide 5 Tryd.prog 11 #[.string p] W fun e w' => ∃ a n c, e = .returned (.tuple #[.slice a n c, .int .i64 (splE P)]) ∧ Row w' (.slice a n c) (TS l) ∧ Same W w') := hidden (fun W => (callsIn_wide (n := 5)).2 ((splitD_any p (by omega) W).mono fun e w' ⟨u, he, ⟨v, hu, ho⟩, k⟩ => by
    rw [← hP] at hu ho
    have hr := ho.row
    obtain ⟨a, n, c, rfl⟩ := hr.any
    exact ⟨a, n, c, by rw [he, hu], by rw [hl]; exact hr, k⟩))
  have CP : Hid (∀ W, CallsIn Fence.wide 5 Tryd.prog 20 #[.string p] W fun e w' => ∃ g a n c, e = .returned (.func (.func 45) #[] #[.pointer (some ⟨g, 0, none⟩)]) ∧ w'.heap[g]? = some (.cells #[.slice a n c] 22 (0, 0)) ∧ Row w' (.slice a n c) (TS l) ∧ Same W w') := hidden (fun W => (callsIn_wide (n := 5)).2 ((parts_any p (by omega) W).mono fun e w' ⟨u, he, ⟨g, a, n, c, hu, hg, hr⟩, k⟩ => by
    rw [← hP] at hr
    exact ⟨g, a, n, c, by rw [he, hu], hg, by rw [hl]; exact hr, k⟩))
  generalize splE P = zz at CS
  clear hl hP
  refine (callsIn_wide (n := 6)).1 ?_
  refine callsIn_of_wp_marks Tryd.func5 rfl trivial ?_ rfl
  simp only [Tryd.ntmps5, List.size_toArray, List.length_cons, List.length_nil, Nat.reduceAdd, Nat.reduceSub, Array.replicate_succ, Array.replicate_zero, List.push_toArray, List.append_toArray, List.nil_append, List.cons_append]
  gi_wp2_with (first
    | (refine ⟨trivial, ?_⟩; gi_at_call 14; refine (CA.out _).mono ?_; rintro e w1 ⟨rfl, k1⟩; have K1 := hidden k1; clear k1)
    | (refine ⟨trivial, ?_⟩; gi_at_call 11; refine (CS.out _).mono ?_; rintro e w2 ⟨a0, n, c0, rfl, r2, k2⟩; have K2 := hidden k2; have R2 := hidden r2; clear k2 r2)
    | (refine ⟨trivial, ?_⟩; gi_at_call 20; refine (CP.out _).mono ?_; rintro e w3 ⟨bA, a1, n1, c1, rfl, hg, r3, k3⟩; have K3 := hidden k3; have R3 := hidden r3; have G3 := hidden hg; clear k3 r3 hg))
  obtain ⟨W0, hW0⟩ : ∃ X, X = w3.alloc (.cells #[.int .i64 0] 3) := ⟨_, rfl⟩
  rw [← hW0]
  have s1 : w.heap.size + 2 ≤ w1.heap.size := by have := K1.out.size; simp at this; omega
  have s2 : w1.heap.size ≤ w2.heap.size := K2.out.size
  have s3 : w2.heap.size + 1 ≤ w3.heap.size := by have := K3.out.size; simp at this; omega
  have gA : bA < w3.heap.size := blk_lt G3.out
  have hs0 : W0.heap.size = w3.heap.size + 1 := by rw [hW0]; simp
  have kA : Same w2 W0 := by rw [hW0]; exact ((same_alloc w2 _).trans K3.out).alloc _
  have kB : Same w3 W0 := by rw [hW0]; exact same_alloc _ _
  have kw0 : Same w W0 := ((Kept.refl _ w).alloc _).alloc _ |>.trans (K1.out.trans (K2.out.trans kA))
  have f1 : W0.heap[w.heap.size]? = some (.cells #[.int .i64 st] 3 (0, 0)) := blk_kept (K1.out.trans (K2.out.trans kA)) (fun h => h) (blk_alloc (blk_new w _) _)
  have f2 : W0.heap[w.heap.size + 1]? = some (.cells #[.bool false] 4 (0, 0)) := blk_kept (K1.out.trans (K2.out.trans kA)) (fun h => h) (by
    have z := blk_new (w.alloc (.cells #[.int .i64 st] 3)) (.cells #[.bool false] 4)
    rw [World.size_alloc] at z
    exact z)
  have f0 : W0.heap[w2.heap.size]? = some (.cells #[.slice a0 n c0] 22 (0, 0)) := by rw [hW0]; exact blk_alloc (blk_kept K3.out (fun h => h) (blk_new w2 _)) _
  have fi : W0.heap[bA]? = some (.cells #[.slice a1 n1 c1] 22 (0, 0)) := blk_kept kB (fun h => h) G3.out
  have fr : W0.heap[w3.heap.size]? = some (.cells #[.int .i64 0] 3 (0, 0)) := by rw [hW0]; exact blk_new w3 _
  obtain ⟨q, hq⟩ : ∃ q, q = w3.heap.size := ⟨_, rfl⟩
  have hn : l.length = n := R2.out.tl
  have hn1 : l.length = n1 := R3.out.tl
  have HNl := hidden hn
  have hn5 : n ≤ 513 := by omega
  have HR : Hid (∀ W, Kept (fun j => q ≤ j) W0 W → Row W (.slice a0 n c0) (TS l)) := fun W kW => R2.out.far (by omega) ((kA.mono (fun k _ h => h.elim)).trans kW)
  have HR1 : Hid (∀ W, Kept (fun j => q ≤ j) W0 W → Row W (.slice a1 n1 c1) (TS l)) := fun W kW => R3.out.far (by omega) ((kB.mono (fun k _ h => h.elim)).trans kW)
  have G0 : Hid (GB w q w2.heap.size w.heap.size (w.heap.size + 1) (.slice a0 n c0) st W0) := ⟨kw0, f0, f1, f2, by omega, by omega, by omega, by omega⟩
  have FI := hidden fi
  have HIT : Hid (∀ W, Kept (fun j => q ≤ j) W0 W → SeqStopsK Fence.wide 5 Tryd.prog 45 #[.pointer (some ⟨bA, 0, none⟩)] encP (Kept (fun j => q ≤ j)) (fun ys => ys = ix l) (fun pre => pre <+: ix l) (ix l).length W) := fun W kW =>
    all_stops 5 bA q (by decide) W a1 n1 c1 l (by omega) (blk_cell (blk_kept kW (by show ¬ q ≤ bA; omega) FI.out)) (HR1.out W kW) (by omega) (fun W1 k1 => HR1.out W1 (kW.trans k1))
  obtain ⟨L, hL⟩ : ∃ L, L = ix l := ⟨_, rfl⟩
  have HAt : Hid (∀ i (hi : i < n), L[i]? = some (i, l[i]'(by rw [HNl.out]; exact hi))) := fun i hi => by rw [hL]; exact ix_at l (by rw [hn]; exact hi)
  have HN : Hid (L.length = n) := by rw [hL, ix_len]; exact hn
  rw [← hL] at HIT
  obtain ⟨br, hbr⟩ : ∃ b, b = w3.heap.size := ⟨_, rfl⟩
  have F0 : Hid (W0.heap[br]? = some (.cells #[.int .i64 0] 3 (0, 0))) := by rw [hbr]; exact fr
  have hq0 : q ≤ br := by omega
  have hbrl : br < W0.heap.size := by omega
  obtain ⟨bR, hbR⟩ : ∃ b, b = w.heap.size + 1 := ⟨_, rfl⟩
  obtain ⟨bS, hbS⟩ : ∃ b, b = w.heap.size := ⟨_, rfl⟩
  obtain ⟨bW, hbW⟩ : ∃ b, b = w2.heap.size := ⟨_, rfl⟩
  have G1 : Hid (GB w q bW bS bR (.slice a0 n c0) st W0) := by rw [hbW, hbS, hbR]; exact G0.out
  rw [← hbr, ← hbW, ← hbR, ← hbS]
  have hwq : w.heap.size ≤ q := by omega
  have hwS : w.heap.size = bS := hbS.symm
  have HwS := hidden hwS
  clear hW0 f0 f1 f2 fi fr kw0 hs0 G0 hbr hbR hbS hbW hq s1 s2 s3 gA kA kB hL hn hn1 HR1 FI hwS
  refine wpIn_loop_rounds 3 ?_
  rw [roundsIn_succ]
  have k00 : Kept (fun j => q ≤ j) W0 W0 := Kept.refl _ _
  have rcA0 : W0.cell? ⟨br, 0, none⟩ = some (.int .i64 0) := blk_cell F0.out
  gi_wp2
  obtain ⟨WBA0, hWB⟩ : ∃ X, X = W0.alloc (.cells #[.int .i64 0] 3) := ⟨_, rfl⟩
  rw [← hWB]
  have kWB : Kept (fun j => q ≤ j) W0 WBA0 := by rw [hWB]; exact Kept.alloc k00 _
  have bI : WBA0.heap[W0.heap.size]? = some (.cells #[.int .i64 0] 3 (0, 0)) := by rw [hWB]; exact heap_alloc_new W0 _
  have sB : W0.heap.size < WBA0.heap.size := by rw [hWB]; simp
  have bRr : WBA0.heap[br]? = some (.cells #[.int .i64 0] 3 (0, 0)) := by rw [hWB]; exact blk_alloc F0.out _
  have qiA0 : q ≤ W0.heap.size := by omega
  have bneA0 : br < W0.heap.size := hbrl
  have GIA0 : Hid (GI W0 q W0.heap.size br 0 L [] [] WBA0) := ⟨kWB, bI, bRr, List.nil_prefix, fun D hD => by cases hD⟩
  have hrunA0 := HIT.out WBA0 kWB
  have dslA0 : ∀ D ∈ ([] : List Nat), D < WBA0.heap.size := fun D hD => blk_lt (GIA0.out.ds D hD)
  clear hWB kWB bI bRr
  refine wpIn_rangeFunc_ownG rfl (by decide) (gf := 45) (lb := #[.pointer (some ⟨bA, 0, none⟩)]) rfl trivial (enters_of (Tryd.func45) (by kernel_rfl) rfl)
    hrunA0 (fun h k => h.trans k) (fun W l o o' hl _ _ _ => kept_putObj W l o' (by omega)) (Below.refl _ _) (fun _ => rfl)
    (GI W0 q W0.heap.size br 0 L []) (fun c pre X => ¬ pre <+: L ∨ (c = .exit 2 ∧ (pre.length : Int) = st ∧ GI W0 q W0.heap.size br 0 L [] pre X))
    (GI.own (by omega) (by omega) (by omega) dslA0) (fun c pre A B row hs hg hr => hs.imp id (fun ⟨e, f, i⟩ => ⟨e, f, GI.own (by omega) (by omega) (by omega) dslA0 pre A B row i hg hr⟩)) GIA0.out ?a1A0 ?assignA0 ?bodyA0 ?doneA0 ?stopA0
  case assignA0 =>
    intro lp x W K hK
    gi_wp2
    exact hK
  case bodyA0 =>
    rintro lp pre ⟨xk, xv⟩ W hG hlt
    have GK : Hid (Kept (fun j => q ≤ j) W0 W) := hG.kept
    obtain ⟨i, hi⟩ : ∃ i, pre.length = i := ⟨_, rfl⟩
    have HI := hidden hi
    have hin : i < n := by rw [← hi, ← HN.out]; exact hlt
    have gib := hG.ib
    have HG := hidden hG
    have hay := HAt.out i hin
    rw [hi] at gib
    have gb := G1.out.kept GK.out
    obtain ⟨bb, off, rfl, u0⟩ := (HR.out W GK.out).text (j := i) (by rw [HNl.out]; exact hin)
    obtain ⟨yv, hyv⟩ : ∃ y, l[i]'(by rw [HNl.out]; exact hin) = y := ⟨_, rfl⟩
    rw [hyv] at hay u0
    have z0 : W.cell? ⟨bW, 0, none⟩ = some (.slice (some ⟨bb, off, none⟩) n c0) := blk_cell gb.want
    have z1 : W.cell? ⟨bS, 0, none⟩ = some (.int .i64 st) := blk_cell gb.stop
    have z2 : W.cell? ⟨bR, 0, none⟩ = some (.bool false) := blk_cell gb.res
    have z3 : W.frozen? ⟨bR, 0, none⟩ = false := blk_free gb.res
    have z4 : W.cell? ⟨W0.heap.size, 0, none⟩ = some (.int .i64 i) := blk_cell gib
    have z5 : W.frozen? ⟨W0.heap.size, 0, none⟩ = false := blk_free gib
    have z6 : W.cell? ⟨br, 0, none⟩ = some (.int .i64 0) := blk_cell hG.rb
    have PFX : Hid ((pre ++ [(xk, xv)]) <+: L ↔ (xk, xv) = (i, yv)) := pf_iff2 hG.pf hi hay
    have q1 : ¬ (n : Int) ≤ (i : Int) := by omega
    have q2 : (i : Int) < (n : Int) := by omega
    have q3 : (0 : Int) ≤ (i : Int) := Int.natCast_nonneg _
    have hb3 : bR ≠ br := by have := gb.l3; omega
    have hlR : bR < WBA0.heap.size := by have := gb.l3; omega
    have GIB := hidden gib
    clear hi hay gib hG hlt hyv gb
    by_cases hk : i = xk
    · subst hk
      by_cases hv : xv = yv
      · subst hv
        have PF : Hid ((pre ++ [(i, xv)]) <+: L) := PFX.out.2 rfl
        have hv2 : (xv.toList == xv.toList) = true := by simp
        have zz : (W.setCell ⟨W0.heap.size, 0, none⟩ (.int .i64 ((i : Int) + 1))).cell? ⟨br, 0, none⟩ = some (.int .i64 0) := Kept.cell ((Kept.refl (fun k => k = W0.heap.size) W).setCell (p := ⟨W0.heap.size, 0, none⟩) rfl _) (by show ¬ br = W0.heap.size; omega) z6
        have KI : Hid (Kept (fun j => j = W0.heap.size) W (W.setCell ⟨W0.heap.size, 0, none⟩ (.int .i64 ((i : Int) + 1)))) := (Kept.refl (fun k => k = W0.heap.size) W).setCell (p := ⟨W0.heap.size, 0, none⟩) rfl _
        have NG : Hid (GI W0 q W0.heap.size br 0 L [] (pre ++ [(i, xv)]) (W.setCell ⟨W0.heap.size, 0, none⟩ (.int .i64 ((i : Int) + 1)))) := ⟨GK.out.trans (KI.out.mono (fun j _ e => by omega)), by have := blk_set (j := 0) GIB.out (.int .i64 ((i : Int) + 1)); rw [List.length_append, HI.out]; exact this, blk_kept KI.out (by omega) HG.out.rb, PF.out, fun D hD => blk_kept KI.out (fun e => by have h1 := HG.out.ds D hD; rw [e, GIB.out] at h1; cases h1) (HG.out.ds D hD)⟩
        have zs : (W.setCell ⟨W0.heap.size, 0, none⟩ (.int .i64 ((i : Int) + 1))).cell? ⟨bS, 0, none⟩ = some (.int .i64 st) := blk_cell ((G1.out.kept NG.out.kept).stop)
        by_cases hs : (i : Int) + 1 = st
        · have HS := hidden hs
          have hs2 : ((i : Int) + 1 == st) = true := by rw [beq_iff_eq]; exact hs
          clear hs
          gi_wp2
          exact ⟨keepsFrom_one KI.out (by omega), .inr ⟨rfl, by rw [List.length_append, HI.out]; have := HS.out; simp; omega, NG.out⟩⟩
        · have hs2 : ((i : Int) + 1 == st) = false := by rw [beq_eq_false_iff_ne]; exact hs
          gi_wp2
          exact ⟨keepsFrom_one KI.out (by omega), KI.out.mono (fun j _ e => by omega), NG.out⟩
      · have NPF : Hid (¬ (pre ++ [(i, xv)]) <+: L) := fun h => hv (by have := PFX.out.1 h; simp at this; exact this)
        have hv2 : (xv.toList == yv.toList) = false := beqS_ne2 hv
        have hv3 : ¬ xv.toList = yv.toList := fun e => hv (bytes_ext e)
        gi_wp2
        exact ⟨keepsFrom_one ((Kept.refl (fun k => k = bR) W).setCell (p := ⟨bR, 0, none⟩) rfl _) hlR, .inl NPF.out⟩
    · have NPF : Hid (¬ (pre ++ [(xk, xv)]) <+: L) := fun h => hk (by have := PFX.out.1 h; simp at this; exact this.1.symm)
      have hk2 : ¬ (xk : Int) = (i : Int) := by omega
      gi_wp2
      exact ⟨keepsFrom_one ((Kept.refl (fun k => k = bR) W).setCell (p := ⟨bR, 0, none⟩) rfl _) hlR, .inl NPF.out⟩
  case doneA0 =>
    rintro DA0 ys XA0 hDlA0 hys hG hD
    rw [hys] at hG
    clear hys
    have GK : Hid (Kept (fun j => q ≤ j) W0 XA0) := hG.kept
    have HKD := hidden hD
    have gb := G1.out.kept GK.out
    have z0 : XA0.cell? ⟨bW, 0, none⟩ = some (.slice a0 n c0) := blk_cell gb.want
    have z1 : XA0.cell? ⟨bS, 0, none⟩ = some (.int .i64 st) := blk_cell gb.stop
    have gib := hG.ib
    rw [HN.out] at gib
    have z4 : XA0.cell? ⟨W0.heap.size, 0, none⟩ = some (.int .i64 n) := blk_cell gib
    have z6 : XA0.cell? ⟨br, 0, none⟩ = some (.int .i64 0) := blk_cell hG.rb
    have DSL := hidden hG.ds
    have hXBA0 : WBA0.heap.size ≤ XA0.heap.size := by have := blk_lt hD; omega
    clear gb gib hG hD
    gi_wp2
    rw [roundsIn_succ]
    obtain ⟨WAd, hW1⟩ : ∃ Z, Z = XA0.alloc (.cells #[.int .i64 1] 3) := ⟨_, rfl⟩
    rw [← hW1]
    have KAd1 : Hid (Kept (fun j => q ≤ j) W0 WAd) := by rw [hW1]; exact Kept.alloc GK.out _
    have FAd1 : Hid (WAd.heap[XA0.heap.size]? = some (.cells #[.int .i64 1] 3 (0, 0))) := by rw [hW1]; exact heap_alloc_new XA0 _
    have hlAd1 : XA0.heap.size < WAd.heap.size := by rw [hW1]; simp
    have DSAd1 : Hid (∀ d ∈ (DA0 :: [] : List Nat), WAd.heap[d]? = some (.deferred (some []))) := fun d hd => by
      rw [hW1]
      rcases List.mem_cons.1 hd with rfl | hd
      · exact blk_alloc HKD.out _
      · exact blk_alloc (DSL.out d hd) _
    have hDxAd : DA0 < XA0.heap.size := blk_lt HKD.out
    clear hW1 z0 z1 z4 z6 GK HKD DSL
    (try clear hs3)

    have rcAd1 : WAd.cell? ⟨XA0.heap.size, 0, none⟩ = some (.int .i64 1) := blk_cell FAd1.out
    gi_wp2
    obtain ⟨WBAd1, hWB⟩ : ∃ X, X = WAd.alloc (.cells #[.int .i64 0] 3) := ⟨_, rfl⟩
    rw [← hWB]
    have kWB : Kept (fun j => q ≤ j) W0 WBAd1 := by rw [hWB]; exact Kept.alloc KAd1.out _
    have bI : WBAd1.heap[WAd.heap.size]? = some (.cells #[.int .i64 0] 3 (0, 0)) := by rw [hWB]; exact heap_alloc_new WAd _
    have sB : WAd.heap.size < WBAd1.heap.size := by rw [hWB]; simp
    have bRr : WBAd1.heap[XA0.heap.size]? = some (.cells #[.int .i64 1] 3 (0, 0)) := by rw [hWB]; exact blk_alloc FAd1.out _
    have qiAd1 : q ≤ WAd.heap.size := by omega
    have bneAd1 : XA0.heap.size < WAd.heap.size := hlAd1
    have GIAd1 : Hid (GI W0 q WAd.heap.size XA0.heap.size 1 L (DA0 :: []) [] WBAd1) := ⟨kWB, bI, bRr, List.nil_prefix, fun D hD => by rw [hWB]; exact blk_alloc (DSAd1.out D hD) _⟩
    have hrunAd1 := HIT.out WBAd1 kWB
    have dslAd1 : ∀ D ∈ ((DA0 :: []) : List Nat), D < WBAd1.heap.size := fun D hD => blk_lt (GIAd1.out.ds D hD)
    clear hWB kWB bI bRr
    refine wpIn_rangeFunc_ownG rfl (by decide) (gf := 45) (lb := #[.pointer (some ⟨bA, 0, none⟩)]) rfl trivial (enters_of (Tryd.func45) (by kernel_rfl) rfl)
      hrunAd1 (fun h k => h.trans k) (fun W l o o' hl _ _ _ => kept_putObj W l o' (by omega)) (Below.refl _ _) (fun _ => rfl)
      (GI W0 q WAd.heap.size XA0.heap.size 1 L (DA0 :: [])) (fun _ pre _ => ¬ pre <+: L)
      (GI.own (by omega) (by omega) (by omega) dslAd1) (fun _ _ _ _ _ hs _ _ => hs) GIAd1.out ?a1Ad1 ?assignAd1 ?bodyAd1 ?doneAd1 ?stopAd1
    case assignAd1 =>
      intro lp x W K hK
      gi_wp2
      exact hK
    case bodyAd1 =>
      rintro lp pre ⟨xk, xv⟩ W hG hlt
      have GK : Hid (Kept (fun j => q ≤ j) W0 W) := hG.kept
      obtain ⟨i, hi⟩ : ∃ i, pre.length = i := ⟨_, rfl⟩
      have HI := hidden hi
      have hin : i < n := by rw [← hi, ← HN.out]; exact hlt
      have gib := hG.ib
      have HG := hidden hG
      have hay := HAt.out i hin
      rw [hi] at gib
      have gb := G1.out.kept GK.out
      obtain ⟨bb, off, rfl, u0⟩ := (HR.out W GK.out).text (j := i) (by rw [HNl.out]; exact hin)
      obtain ⟨yv, hyv⟩ : ∃ y, l[i]'(by rw [HNl.out]; exact hin) = y := ⟨_, rfl⟩
      rw [hyv] at hay u0
      have z0 : W.cell? ⟨bW, 0, none⟩ = some (.slice (some ⟨bb, off, none⟩) n c0) := blk_cell gb.want
      have z1 : W.cell? ⟨bS, 0, none⟩ = some (.int .i64 st) := blk_cell gb.stop
      have z2 : W.cell? ⟨bR, 0, none⟩ = some (.bool false) := blk_cell gb.res
      have z3 : W.frozen? ⟨bR, 0, none⟩ = false := blk_free gb.res
      have z4 : W.cell? ⟨WAd.heap.size, 0, none⟩ = some (.int .i64 i) := blk_cell gib
      have z5 : W.frozen? ⟨WAd.heap.size, 0, none⟩ = false := blk_free gib
      have z6 : W.cell? ⟨XA0.heap.size, 0, none⟩ = some (.int .i64 1) := blk_cell hG.rb
      have PFX : Hid ((pre ++ [(xk, xv)]) <+: L ↔ (xk, xv) = (i, yv)) := pf_iff2 hG.pf hi hay
      have q1 : ¬ (n : Int) ≤ (i : Int) := by omega
      have q2 : (i : Int) < (n : Int) := by omega
      have q3 : (0 : Int) ≤ (i : Int) := Int.natCast_nonneg _
      have hb3 : bR ≠ XA0.heap.size := by have := gb.l3; omega
      have hlR : bR < WBAd1.heap.size := by have := gb.l3; omega
      have GIB := hidden gib
      clear hi hay gib hG hlt hyv gb
      by_cases hk : i = xk
      · subst hk
        by_cases hv : xv = yv
        · subst hv
          have PF : Hid ((pre ++ [(i, xv)]) <+: L) := PFX.out.2 rfl
          have hv2 : (xv.toList == xv.toList) = true := by simp
          have zz : (W.setCell ⟨WAd.heap.size, 0, none⟩ (.int .i64 ((i : Int) + 1))).cell? ⟨XA0.heap.size, 0, none⟩ = some (.int .i64 1) := Kept.cell ((Kept.refl (fun k => k = WAd.heap.size) W).setCell (p := ⟨WAd.heap.size, 0, none⟩) rfl _) (by show ¬ XA0.heap.size = WAd.heap.size; omega) z6
          have KI : Hid (Kept (fun j => j = WAd.heap.size) W (W.setCell ⟨WAd.heap.size, 0, none⟩ (.int .i64 ((i : Int) + 1)))) := (Kept.refl (fun k => k = WAd.heap.size) W).setCell (p := ⟨WAd.heap.size, 0, none⟩) rfl _
          have NG : Hid (GI W0 q WAd.heap.size XA0.heap.size 1 L (DA0 :: []) (pre ++ [(i, xv)]) (W.setCell ⟨WAd.heap.size, 0, none⟩ (.int .i64 ((i : Int) + 1)))) := ⟨GK.out.trans (KI.out.mono (fun j _ e => by omega)), by have := blk_set (j := 0) GIB.out (.int .i64 ((i : Int) + 1)); rw [List.length_append, HI.out]; exact this, blk_kept KI.out (by omega) HG.out.rb, PF.out, fun D hD => blk_kept KI.out (fun e => by have h1 := HG.out.ds D hD; rw [e, GIB.out] at h1; cases h1) (HG.out.ds D hD)⟩
          gi_wp2
          exact ⟨keepsFrom_one KI.out (by omega), KI.out.mono (fun j _ e => by omega), NG.out⟩
        · have NPF : Hid (¬ (pre ++ [(i, xv)]) <+: L) := fun h => hv (by have := PFX.out.1 h; simp at this; exact this)
          have hv2 : (xv.toList == yv.toList) = false := beqS_ne2 hv
          have hv3 : ¬ xv.toList = yv.toList := fun e => hv (bytes_ext e)
          gi_wp2
          exact ⟨keepsFrom_one ((Kept.refl (fun k => k = bR) W).setCell (p := ⟨bR, 0, none⟩) rfl _) hlR, NPF.out⟩
      · have NPF : Hid (¬ (pre ++ [(xk, xv)]) <+: L) := fun h => hk (by have := PFX.out.1 h; simp at this; exact this.1.symm)
        have hk2 : ¬ (xk : Int) = (i : Int) := by omega
        gi_wp2
        exact ⟨keepsFrom_one ((Kept.refl (fun k => k = bR) W).setCell (p := ⟨bR, 0, none⟩) rfl _) hlR, NPF.out⟩
    case doneAd1 =>
      rintro DAd1 ys XAd1 hDlAd1 hys hG hD
      rw [hys] at hG
      clear hys
      have GK : Hid (Kept (fun j => q ≤ j) W0 XAd1) := hG.kept
      have HKD := hidden hD
      have gb := G1.out.kept GK.out
      have z0 : XAd1.cell? ⟨bW, 0, none⟩ = some (.slice a0 n c0) := blk_cell gb.want
      have z1 : XAd1.cell? ⟨bS, 0, none⟩ = some (.int .i64 st) := blk_cell gb.stop
      have gib := hG.ib
      rw [HN.out] at gib
      have z4 : XAd1.cell? ⟨WAd.heap.size, 0, none⟩ = some (.int .i64 n) := blk_cell gib
      have z6 : XAd1.cell? ⟨XA0.heap.size, 0, none⟩ = some (.int .i64 1) := blk_cell hG.rb
      have DSL := hidden hG.ds
      have hXBAd1 : WBAd1.heap.size ≤ XAd1.heap.size := by have := blk_lt hD; omega
      clear gb gib hG hD
      gi_wp2
      rw [roundsIn_succ]
      obtain ⟨WAdd, hW1⟩ : ∃ Z, Z = XAd1.alloc (.cells #[.int .i64 2] 3) := ⟨_, rfl⟩
      rw [← hW1]
      have KAdd2 : Hid (Kept (fun j => q ≤ j) W0 WAdd) := by rw [hW1]; exact Kept.alloc GK.out _
      have FAdd2 : Hid (WAdd.heap[XAd1.heap.size]? = some (.cells #[.int .i64 2] 3 (0, 0))) := by rw [hW1]; exact heap_alloc_new XAd1 _
      have hlAdd2 : XAd1.heap.size < WAdd.heap.size := by rw [hW1]; simp
      have DSAdd2 : Hid (∀ d ∈ (DAd1 :: (DA0 :: []) : List Nat), WAdd.heap[d]? = some (.deferred (some []))) := fun d hd => by
        rw [hW1]
        rcases List.mem_cons.1 hd with rfl | hd
        · exact blk_alloc HKD.out _
        · exact blk_alloc (DSL.out d hd) _
      have hDxAdd : DAd1 < XAd1.heap.size := blk_lt HKD.out
      clear hW1 z0 z1 z4 z6 GK HKD DSL
      (try clear hs3)
      have gz := G1.out.kept KAdd2.out
      have rc : WAdd.cell? ⟨XAd1.heap.size, 0, none⟩ = some (.int .i64 2) := blk_cell FAdd2.out
      have z2 : WAdd.cell? ⟨bR, 0, none⟩ = some (.bool false) := blk_cell gz.res
      have z3 : WAdd.frozen? ⟨bR, 0, none⟩ = false := blk_free gz.res
      have GZ := hidden gz
      clear gz
      gi_wp2
      have e1 := DSAdd2.out DAd1 (by simp)
      have e2 := DSAdd2.out DA0 (by simp)
      have dne : DA0 ≠ DAd1 := by omega
      have c3 : (WAdd.setCell ⟨bR, 0, none⟩ (.bool true)).cell? ⟨bR, 0, none⟩ = some (.bool true) := World.cell?_setCell_same' _ _ _ (by rw [z2]; rfl)
      have l3 := G1.out.l3
      have e3 : (WAdd.setCell ⟨bR, 0, none⟩ (.bool true)).heap[DAd1]? = some (.deferred (some [])) := blk_off e1 (by omega)
      have e4 : ((WAdd.setCell ⟨bR, 0, none⟩ (.bool true)).putObj DAd1 (.deferred none)).heap[DA0]? = some (.deferred (some [])) := blk_kept (kept_putObj (S := fun k => k = DAd1) _ DAd1 _ rfl) dne (blk_off e2 (by omega))
      have c4 := two_defers_cell (D := DAd1) (E := DA0) c3 (by omega) (by omega)
      refine ⟨by simp, .inl ⟨_, _, rfl, run_takeDeferred e3, ?_⟩⟩
      refine ⟨by simp, .inl ⟨_, _, rfl, run_takeDeferred e4, ?_⟩⟩
      refine ⟨_, by simp [results, Tryd.results5, go_sem, c4], rfl, ?_⟩
      exact Kept.trans' GZ.out.same (((Kept.refl (fun k => w.heap.size ≤ k) WAdd).setCell (p := ⟨bR, 0, none⟩) GZ.out.l4 _).trans ((kept_putObj _ DAd1 _ (by omega)).trans (kept_putObj _ DA0 _ (by omega)))) (fun k hk h => by omega)
    case stopAd1 =>
      rintro D c pre W _ hp h _
      exact absurd hp h
  case stopA0 =>
    rintro DA0 c pre XA0 hDlA0 hp h hD
    rcases h with h | ⟨rfl, hst, hG⟩
    · exact absurd hp h
    obtain ⟨i, hi⟩ : ∃ i, pre.length = i := ⟨_, rfl⟩
    have HST2 := hidden hst
    have hs2 : ((i : Int) == st) = true := by rw [beq_iff_eq, ← hi]; exact hst
    clear hp
    by_cases hin : i = n
    · clear hs2
      have GK : Hid (Kept (fun j => q ≤ j) W0 XA0) := hG.kept
      have HKD := hidden hD
      have gb := G1.out.kept GK.out
      have z0 : XA0.cell? ⟨bW, 0, none⟩ = some (.slice a0 n c0) := blk_cell gb.want
      have z1 : XA0.cell? ⟨bS, 0, none⟩ = some (.int .i64 st) := blk_cell gb.stop
      have gib := hG.ib
      rw [hi, hin] at gib; clear hi hst hin
      have z4 : XA0.cell? ⟨W0.heap.size, 0, none⟩ = some (.int .i64 n) := blk_cell gib
      have z6 : XA0.cell? ⟨br, 0, none⟩ = some (.int .i64 0) := blk_cell hG.rb
      have DSL := hidden hG.ds
      have hXBA0 : WBA0.heap.size ≤ XA0.heap.size := by have := blk_lt hD; omega
      clear gb gib hG hD
      gi_wp2
      rw [roundsIn_succ]
      obtain ⟨WAs, hW1⟩ : ∃ Z, Z = XA0.alloc (.cells #[.int .i64 1] 3) := ⟨_, rfl⟩
      rw [← hW1]
      have KAs1 : Hid (Kept (fun j => q ≤ j) W0 WAs) := by rw [hW1]; exact Kept.alloc GK.out _
      have FAs1 : Hid (WAs.heap[XA0.heap.size]? = some (.cells #[.int .i64 1] 3 (0, 0))) := by rw [hW1]; exact heap_alloc_new XA0 _
      have hlAs1 : XA0.heap.size < WAs.heap.size := by rw [hW1]; simp
      have DSAs1 : Hid (∀ d ∈ (DA0 :: [] : List Nat), WAs.heap[d]? = some (.deferred (some []))) := fun d hd => by
        rw [hW1]
        rcases List.mem_cons.1 hd with rfl | hd
        · exact blk_alloc HKD.out _
        · exact blk_alloc (DSL.out d hd) _
      have hDxAs : DA0 < XA0.heap.size := blk_lt HKD.out
      clear hW1 z0 z1 z4 z6 GK HKD DSL
      (try clear hs3)

      have rcAs1 : WAs.cell? ⟨XA0.heap.size, 0, none⟩ = some (.int .i64 1) := blk_cell FAs1.out
      gi_wp2
      obtain ⟨WBAs1, hWB⟩ : ∃ X, X = WAs.alloc (.cells #[.int .i64 0] 3) := ⟨_, rfl⟩
      rw [← hWB]
      have kWB : Kept (fun j => q ≤ j) W0 WBAs1 := by rw [hWB]; exact Kept.alloc KAs1.out _
      have bI : WBAs1.heap[WAs.heap.size]? = some (.cells #[.int .i64 0] 3 (0, 0)) := by rw [hWB]; exact heap_alloc_new WAs _
      have sB : WAs.heap.size < WBAs1.heap.size := by rw [hWB]; simp
      have bRr : WBAs1.heap[XA0.heap.size]? = some (.cells #[.int .i64 1] 3 (0, 0)) := by rw [hWB]; exact blk_alloc FAs1.out _
      have qiAs1 : q ≤ WAs.heap.size := by omega
      have bneAs1 : XA0.heap.size < WAs.heap.size := hlAs1
      have GIAs1 : Hid (GI W0 q WAs.heap.size XA0.heap.size 1 L (DA0 :: []) [] WBAs1) := ⟨kWB, bI, bRr, List.nil_prefix, fun D hD => by rw [hWB]; exact blk_alloc (DSAs1.out D hD) _⟩
      have hrunAs1 := HIT.out WBAs1 kWB
      have dslAs1 : ∀ D ∈ ((DA0 :: []) : List Nat), D < WBAs1.heap.size := fun D hD => blk_lt (GIAs1.out.ds D hD)
      clear hWB kWB bI bRr
      refine wpIn_rangeFunc_ownG rfl (by decide) (gf := 45) (lb := #[.pointer (some ⟨bA, 0, none⟩)]) rfl trivial (enters_of (Tryd.func45) (by kernel_rfl) rfl)
        hrunAs1 (fun h k => h.trans k) (fun W l o o' hl _ _ _ => kept_putObj W l o' (by omega)) (Below.refl _ _) (fun _ => rfl)
        (GI W0 q WAs.heap.size XA0.heap.size 1 L (DA0 :: [])) (fun _ pre _ => ¬ pre <+: L)
        (GI.own (by omega) (by omega) (by omega) dslAs1) (fun _ _ _ _ _ hs _ _ => hs) GIAs1.out ?a1As1 ?assignAs1 ?bodyAs1 ?doneAs1 ?stopAs1
      case assignAs1 =>
        intro lp x W K hK
        gi_wp2
        exact hK
      case bodyAs1 =>
        rintro lp pre ⟨xk, xv⟩ W hG hlt
        have GK : Hid (Kept (fun j => q ≤ j) W0 W) := hG.kept
        obtain ⟨i, hi⟩ : ∃ i, pre.length = i := ⟨_, rfl⟩
        have HI := hidden hi
        have hin : i < n := by rw [← hi, ← HN.out]; exact hlt
        have gib := hG.ib
        have HG := hidden hG
        have hay := HAt.out i hin
        rw [hi] at gib
        have gb := G1.out.kept GK.out
        obtain ⟨bb, off, rfl, u0⟩ := (HR.out W GK.out).text (j := i) (by rw [HNl.out]; exact hin)
        obtain ⟨yv, hyv⟩ : ∃ y, l[i]'(by rw [HNl.out]; exact hin) = y := ⟨_, rfl⟩
        rw [hyv] at hay u0
        have z0 : W.cell? ⟨bW, 0, none⟩ = some (.slice (some ⟨bb, off, none⟩) n c0) := blk_cell gb.want
        have z1 : W.cell? ⟨bS, 0, none⟩ = some (.int .i64 st) := blk_cell gb.stop
        have z2 : W.cell? ⟨bR, 0, none⟩ = some (.bool false) := blk_cell gb.res
        have z3 : W.frozen? ⟨bR, 0, none⟩ = false := blk_free gb.res
        have z4 : W.cell? ⟨WAs.heap.size, 0, none⟩ = some (.int .i64 i) := blk_cell gib
        have z5 : W.frozen? ⟨WAs.heap.size, 0, none⟩ = false := blk_free gib
        have z6 : W.cell? ⟨XA0.heap.size, 0, none⟩ = some (.int .i64 1) := blk_cell hG.rb
        have PFX : Hid ((pre ++ [(xk, xv)]) <+: L ↔ (xk, xv) = (i, yv)) := pf_iff2 hG.pf hi hay
        have q1 : ¬ (n : Int) ≤ (i : Int) := by omega
        have q2 : (i : Int) < (n : Int) := by omega
        have q3 : (0 : Int) ≤ (i : Int) := Int.natCast_nonneg _
        have hb3 : bR ≠ XA0.heap.size := by have := gb.l3; omega
        have hlR : bR < WBAs1.heap.size := by have := gb.l3; omega
        have GIB := hidden gib
        clear hi hay gib hG hlt hyv gb
        by_cases hk : i = xk
        · subst hk
          by_cases hv : xv = yv
          · subst hv
            have PF : Hid ((pre ++ [(i, xv)]) <+: L) := PFX.out.2 rfl
            have hv2 : (xv.toList == xv.toList) = true := by simp
            have zz : (W.setCell ⟨WAs.heap.size, 0, none⟩ (.int .i64 ((i : Int) + 1))).cell? ⟨XA0.heap.size, 0, none⟩ = some (.int .i64 1) := Kept.cell ((Kept.refl (fun k => k = WAs.heap.size) W).setCell (p := ⟨WAs.heap.size, 0, none⟩) rfl _) (by show ¬ XA0.heap.size = WAs.heap.size; omega) z6
            have KI : Hid (Kept (fun j => j = WAs.heap.size) W (W.setCell ⟨WAs.heap.size, 0, none⟩ (.int .i64 ((i : Int) + 1)))) := (Kept.refl (fun k => k = WAs.heap.size) W).setCell (p := ⟨WAs.heap.size, 0, none⟩) rfl _
            have NG : Hid (GI W0 q WAs.heap.size XA0.heap.size 1 L (DA0 :: []) (pre ++ [(i, xv)]) (W.setCell ⟨WAs.heap.size, 0, none⟩ (.int .i64 ((i : Int) + 1)))) := ⟨GK.out.trans (KI.out.mono (fun j _ e => by omega)), by have := blk_set (j := 0) GIB.out (.int .i64 ((i : Int) + 1)); rw [List.length_append, HI.out]; exact this, blk_kept KI.out (by omega) HG.out.rb, PF.out, fun D hD => blk_kept KI.out (fun e => by have h1 := HG.out.ds D hD; rw [e, GIB.out] at h1; cases h1) (HG.out.ds D hD)⟩
            gi_wp2
            exact ⟨keepsFrom_one KI.out (by omega), KI.out.mono (fun j _ e => by omega), NG.out⟩
          · have NPF : Hid (¬ (pre ++ [(i, xv)]) <+: L) := fun h => hv (by have := PFX.out.1 h; simp at this; exact this)
            have hv2 : (xv.toList == yv.toList) = false := beqS_ne2 hv
            have hv3 : ¬ xv.toList = yv.toList := fun e => hv (bytes_ext e)
            gi_wp2
            exact ⟨keepsFrom_one ((Kept.refl (fun k => k = bR) W).setCell (p := ⟨bR, 0, none⟩) rfl _) hlR, NPF.out⟩
        · have NPF : Hid (¬ (pre ++ [(xk, xv)]) <+: L) := fun h => hk (by have := PFX.out.1 h; simp at this; exact this.1.symm)
          have hk2 : ¬ (xk : Int) = (i : Int) := by omega
          gi_wp2
          exact ⟨keepsFrom_one ((Kept.refl (fun k => k = bR) W).setCell (p := ⟨bR, 0, none⟩) rfl _) hlR, NPF.out⟩
      case doneAs1 =>
        rintro DAs1 ys XAs1 hDlAs1 hys hG hD
        rw [hys] at hG
        clear hys
        have GK : Hid (Kept (fun j => q ≤ j) W0 XAs1) := hG.kept
        have HKD := hidden hD
        have gb := G1.out.kept GK.out
        have z0 : XAs1.cell? ⟨bW, 0, none⟩ = some (.slice a0 n c0) := blk_cell gb.want
        have z1 : XAs1.cell? ⟨bS, 0, none⟩ = some (.int .i64 st) := blk_cell gb.stop
        have gib := hG.ib
        rw [HN.out] at gib
        have z4 : XAs1.cell? ⟨WAs.heap.size, 0, none⟩ = some (.int .i64 n) := blk_cell gib
        have z6 : XAs1.cell? ⟨XA0.heap.size, 0, none⟩ = some (.int .i64 1) := blk_cell hG.rb
        have DSL := hidden hG.ds
        have hXBAs1 : WBAs1.heap.size ≤ XAs1.heap.size := by have := blk_lt hD; omega
        clear gb gib hG hD
        gi_wp2
        rw [roundsIn_succ]
        obtain ⟨WAsd, hW1⟩ : ∃ Z, Z = XAs1.alloc (.cells #[.int .i64 2] 3) := ⟨_, rfl⟩
        rw [← hW1]
        have KAsd2 : Hid (Kept (fun j => q ≤ j) W0 WAsd) := by rw [hW1]; exact Kept.alloc GK.out _
        have FAsd2 : Hid (WAsd.heap[XAs1.heap.size]? = some (.cells #[.int .i64 2] 3 (0, 0))) := by rw [hW1]; exact heap_alloc_new XAs1 _
        have hlAsd2 : XAs1.heap.size < WAsd.heap.size := by rw [hW1]; simp
        have DSAsd2 : Hid (∀ d ∈ (DAs1 :: (DA0 :: []) : List Nat), WAsd.heap[d]? = some (.deferred (some []))) := fun d hd => by
          rw [hW1]
          rcases List.mem_cons.1 hd with rfl | hd
          · exact blk_alloc HKD.out _
          · exact blk_alloc (DSL.out d hd) _
        have hDxAsd : DAs1 < XAs1.heap.size := blk_lt HKD.out
        clear hW1 z0 z1 z4 z6 GK HKD DSL
        (try clear hs3)
        have gz := G1.out.kept KAsd2.out
        have rc : WAsd.cell? ⟨XAs1.heap.size, 0, none⟩ = some (.int .i64 2) := blk_cell FAsd2.out
        have z2 : WAsd.cell? ⟨bR, 0, none⟩ = some (.bool false) := blk_cell gz.res
        have z3 : WAsd.frozen? ⟨bR, 0, none⟩ = false := blk_free gz.res
        have GZ := hidden gz
        clear gz
        gi_wp2
        have e1 := DSAsd2.out DAs1 (by simp)
        have e2 := DSAsd2.out DA0 (by simp)
        have dne : DA0 ≠ DAs1 := by omega
        have c3 : (WAsd.setCell ⟨bR, 0, none⟩ (.bool true)).cell? ⟨bR, 0, none⟩ = some (.bool true) := World.cell?_setCell_same' _ _ _ (by rw [z2]; rfl)
        have l3 := G1.out.l3
        have e3 : (WAsd.setCell ⟨bR, 0, none⟩ (.bool true)).heap[DAs1]? = some (.deferred (some [])) := blk_off e1 (by omega)
        have e4 : ((WAsd.setCell ⟨bR, 0, none⟩ (.bool true)).putObj DAs1 (.deferred none)).heap[DA0]? = some (.deferred (some [])) := blk_kept (kept_putObj (S := fun k => k = DAs1) _ DAs1 _ rfl) dne (blk_off e2 (by omega))
        have c4 := two_defers_cell (D := DAs1) (E := DA0) c3 (by omega) (by omega)
        refine ⟨by simp, .inl ⟨_, _, rfl, run_takeDeferred e3, ?_⟩⟩
        refine ⟨by simp, .inl ⟨_, _, rfl, run_takeDeferred e4, ?_⟩⟩
        refine ⟨_, by simp [results, Tryd.results5, go_sem, c4], rfl, ?_⟩
        exact Kept.trans' GZ.out.same (((Kept.refl (fun k => w.heap.size ≤ k) WAsd).setCell (p := ⟨bR, 0, none⟩) GZ.out.l4 _).trans ((kept_putObj _ DAs1 _ (by omega)).trans (kept_putObj _ DA0 _ (by omega)))) (fun k hk h => by omega)
      case stopAs1 =>
        rintro D c pre W _ hp h _
        exact absurd hp h
    · have hs3 : ¬ (i : Int) = (n : Int) := by omega
      clear hin hs2
      have GK : Hid (Kept (fun j => q ≤ j) W0 XA0) := hG.kept
      have HKD := hidden hD
      have gb := G1.out.kept GK.out
      have z0 : XA0.cell? ⟨bW, 0, none⟩ = some (.slice a0 n c0) := blk_cell gb.want
      have z1 : XA0.cell? ⟨bS, 0, none⟩ = some (.int .i64 (i : Int)) := by rw [show (i : Int) = st from by rw [← hi]; exact hst]; exact blk_cell gb.stop
      have gib := hG.ib
      rw [hi] at gib; clear hi hst
      have z4 : XA0.cell? ⟨W0.heap.size, 0, none⟩ = some (.int .i64 i) := blk_cell gib
      have z6 : XA0.cell? ⟨br, 0, none⟩ = some (.int .i64 0) := blk_cell hG.rb
      have DSL := hidden hG.ds
      have hXBA0 : WBA0.heap.size ≤ XA0.heap.size := by have := blk_lt hD; omega
      clear gb gib hG hD
      gi_wp2
      rw [roundsIn_succ]
      obtain ⟨WAt, hW1⟩ : ∃ Z, Z = XA0.alloc (.cells #[.int .i64 1] 3) := ⟨_, rfl⟩
      rw [← hW1]
      have KAt1 : Hid (Kept (fun j => q ≤ j) W0 WAt) := by rw [hW1]; exact Kept.alloc GK.out _
      have FAt1 : Hid (WAt.heap[XA0.heap.size]? = some (.cells #[.int .i64 1] 3 (0, 0))) := by rw [hW1]; exact heap_alloc_new XA0 _
      have hlAt1 : XA0.heap.size < WAt.heap.size := by rw [hW1]; simp
      have DSAt1 : Hid (∀ d ∈ (DA0 :: [] : List Nat), WAt.heap[d]? = some (.deferred (some []))) := fun d hd => by
        rw [hW1]
        rcases List.mem_cons.1 hd with rfl | hd
        · exact blk_alloc HKD.out _
        · exact blk_alloc (DSL.out d hd) _
      have hDxAt : DA0 < XA0.heap.size := blk_lt HKD.out
      clear hW1 z0 z1 z4 z6 GK HKD DSL
      (try clear hs3)

      have rcAt1 : WAt.cell? ⟨XA0.heap.size, 0, none⟩ = some (.int .i64 1) := blk_cell FAt1.out
      gi_wp2
      obtain ⟨WBAt1, hWB⟩ : ∃ X, X = WAt.alloc (.cells #[.int .i64 0] 3) := ⟨_, rfl⟩
      rw [← hWB]
      have kWB : Kept (fun j => q ≤ j) W0 WBAt1 := by rw [hWB]; exact Kept.alloc KAt1.out _
      have bI : WBAt1.heap[WAt.heap.size]? = some (.cells #[.int .i64 0] 3 (0, 0)) := by rw [hWB]; exact heap_alloc_new WAt _
      have sB : WAt.heap.size < WBAt1.heap.size := by rw [hWB]; simp
      have bRr : WBAt1.heap[XA0.heap.size]? = some (.cells #[.int .i64 1] 3 (0, 0)) := by rw [hWB]; exact blk_alloc FAt1.out _
      have qiAt1 : q ≤ WAt.heap.size := by omega
      have bneAt1 : XA0.heap.size < WAt.heap.size := hlAt1
      have GIAt1 : Hid (GI W0 q WAt.heap.size XA0.heap.size 1 L (DA0 :: []) [] WBAt1) := ⟨kWB, bI, bRr, List.nil_prefix, fun D hD => by rw [hWB]; exact blk_alloc (DSAt1.out D hD) _⟩
      have hrunAt1 := HIT.out WBAt1 kWB
      have dslAt1 : ∀ D ∈ ((DA0 :: []) : List Nat), D < WBAt1.heap.size := fun D hD => blk_lt (GIAt1.out.ds D hD)
      clear hWB kWB bI bRr
      refine wpIn_rangeFunc_ownG rfl (by decide) (gf := 45) (lb := #[.pointer (some ⟨bA, 0, none⟩)]) rfl trivial (enters_of (Tryd.func45) (by kernel_rfl) rfl)
        hrunAt1 (fun h k => h.trans k) (fun W l o o' hl _ _ _ => kept_putObj W l o' (by omega)) (Below.refl _ _) (fun _ => rfl)
        (GI W0 q WAt.heap.size XA0.heap.size 1 L (DA0 :: [])) (fun _ pre _ => ¬ pre <+: L)
        (GI.own (by omega) (by omega) (by omega) dslAt1) (fun _ _ _ _ _ hs _ _ => hs) GIAt1.out ?a1At1 ?assignAt1 ?bodyAt1 ?doneAt1 ?stopAt1
      case assignAt1 =>
        intro lp x W K hK
        gi_wp2
        exact hK
      case bodyAt1 =>
        rintro lp pre ⟨xk, xv⟩ W hG hlt
        have GK : Hid (Kept (fun j => q ≤ j) W0 W) := hG.kept
        obtain ⟨i, hi⟩ : ∃ i, pre.length = i := ⟨_, rfl⟩
        have HI := hidden hi
        have hin : i < n := by rw [← hi, ← HN.out]; exact hlt
        have gib := hG.ib
        have HG := hidden hG
        have hay := HAt.out i hin
        rw [hi] at gib
        have gb := G1.out.kept GK.out
        obtain ⟨bb, off, rfl, u0⟩ := (HR.out W GK.out).text (j := i) (by rw [HNl.out]; exact hin)
        obtain ⟨yv, hyv⟩ : ∃ y, l[i]'(by rw [HNl.out]; exact hin) = y := ⟨_, rfl⟩
        rw [hyv] at hay u0
        have z0 : W.cell? ⟨bW, 0, none⟩ = some (.slice (some ⟨bb, off, none⟩) n c0) := blk_cell gb.want
        have z1 : W.cell? ⟨bS, 0, none⟩ = some (.int .i64 st) := blk_cell gb.stop
        have z2 : W.cell? ⟨bR, 0, none⟩ = some (.bool false) := blk_cell gb.res
        have z3 : W.frozen? ⟨bR, 0, none⟩ = false := blk_free gb.res
        have z4 : W.cell? ⟨WAt.heap.size, 0, none⟩ = some (.int .i64 i) := blk_cell gib
        have z5 : W.frozen? ⟨WAt.heap.size, 0, none⟩ = false := blk_free gib
        have z6 : W.cell? ⟨XA0.heap.size, 0, none⟩ = some (.int .i64 1) := blk_cell hG.rb
        have PFX : Hid ((pre ++ [(xk, xv)]) <+: L ↔ (xk, xv) = (i, yv)) := pf_iff2 hG.pf hi hay
        have q1 : ¬ (n : Int) ≤ (i : Int) := by omega
        have q2 : (i : Int) < (n : Int) := by omega
        have q3 : (0 : Int) ≤ (i : Int) := Int.natCast_nonneg _
        have hb3 : bR ≠ XA0.heap.size := by have := gb.l3; omega
        have hlR : bR < WBAt1.heap.size := by have := gb.l3; omega
        have GIB := hidden gib
        clear hi hay gib hG hlt hyv gb
        by_cases hk : i = xk
        · subst hk
          by_cases hv : xv = yv
          · subst hv
            have PF : Hid ((pre ++ [(i, xv)]) <+: L) := PFX.out.2 rfl
            have hv2 : (xv.toList == xv.toList) = true := by simp
            have zz : (W.setCell ⟨WAt.heap.size, 0, none⟩ (.int .i64 ((i : Int) + 1))).cell? ⟨XA0.heap.size, 0, none⟩ = some (.int .i64 1) := Kept.cell ((Kept.refl (fun k => k = WAt.heap.size) W).setCell (p := ⟨WAt.heap.size, 0, none⟩) rfl _) (by show ¬ XA0.heap.size = WAt.heap.size; omega) z6
            have KI : Hid (Kept (fun j => j = WAt.heap.size) W (W.setCell ⟨WAt.heap.size, 0, none⟩ (.int .i64 ((i : Int) + 1)))) := (Kept.refl (fun k => k = WAt.heap.size) W).setCell (p := ⟨WAt.heap.size, 0, none⟩) rfl _
            have NG : Hid (GI W0 q WAt.heap.size XA0.heap.size 1 L (DA0 :: []) (pre ++ [(i, xv)]) (W.setCell ⟨WAt.heap.size, 0, none⟩ (.int .i64 ((i : Int) + 1)))) := ⟨GK.out.trans (KI.out.mono (fun j _ e => by omega)), by have := blk_set (j := 0) GIB.out (.int .i64 ((i : Int) + 1)); rw [List.length_append, HI.out]; exact this, blk_kept KI.out (by omega) HG.out.rb, PF.out, fun D hD => blk_kept KI.out (fun e => by have h1 := HG.out.ds D hD; rw [e, GIB.out] at h1; cases h1) (HG.out.ds D hD)⟩
            gi_wp2
            exact ⟨keepsFrom_one KI.out (by omega), KI.out.mono (fun j _ e => by omega), NG.out⟩
          · have NPF : Hid (¬ (pre ++ [(i, xv)]) <+: L) := fun h => hv (by have := PFX.out.1 h; simp at this; exact this)
            have hv2 : (xv.toList == yv.toList) = false := beqS_ne2 hv
            have hv3 : ¬ xv.toList = yv.toList := fun e => hv (bytes_ext e)
            gi_wp2
            exact ⟨keepsFrom_one ((Kept.refl (fun k => k = bR) W).setCell (p := ⟨bR, 0, none⟩) rfl _) hlR, NPF.out⟩
        · have NPF : Hid (¬ (pre ++ [(xk, xv)]) <+: L) := fun h => hk (by have := PFX.out.1 h; simp at this; exact this.1.symm)
          have hk2 : ¬ (xk : Int) = (i : Int) := by omega
          gi_wp2
          exact ⟨keepsFrom_one ((Kept.refl (fun k => k = bR) W).setCell (p := ⟨bR, 0, none⟩) rfl _) hlR, NPF.out⟩
      case doneAt1 =>
        rintro DAt1 ys XAt1 hDlAt1 hys hG hD
        rw [hys] at hG
        clear hys
        have GK : Hid (Kept (fun j => q ≤ j) W0 XAt1) := hG.kept
        have HKD := hidden hD
        have gb := G1.out.kept GK.out
        have z0 : XAt1.cell? ⟨bW, 0, none⟩ = some (.slice a0 n c0) := blk_cell gb.want
        have z1 : XAt1.cell? ⟨bS, 0, none⟩ = some (.int .i64 st) := blk_cell gb.stop
        have gib := hG.ib
        rw [HN.out] at gib
        have z4 : XAt1.cell? ⟨WAt.heap.size, 0, none⟩ = some (.int .i64 n) := blk_cell gib
        have z6 : XAt1.cell? ⟨XA0.heap.size, 0, none⟩ = some (.int .i64 1) := blk_cell hG.rb
        have DSL := hidden hG.ds
        have hXBAt1 : WBAt1.heap.size ≤ XAt1.heap.size := by have := blk_lt hD; omega
        clear gb gib hG hD
        gi_wp2
        rw [roundsIn_succ]
        obtain ⟨WAtd, hW1⟩ : ∃ Z, Z = XAt1.alloc (.cells #[.int .i64 2] 3) := ⟨_, rfl⟩
        rw [← hW1]
        have KAtd2 : Hid (Kept (fun j => q ≤ j) W0 WAtd) := by rw [hW1]; exact Kept.alloc GK.out _
        have FAtd2 : Hid (WAtd.heap[XAt1.heap.size]? = some (.cells #[.int .i64 2] 3 (0, 0))) := by rw [hW1]; exact heap_alloc_new XAt1 _
        have hlAtd2 : XAt1.heap.size < WAtd.heap.size := by rw [hW1]; simp
        have DSAtd2 : Hid (∀ d ∈ (DAt1 :: (DA0 :: []) : List Nat), WAtd.heap[d]? = some (.deferred (some []))) := fun d hd => by
          rw [hW1]
          rcases List.mem_cons.1 hd with rfl | hd
          · exact blk_alloc HKD.out _
          · exact blk_alloc (DSL.out d hd) _
        have hDxAtd : DAt1 < XAt1.heap.size := blk_lt HKD.out
        clear hW1 z0 z1 z4 z6 GK HKD DSL
        (try clear hs3)
        have gz := G1.out.kept KAtd2.out
        have rc : WAtd.cell? ⟨XAt1.heap.size, 0, none⟩ = some (.int .i64 2) := blk_cell FAtd2.out
        have z2 : WAtd.cell? ⟨bR, 0, none⟩ = some (.bool false) := blk_cell gz.res
        have z3 : WAtd.frozen? ⟨bR, 0, none⟩ = false := blk_free gz.res
        have GZ := hidden gz
        clear gz
        gi_wp2
        have e1 := DSAtd2.out DAt1 (by simp)
        have e2 := DSAtd2.out DA0 (by simp)
        have dne : DA0 ≠ DAt1 := by omega
        have c3 : (WAtd.setCell ⟨bR, 0, none⟩ (.bool true)).cell? ⟨bR, 0, none⟩ = some (.bool true) := World.cell?_setCell_same' _ _ _ (by rw [z2]; rfl)
        have l3 := G1.out.l3
        have e3 : (WAtd.setCell ⟨bR, 0, none⟩ (.bool true)).heap[DAt1]? = some (.deferred (some [])) := blk_off e1 (by omega)
        have e4 : ((WAtd.setCell ⟨bR, 0, none⟩ (.bool true)).putObj DAt1 (.deferred none)).heap[DA0]? = some (.deferred (some [])) := blk_kept (kept_putObj (S := fun k => k = DAt1) _ DAt1 _ rfl) dne (blk_off e2 (by omega))
        have c4 := two_defers_cell (D := DAt1) (E := DA0) c3 (by omega) (by omega)
        refine ⟨by simp, .inl ⟨_, _, rfl, run_takeDeferred e3, ?_⟩⟩
        refine ⟨by simp, .inl ⟨_, _, rfl, run_takeDeferred e4, ?_⟩⟩
        refine ⟨_, by simp [results, Tryd.results5, go_sem, c4], rfl, ?_⟩
        exact Kept.trans' GZ.out.same (((Kept.refl (fun k => w.heap.size ≤ k) WAtd).setCell (p := ⟨bR, 0, none⟩) GZ.out.l4 _).trans ((kept_putObj _ DAt1 _ (by omega)).trans (kept_putObj _ DA0 _ (by omega)))) (fun k hk h => by omega)
      case stopAt1 =>
        rintro D c pre W _ hp h _
        exact absurd hp h
end Go.Proofs.YtabpjegigpmfmaaDoor
namespace Go.Proofs.YtabpjegigpmfmaaDoor.PathParts
open Go.ChangeShapes Go.WideShapes Go.ChangeAt Go.RowKit Go.Joins Go.ChangeMaps
set_option maxRecDepth 100000 in
theorem contract (H : Type) (enc : TypeId × Value → H) (W : World) (base : Nat) (args : Array Value) (ds gs : List (DataW H)) (before : List MemPlace)
    (hval : ∀ (j : Nat) t v, Tryd.f5.params[j]? = some t → args[j]? = some v → Value.okWide Tryd.prog W .any base t v)
    (hW : DataW.Whole enc Tryd.prog Tryd.f5.params.toList Rows.pathPartsSpec.vars false W args.toList ds gs before)
    (hsz : (DataW.weightsEach Tryd.prog (Tryd.f5.params.toList ++ (OpenSpec.ofChange Rows.pathPartsSpec).bare.plain.varTypes Tryd.prog) (ds ++ gs)).all (· ≤ reachBytes) = true)
    (_hL : laidMetH Tryd.prog Rows.pathPartsRow.laid W) :
    Calls Tryd.prog 5 args W fun e W' => ∃ v, e = .returned v ∧ Rows.pathPartsSpec.post enc Tryd.prog Tryd.f5 false true false false W args v W' := by
  have hW' := hW
  obtain ⟨p, q, hA0, hV, rfl, hfz, hnd⟩ := hW
  have hA : DataW.TrodAll enc Tryd.prog W 0 (fun _ => true) true Tryd.f5.params.toList args.toList ds p := hA0
  rw [Tryd.params5] at hA hval hsz
  obtain ⟨v0, vs0, d0, ds0, p0, q0, hargs, rfl, rfl, h0, r0⟩ := trodAll_cons hA
  obtain ⟨v1, vs1, d1, ds1, p1, q1, rfl, rfl, rfl, h1, r1⟩ := trodAll_cons r0
  obtain ⟨rfl, rfl, rfl⟩ := trodAll_nil r1
  obtain rfl : args = #[v0, v1] := by cases args; simp_all
  obtain ⟨rfl, rfl⟩ := trodVars_none hV
  obtain ⟨p, rfl, rfl, rfl, _⟩ := open_string Tryd.underlying9 (hval 0 9 v0 rfl rfl) h0
  obtain ⟨stop, rfl, rfl, rfl, w_stop⟩ := open_int Tryd.underlying3 (hval 1 3 v1 rfl rfl) h1
  have b_stop : -9223372036854775808 ≤ stop ∧ stop ≤ 9223372036854775807 := by simpa [Lit.wf, IntKind.min, IntKind.max, IntKind.signed, IntKind.bits] using w_stop
  have l_p : p.size ≤ 140737488351232 := by
    have h2 := sized_string hsz (j := 0) (t := 9) (bytes := p.data.toList) rfl rfl
    rw [size_list] at h2
    unfold reachBytes at h2
    omega
  refine (parts_walk p stop W l_p b_stop.1 b_stop.2).mono fun e W' ⟨he, hg⟩ => ?_
  subst he
  exact ⟨_, rfl, law_post laidOut (by rw [Tryd.params5]; decide +kernel) rfl hW' rfl Tryd.underlying4 ⟨rfl, rfl, rfl⟩ (hg.below (Nat.le_refl _) fun _ h => h.elim)⟩
set_option maxRecDepth 100000 in
theorem lifted (os : Os) (started : os.Started) (H : Type) (enc : TypeId × Value → H) (F : Stop.Interp) :
    ReturnsInHanded {} Tryd.checked os 5 .any ((OpenSpec.ofChange Rows.pathPartsSpec).preRow enc Tryd.prog Tryd.f5 Rows.pathPartsRow.domain false Rows.pathPartsRow.laid) (((OpenSpec.ofChange Rows.pathPartsSpec).at F).post enc Tryd.prog Tryd.f5 false true false false) := by
  refine returnsInHanded_of_row (C := Tryd.checked) (s := OpenSpec.ofChange Rows.pathPartsSpec) own started (by kernel_rfl) Tryd.func5
    (witness_row_at (enc := enc) (C := Tryd.checked) false (tabWorld (World.holding Tryd.prog os ⟨#[], #[], []⟩)) #[.string ⟨#[]⟩, .int .i64 0] rfl (by kernel_rfl) (by kernel_rfl) (by kernel_rfl)
      (OpenSpec.preRow_of_cond (x := ([.lit (.string []), .lit (.int .i64 0)], [], [])) 8 (by kernel_rfl) (by kernel_rfl) (fun k hk => by cases hk) (by kernel_rfl) (laidMet_of_run' 8 (by kernel_rfl) (by kernel_rfl)))) ?_
  intro W base args ds gs before hval hW _ _ hsz hL _ _
  exact contract H enc W base args ds gs before hval hW hsz hL
theorem said : Rows.PathPartsSaid :=
  OpenClaim.holds_of_cond 5 Tryd.f5 rfl rfl rfl rfl rfl rfl rfl ⟨rfl, rfl, rfl, rfl, rfl⟩ rfl rfl rfl rfl rfl (by kernel_rfl) Tryd.func5 (by kernel_rfl)
    (of_decide_eq_true (by kernel_rfl)) (by unfold Func.isWrapper; first | (rw [if_pos (by decide +kernel)]; kernel_rfl) | (rw [if_neg (by decide +kernel)]; exact ⟨rfl, rfl⟩))
    (fun os started H enc _ F => by rw [OpenClaim.pre_eq_preRow]; exact lifted os started H enc F)
theorem plain (f : FuncId) (fn : Func) (hf : Tryd.pinned.checked.prog.funcNamed Rows.pathPartsRow.func = some f) (hfn : Tryd.pinned.checked.prog.funcs[f]? = some fn) :
    false = Tryd.pinned.checked.prog.looks [] ∧ ∀ (j : Nat) t, fn.params[j]? = some t → Tryd.pinned.checked.prog.wantsStandIn t = false := by
  obtain rfl : f = 5 := Option.some.inj ((show Tryd.prog.funcNamed Rows.pathPartsRow.func = some 5 by kernel_rfl).symm.trans hf) |>.symm
  obtain rfl : fn = Tryd.f5 := (Option.some.inj (Tryd.func5.symm.trans hfn)).symm
  refine ⟨by kernel_rfl, fun j t ht => ?_⟩
  rw [Tryd.params5] at ht
  have hm : t ∈ [9, 3] := by simpa using Array.mem_of_getElem? ht
  have hall : [9, 3].all (fun t => !Tryd.prog.wantsStandIn t) = true := by kernel_rfl
  have h1 := List.all_eq_true.1 hall t hm
  have h2 : Tryd.prog.wantsStandIn t = false := by simpa using h1
  exact h2
theorem card : Rows.PathPartsCardSaid :=
  Claim7.holds_tied_plain_at .later [] _ _ _ _ said (fun _ h => by cases h) (by kernel_rfl) (fun _ h => by cases h) pathParts_row_tie rfl ⟨rfl, rfl⟩ (by kernel_rfl) rfl plain (by kernel_rfl)
end Go.Proofs.YtabpjegigpmfmaaDoor.PathParts
namespace Go.Proofs.YtabpjegigpmfmaaDoor
theorem pathParts_card : Rows.PathPartsCardSaid := PathParts.card
end Go.Proofs.YtabpjegigpmfmaaDoor
