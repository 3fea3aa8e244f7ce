/- CutPieces walked where the shape may be. -/
import Derived.Test.YtdmekpokgnieeaaDoorPcA
namespace Go.Proofs.YtdmekpokgnieeaaDoor
set_option linter.unusedVariables false
theorem own_setC {w : World} {B g n cap i : Nat} {e : TypeId} {xs : List Value} (h : w.ownsRow B e 1 (.slice (some ⟨g, 0, none⟩) n cap) n xs) (hi : i < n) (u : Value) :
    (w.setCell ⟨g, i, none⟩ u).ownsRow B e 1 (.slice (some ⟨g, 0, none⟩) n cap) n (xs.set i u) := by
  obtain ⟨h1, h2⟩ := h
  refine ⟨by simpa using h1, ?_⟩
  rcases h2 with ⟨h2, _⟩ | ⟨g', cap', cur, hv, hb, hg, hn, hc, hs, ht⟩
  · cases h2
  · obtain ⟨rfl, rfl⟩ : g = g' ∧ cap = cap' := by simpa using hv
    refine Or.inr ⟨g, cap, cur.setIfInBounds i u, rfl, hb, blk_set hg u, hn, hc, by simpa using hs, ?_⟩
    rw [Array.toList_setIfInBounds, List.take_set, ht]
theorem own_cellC {w : World} {B g n cap i : Nat} {e : TypeId} {xs : List Value} (h : w.ownsRow B e 1 (.slice (some ⟨g, 0, none⟩) n cap) n xs) (u : Value) (hu : xs[i]? = some u) :
    w.cell? ⟨g, i, none⟩ = some u ∧ w.frozen? ⟨g, i, none⟩ = false := by
  have h1 := h.cells (g := g) rfl i u hu
  have hadd : (⟨g, 0, none⟩ : Addr).add i = ⟨g, 0 + i, none⟩ := by unfold Addr.add; split <;> simp_all
  rw [hadd, Nat.zero_add] at h1
  refine ⟨h1, ?_⟩
  rcases h.2 with ⟨h2, _⟩ | ⟨g', cap', cur, hv, hb, hg, _⟩
  · cases h2
  · obtain ⟨rfl, rfl⟩ : g = g' ∧ cap = cap' := by simpa using hv
    exact blk_free hg
theorem sum_range_mono (f : Nat → Nat) {a b : Nat} (h : a ≤ b) : ((List.range a).map f).sum ≤ ((List.range b).map f).sum := by
  induction b with
  | zero => obtain rfl : a = 0 := by omega
            exact Nat.le_refl _
  | succ b ih =>
    rcases Nat.eq_or_lt_of_le h with rfl | h1
    · exact Nat.le_refl _
    · rw [List.range_succ, List.map_append, List.sum_append]
      exact Nat.le_trans (ih (by omega)) (Nat.le_add_right _ _)
theorem sum_ge_len : ∀ (l : List Nat), (∀ x ∈ l, 1 ≤ x) → l.length ≤ l.sum
  | [], _ => Nat.le_refl _
  | x :: l, h => by
    have h1 := h x (by simp)
    have h2 := sum_ge_len l (fun y hy => h y (by simp [hy]))
    simp only [List.length_cons, List.sum_cons]
    omega
theorem lens_count (c : Shp) (hc : c.Ok) (l : List UInt8) : (c.lens l).length ≤ l.length := by
  obtain ⟨h1, h2⟩ := lens_sum c hc _ l (Nat.le_refl _)
  have := sum_ge_len _ h2
  omega
open Go.RowKit Go.WideShapes Go.Shelf
set_option linter.unusedVariables false
attribute [local go_sem ↓] Go.wp_at_zero Go.wp_at_succ
set_option maxHeartbeats 4000000 in
set_option maxRecDepth 100000 in
theorem pieces_yes (c : Shp) (hc : c.Ok) (v : Value) (n : Nat) (f : Nat → Value × List UInt8) (w : World) (hv : Rws w v n f) (hs : ((List.range n).map fun i => (f i).2.length).sum ≤ 1048576) (hn : n ≤ 1048576) (hT : Tab w) :
    Calls Tryd.prog 4 #[.agg #[.int .i64 c.mn, .int .i64 c.no, .int .i64 c.mx, .int .u64 c.seed], v] w fun e w' => e = .returned (.bool true) ∧ Same w w' := by
  obtain ⟨i0, hi, hi0, hi1, hi2⟩ := info_parts infoInt
  obtain ⟨i1, hj1, hy0, hy1, hy2⟩ := info_parts infoByte
  obtain ⟨a, cap, rfl, hrows⟩ := hv
  have HRW := hidden hrows
  have HT := hidden hT
  have HC := hidden hc
  have HLv := hidden (fun W (k : Same w W) => lives_any W (hT.same k))
  have HNw := hidden (fun W => cutNew_yes c hc W)
  have HCk := hidden (fun W => refCheck_yes c hc W)
  have K0 : Hid (Same w (w.alloc (.cells #[.int .i64 c.mn, .int .i64 c.no, .int .i64 c.mx, .int .u64 c.seed] 24))) := hidden (same_alloc _ _)
  clear hrows hT hc
  go_enter Tryd.func4, Tryd.ntmps4
  go_wp2_with (first
    | (go_at_call 6; refine (HLv.out _ K0.out).mono ?_; rintro e w1 ⟨rfl, k1⟩; have b0 : w1.cell? ⟨w.heap.size, 0, none⟩ = some (.int .i64 c.mn) := box_cell 0 k1 rfl; have b1 : w1.cell? ⟨w.heap.size, 1, none⟩ = some (.int .i64 c.no) := box_cell 1 k1 rfl; have b2 : w1.cell? ⟨w.heap.size, 2, none⟩ = some (.int .i64 c.mx) := box_cell 2 k1 rfl; have b3 : w1.cell? ⟨w.heap.size, 3, none⟩ = some (.int .u64 c.seed) := box_cell 3 k1 rfl; have B1 := hidden (And.intro b0 (And.intro b1 (And.intro b2 b3))); have K1 := hidden k1; clear k1)
    | (go_at_call 11; refine (HNw.out _).mono ?_; rintro e w2 ⟨g, rfl, hg, cc2, k2⟩; have C2 := hidden cc2; have K2 := hidden (Kept.trans K1.out k2); have d0 : w2.cell? ⟨w.heap.size, 0, none⟩ = some (.int .i64 c.mn) := k2.cell (p := ⟨w.heap.size, 0, none⟩) (fun h => h) b0; have d1 : w2.cell? ⟨w.heap.size, 1, none⟩ = some (.int .i64 c.no) := k2.cell (p := ⟨w.heap.size, 1, none⟩) (fun h => h) b1; have d2 : w2.cell? ⟨w.heap.size, 2, none⟩ = some (.int .i64 c.mx) := k2.cell (p := ⟨w.heap.size, 2, none⟩) (fun h => h) b2; have d3 : w2.cell? ⟨w.heap.size, 3, none⟩ = some (.int .u64 c.seed) := k2.cell (p := ⟨w.heap.size, 3, none⟩) (fun h => h) b3; clear cc2 k2)
    | (go_at_call 12; refine (HCk.out _).mono ?_; rintro e w3 ⟨rfl, k3⟩; have C3 := hidden (C2.out.kept k3 (fun h => h)); have K3 := hidden (Kept.trans K2.out k3); have e0 : w3.cell? ⟨w.heap.size, 0, none⟩ = some (.int .i64 c.mn) := k3.cell (p := ⟨w.heap.size, 0, none⟩) (fun h => h) d0; have e1 : w3.cell? ⟨w.heap.size, 1, none⟩ = some (.int .i64 c.no) := k3.cell (p := ⟨w.heap.size, 1, none⟩) (fun h => h) d1; have e2 : w3.cell? ⟨w.heap.size, 2, none⟩ = some (.int .i64 c.mx) := k3.cell (p := ⟨w.heap.size, 2, none⟩) (fun h => h) d2; have e3 : w3.cell? ⟨w.heap.size, 3, none⟩ = some (.int .u64 c.seed) := k3.cell (p := ⟨w.heap.size, 3, none⟩) (fun h => h) d3; clear k3))
  obtain ⟨W4, hW4⟩ : ∃ W4, W4 = w3.alloc (.cells #[.int .i64 c.mn, .int .i64 c.no, .int .i64 c.mx, .int .u64 c.seed, .slice none 0 0] 43) := ⟨_, rfl⟩
  have r4 : RB c w3.heap.size (.slice none 0 0) W4 := by rw [hW4]; exact blk_new w3 _
  have k34 : Same w3 W4 := by rw [hW4]; exact same_alloc _ _
  have C4 := hidden (C3.out.kept k34 (fun h => h))
  have K4 := hidden (Kept.trans K3.out k34)
  have hsz4 : W4.heap.size = w3.heap.size + 1 := by rw [hW4]; simp
  have hg3 : g < w3.heap.size := C3.out.pc.lt
  rw [← hW4]
  have R4 := hidden r4
  clear hW4 r4 k34 b0 b1 b2 b3 d0 d1 d2 d3 e0 e1 e2 e3
  generalize w3.heap.size = g2 at *
  have hg0 : w.heap.size + 1 ≤ g := by have := K1.out.size; simp at this; omega
  have BX : Hid ((w.alloc (.cells #[.int .i64 c.mn, .int .i64 c.no, .int .i64 c.mx, .int .u64 c.seed] 24)).heap[w.heap.size]? = some (.cells #[.int .i64 c.mn, .int .i64 c.no, .int .i64 c.mx, .int .u64 c.seed] 24 (0, 0))) := hidden (blk_new _ _)
  have hgB : (w.alloc (.cells #[.int .i64 c.mn, .int .i64 c.no, .int .i64 c.mx, .int .u64 c.seed] 24)).heap.size ≤ g := by simp; omega
  clear K1 K2 K3 B1
  obtain ⟨wB, hWB⟩ : ∃ wB, wB = w.alloc (.cells #[.int .i64 c.mn, .int .i64 c.no, .int .i64 c.mx, .int .u64 c.seed] 24) := ⟨_, rfl⟩
  rw [← hWB] at K0 K4 BX hgB
  clear hWB
  have HN := hidden hn
  have HS := hidden hs
  have htl := HT.out.lt
  go_loopw [8, 9, 10] (fun al to i wr => ∃ (j len h : Nat) (rest AL : List UInt8) (TL : List Nat) (p ta aa : Option Addr) (cp ct ca : Nat), j ≤ n ∧ i = .int .i64 j ∧ to = .slice ta TL.length ct ∧ al = .slice aa AL.length ca ∧ Ob c wB g g2 len h rest p cp TL ta ct AL aa ca wr ∧ c.grow 0 0 rest = (rest.length, false, len, h) ∧ (∀ b, c.lens (AL ++ b) = TL ++ c.lens (rest ++ b)) ∧ AL.length = ((List.range j).map fun i => (f i).2.length).sum ∧ rest.length ≤ AL.length ∧ TL.length ≤ AL.length) (fun _ _ i _ => n - (intOf i).toNat)
  case atStart => exact ⟨0, 0, 0, [], [], [], none, none, none, 0, 0, 0, Nat.zero_le _, rfl, rfl, rfl, ⟨C4.out, R4.out, Byt.nil _, World.ownsRow_nil _ _ _ _, World.ownsRow_nil _ _ _ _, (fun h => absurd h (by simp)), (fun h => absurd h (by simp)), (fun h => absurd h (by simp)), ⟨hgB, hg3⟩, K4.out⟩, by have := HC.out.no_ge; have := HC.out.mx1; simp [Shp.grow]; omega, fun b => rfl, rfl, Nat.le_refl _, Nat.le_refl _⟩
  case round =>
    obtain ⟨j, len, h, rest, AL, TL, p, ta, aa, cp, ct, ca, hj, rfl, rfl, rfl, hob, hgr, hlen, hal, hrl, htl2⟩ := hrel
    by_cases hlt : j < n
    · obtain ⟨q, off, rfl, hrw⟩ := HRW.out (by omega)
      obtain ⟨hbj, hcj⟩ := hrw j hlt
      obtain ⟨la, lc, hfj, -, -⟩ := hbj.form
      obtain ⟨l, hl⟩ : ∃ l, (f j).2 = l := ⟨_, rfl⟩
      rw [hfj] at hbj hcj
      rw [hl] at hbj hcj
      have hsum : AL.length + l.length = ((List.range (j + 1)).map fun i => (f i).2.length).sum := by rw [List.range_succ, List.map_append, List.sum_append, ← hal]; simp [hl]
      have hle : AL.length + l.length ≤ 1048576 := by
        rw [hsum]
        exact Nat.le_trans (sum_range_mono (fun i => (f i).2.length) (by omega)) HS.out
      obtain ⟨S, R, hSR⟩ : ∃ S R, c.sure (rest ++ l) = (S, R) := ⟨_, _, rfl⟩
      have hSl : S.length ≤ rest.length + l.length := by have := c.sure_len HC.out (rest ++ l); rw [hSR, List.length_append] at this; exact this
      have hRl : R.length ≤ rest.length + l.length := by have := (c.sure_rest HC.out _ (rest ++ l) (Nat.le_refl _)).2; rw [hSR, List.length_append] at this; exact this
      have hlen2 : ∀ b, c.lens ((AL ++ l) ++ b) = (TL ++ S) ++ c.lens (R ++ b) := fun b => by
        rw [List.append_assoc, hlen, ← List.append_assoc, c.lens_sure HC.out b _ (rest ++ l) (Nat.le_refl _), hSR, List.append_assoc]
      have hTl3 : (TL ++ S).length ≤ (AL ++ l).length := by
        have h1 := hlen2 []
        have h2 := lens_count c HC.out ((AL ++ l) ++ [])
        rw [h1] at h2
        simp only [List.length_append, List.append_nil] at h2 ⊢
        omega
      have HSR := hidden hSR
      have HG := hidden hgr
      have HL2 := hidden hlen2
      have HT3 := hidden hTl3
      have HSM := hidden hsum
      have HB := hidden (fun W (k : Same wB W) => hbj.same (K0.out.trans k))
      have HCJ := hidden (fun W (k : Same wB W) => (K0.out.trans k).cell (p := ⟨q, off + j, none⟩) (fun h => h) hcj)
      have HOB := hidden hob
      obtain ⟨w0, rfl⟩ : ∃ w0, w0 = wr := ⟨_, rfl⟩
      have x1 := HCJ.out w0 hob.sm
      have x2 := HCJ.out (w0.alloc (.cells #[] 5)) (hob.sm.alloc _)
      have r2 : Hid ((l.map U8).length = l.length * 1) := by rw [Hid, List.length_map, Nat.mul_one]
      have u2 := hidden (U8_all l)
      have m1 : Hid (0 + l.length ≤ maxLen) := by rw [Hid]; unfold maxLen; omega
      have m2 : Hid ((0 + l.length) * 1 ≤ 140737488355328) := by rw [Hid]; omega
      clear hSR hgr hlen2 hTl3 hsum hbj hcj hob hlen hrw hal hfj hl
      have t1 : True := trivial
      go_wp2_with (have _t := t1; refine wpList_append_any rfl _ _ 25 rfl w0.heap.size 5 i1 (.int .u8 0) 1 1 Tryd.underlying25 hj1 hy0 hy1 hy2 rfl (by decide) _ 0 0 [] rfl (World.ownsRow_made w0 #[] 0 (Nat.le_refl _) (by decide) (by decide)) la l.length lc (l.map U8) rfl r2.out ((HB.out _ (HOB.out.sm.alloc _)).lies) u2.out m1.out m2.out (by simp) ?_; intro oa oc wa ho hg; clear t1; rw [Nat.zero_add, List.nil_append] at ho; have ka : Same w0 wa := ((Kept.refl (fun _ => False) w0).alloc _).grown hg (fun k hk hl => by simp [Value.ownBlock] at hk; omega); have OO := hidden ho; have KA := hidden ka; have OBA := hidden (HOB.out.same ka); have x3 := HCJ.out wa (HOB.out.sm.trans ka); clear ho hg ka)
      have hbo : Hid (Byt wa (.slice oa l.length oc) l) := hidden (Byt.own (B := w0.heap.size) (by rw [List.length_map] at *; exact OO.out))
      have HXX := hidden (wx_any HC.out (w := wa.drew) (OBA.out.cc.kept (Kept.refl (fun _ => False) wa).drew (fun h => h)) (HT.out.same (K0.out.trans OBA.out.sm.drew)) (Nat.ne_of_lt (Nat.lt_of_lt_of_le htl (Nat.le_of_succ_le hg0))) HG.out (hbo.out.same (Kept.refl _ wa).drew) (by omega) HSR.out)
      have hHY := hidden (fun W (k : Same wB W) (h1 : RB c g2 (.slice p rest.length cp) W) (h2 : Byt W (.slice p rest.length cp) rest) => wy_any HC.out h1 h2 (HB.out W k) (by omega) HSR.out)
      clear x1 x2
      go_region_law (first
        | (refine step_call rfl 13 #[.pointer (some ⟨g, 0, none⟩), .slice oa l.length oc] (fun u W => WxP c g S R wa u W) (by go_simp; try rfl) (HXX.out.mono (fun e w' ⟨u, h1, h2⟩ => ⟨_, h1, let ⟨x, y, ln, hh, q1, q2, q3, q4, q5⟩ := h2.out; ⟨x, y, ln, hh, q1, q2, q3, q4, ⟨⟨q5.kept.os, q5.kept.tape, q5.kept.output, q5.kept.size, q5.kept.block⟩, q5.cell, q5.free⟩⟩⟩)) ?_; rintro u w1 hu; obtain ⟨ux, uy, len', h', rfl, iu, cu, gu, du⟩ := hu.out; clear hu; have ob1 := OBA.out.x du cu; have x4 := HCJ.out w1 ob1.sm; have OB1 := hidden ob1; have IU := hidden iu; have GU := hidden gu; have DU := hidden du; clear ob1 iu cu gu du)
        | (refine step_call rfl 14 #[.pointer (some ⟨g2, 0, none⟩), .slice la l.length lc] (fun u W => WyP c g2 S R w1 u W) (by go_simp; try rfl) (hHY.out w1 OB1.out.sm OB1.out.rb OB1.out.bt) ?_; rintro u w2 hu; obtain ⟨vx, vy, p2, cp2, rfl, iv, rv, bv, av, kv⟩ := hu.out; clear hu; have ob2 := OB1.out.y kv rv bv av; have x5 := HCJ.out w2 ob2.sm; have OB2 := hidden ob2; have IV := hidden iv; have KV := hidden kv; have AV := hidden av; clear ob2 iv rv bv av kv))
      all_goals
        have hz1 : wa.heap.size ≤ w1.heap.size := DU.out.kept.size
        have hz2 : w1.heap.size ≤ w2.heap.size := KV.out.size
        have hz0 : w0.heap.size ≤ wa.heap.size := KA.out.size
        have IU2 : Hid (Ints wa.heap.size w2 (.slice ux S.length uy) S) := hidden (own_kept IU.out KV.out (fun k hk hs => by have h1 := own_ge IU.out k hk; have h2 : k = g2 := hs; have h3 := OBA.out.rb.lt; omega))
        have HSame := hidden (fun W (k : Same w2 W) => sameInts_any _ _ S W (IU2.out.cells.same k) (IV.out.cells.same k) (by omega))
        have r3 : Hid ((S.map fun (n : Nat) => Value.int .i64 (n : Int)).length = S.length * 1) := by rw [Hid, List.length_map, Nat.mul_one]
        have u3 : Hid (∀ u ∈ (S.map fun (n : Nat) => Value.int .i64 (n : Int)), u.oneCell' = true) := hidden (fun u hu => by obtain ⟨n, _, rfl⟩ := List.mem_map.1 hu; rfl)
        have m3 : Hid (TL.length + S.length ≤ maxLen) := by rw [Hid]; unfold maxLen; omega
        have m4 : Hid ((TL.length + S.length) * 8 ≤ 140737488355328) := by rw [Hid]; omega
        have m5 : Hid (AL.length + l.length ≤ maxLen) := by rw [Hid]; unfold maxLen; omega
        have m6 : Hid ((AL.length + l.length) * 1 ≤ 140737488355328) := by rw [Hid]; omega
        have t2 : True := trivial
        clear x3 x4
        go_wp2_with (first
          | (go_at_call 9; refine (HSame.out _ (Kept.refl _ _)).mono ?_; rintro e w3 ⟨rfl, k3⟩; have OB3 := hidden (OB2.out.same k3); have IV3 : Hid (Ints w1.heap.size w3 (.slice vx S.length vy) S) := hidden (own_kept IV.out k3 (fun _ _ h => h)); have hz3 : w2.heap.size ≤ w3.heap.size := k3.size; have K3 := hidden k3; clear k3)
          | (have _t := t2; refine wpList_append_where rfl _ _ 27 rfl (g2 + 1) 3 i0 (.int .i64 0) 1 8 Tryd.underlying27 hi hi0 hi1 hi2 rfl (by decide) _ _ _ _ rfl OB3.out.ot vx S.length vy _ rfl r3.out IV3.out.lies u3.out m3.out m4.out OB3.out.rb.lt ?_; intro ta2 tc2 w4 ho4 hg4 hw4; clear t2; have ob4 := OB3.out.t (TL' := TL ++ S) hg4 (by rw [List.length_append, List.map_append]; exact ho4) (by rw [List.length_append]; exact hw4); have x6 := HCJ.out w4 ob4.sm; have OB4 := hidden ob4; have HW4 := hidden hw4; have hz4 : w3.heap.size ≤ w4.heap.size := hg4.size; have G4 := hidden hg4; have t3 : True := trivial; clear ob4 ho4 hg4 hw4)
          | (have _t := t3; refine wpList_append_where rfl _ _ 25 rfl (g2 + 1) 5 i1 (.int .u8 0) 1 1 Tryd.underlying25 hj1 hy0 hy1 hy2 rfl (by decide) _ _ _ _ rfl OB4.out.oa la l.length lc _ rfl r2.out (HB.out _ OB4.out.sm).lies u2.out m5.out m6.out OB4.out.rb.lt ?_; intro aa2 ac2 w5 ho5 hg5 hw5; clear t3; have ob5 := OB4.out.a (AL' := AL ++ l) hg5 (by rw [List.length_append, List.map_append]; exact ho5) (by rw [List.length_append]; exact hw5); have OB5 := hidden ob5; have HW5 := hidden hw5; have G5 := hidden hg5; have hz5 : w4.heap.size ≤ w5.heap.size := hg5.size; clear ob5 ho5 hg5 hw5))
        have hzg : g2 < w0.heap.size := HOB.out.rb.lt
        have hgg := HOB.out.lt
        have hown : ∀ q, (Value.slice oa l.length oc).ownBlock = some q → w0.heap.size ≤ q ∧ q < wa.heap.size := fun q hq => ⟨own_ge OO.out q hq, own_lt OO.out q hq⟩
        have o1 := own_kept OO.out DU.out.kept (fun k hk hs => by have h1 := hown k hk; have h2 : k = g := hs; omega)
        have o2 := own_kept o1 KV.out (fun k hk hs => by have h1 := hown k hk; have h2 : k = g2 := hs; omega)
        have o3 := own_kept o2 K3.out (fun _ _ h => h)
        have o4 := own_kept o3 ((Kept.refl (fun k => (Value.slice ta TL.length ct).ownBlock = some k) w3).grown G4.out (fun k e _ => e)) (fun k hk hs => by have h1 := hown k hk; have h2 := own_lt HOB.out.ot k hs; omega)
        have o5 := own_kept o4 ((Kept.refl (fun k => (Value.slice aa AL.length ca).ownBlock = some k) w4).grown G5.out (fun k e _ => e)) (fun k hk hs => by have h1 := hown k hk; have h2 := own_lt HOB.out.oa k hs; omega)
        have O5 := hidden o5
        have HOW := hidden hown
        clear o1 o2 o3 o4 o5 hown x5 x6 HXX hHY HSame IU2 IU IV IV3
        go_loopw [14] (fun kk wr => ∃ (k : Nat) (xs : List Value), k ≤ l.length ∧ kk = .int .i64 k ∧ xs.length = l.length ∧ (∀ x ∈ xs, ∃ z, x = .int .u8 z) ∧ wr.ownsRow w0.heap.size 5 1 (.slice oa l.length oc) l.length xs ∧ Kept (fun q => (Value.slice oa l.length oc).ownBlock = some q) w5 wr) (fun kk _ => l.length - (intOf kk).toNat)
        case atStart => exact ⟨0, l.map U8, Nat.zero_le _, rfl, by simp, (fun x hx => by obtain ⟨b, _, rfl⟩ := List.mem_map.1 hx; exact ⟨_, rfl⟩), O5.out, Kept.refl _ _⟩
        case round =>
          obtain ⟨k, xs, hk, rfl, hxl, hxs, hro, hkk⟩ := hrel
          by_cases hkl : k < l.length
          · obtain ⟨b, cb, hbe, hb1, hb2⟩ := hro.form (by omega)
            simp only [Value.slice.injEq] at hbe
            obtain ⟨rfl, -, rfl⟩ := hbe
            obtain ⟨z, hz⟩ := hxs (xs[k]'(by omega)) (List.getElem_mem _)
            obtain ⟨c1, c2⟩ := own_cellC hro (xs[k]'(by omega)) (List.getElem?_eq_getElem (by omega))
            rw [hz] at c1
            have HRO := hidden hro
            have HKK := hidden hkk
            have HXS := hidden hxs
            have HXL := hidden hxl
            clear hro hkk hxs hz hxl
            go_wp2
            go_roundw
            case rel => exact ⟨k + 1, xs.set k _, by omega, by go_num, by rw [List.length_set]; exact HXL.out, (fun x hx => by rcases List.mem_or_eq_of_mem_set hx with h1 | h1; exact HXS.out x h1; exact ⟨_, h1⟩), own_setC HRO.out hkl _, HKK.out.setCell (p := ⟨b, k, none⟩) rfl _⟩
            case measure => simp only [intOf]; omega
          · obtain rfl : k = l.length := by omega
            have ob9 := OB5.out.o (v := .slice oa l.length oc) hkk (fun q hq => ⟨by have := HOW.out q hq; omega, (fun z ad e => by have h1 := HOW.out q hq; have h2 := AV.out ad e; omega), (fun e => by
              have h1 := HOW.out q hq
              rcases HW4.out q (by rw [List.length_append] at e; exact e) with h2 | h2
              · have := own_lt HOB.out.ot q h2; omega
              · omega), (fun e => by
              have h1 := HOW.out q hq
              rcases HW5.out q (by rw [List.length_append] at e; exact e) with h2 | h2
              · have := own_lt HOB.out.oa q h2; omega
              · omega)⟩)
            have OB9 := hidden ob9
            clear hro hkk hxs hxl ob9
            go_wp2
            go_roundw
            case rel => exact ⟨j + 1, len', h', R, AL ++ l, TL ++ S, p2, ta2, aa2, cp2, tc2, ac2, hlt, by go_num, by rw [List.length_append], by rw [List.length_append], OB9.out, GU.out, HL2.out, by rw [List.length_append]; exact HSM.out, by rw [List.length_append]; omega, HT3.out⟩
            case measure => simp only [intOf]; omega
    · obtain rfl : j = n := by omega
      obtain ⟨L, hL⟩ : ∃ L, c.lens rest = L := ⟨_, rfl⟩
      have hAL : c.lens AL = TL ++ L := by have := hlen []; rw [List.append_nil, List.append_nil, hL] at this; exact this
      have hTLl : TL.length + L.length ≤ AL.length := by have := lens_count c HC.out AL; rw [hAL, List.length_append] at this; exact this
      have hALl : AL.length ≤ 1048576 := by rw [hal]; exact HS.out
      have HX := hidden (ex_any HC.out hob.cc hgr)
      have HYe := hidden (fun W (h1 : RB c g2 (.slice p rest.length cp) W) (h2 : Byt W (.slice p rest.length cp) rest) => ey_any HC.out h1 h2 (by omega))
      have HLy := hidden (fun W v (h1 : Byt W v AL) => ly_any HC.out h1 (by omega))
      have HNo := hidden (fun W h (h1 : CC c g 0 h W) => cutEnd_no c HC.out h1)
      rw [hL] at HX HYe
      rw [hAL] at HLy
      have HOB := hidden hob
      obtain ⟨w0, rfl⟩ : ∃ w0, w0 = wr := ⟨_, rfl⟩
      have r3 : Hid ((L.map fun (n : Nat) => Value.int .i64 (n : Int)).length = L.length * 1) := by rw [Hid, List.length_map, Nat.mul_one]
      have u3 : Hid (∀ u ∈ (L.map fun (n : Nat) => Value.int .i64 (n : Int)), u.oneCell' = true) := hidden (fun u hu => by obtain ⟨n, _, rfl⟩ := List.mem_map.1 hu; rfl)
      have m3 : Hid (TL.length + L.length ≤ maxLen) := by rw [Hid]; unfold maxLen; omega
      have m4 : Hid ((TL.length + L.length) * 8 ≤ 140737488355328) := by rw [Hid]; omega
      have hzg : g2 < w0.heap.size := HOB.out.rb.lt
      have hgg := HOB.out.lt
      clear hob hgr hlen hal hL hAL
      have t1 : True := trivial
      go_wp2_with (first
        | (go_at_call 15; have _t := t1; refine HX.out.mono ?_; rintro e w1 ⟨u, rfl, hu⟩; obtain ⟨ux, uy, h1, rfl, iu, cu, du⟩ := hu.out; clear hu t1; have OB1 := hidden (HOB.out.x du cu); have IU := hidden iu; have DU := hidden du; have t2 : True := trivial; clear iu cu du)
        | (go_at_call 16; refine (HYe.out w1 OB1.out.rb OB1.out.bt).mono ?_; rintro e w2 ⟨u, rfl, hu⟩; obtain ⟨vx, vy, rfl, iv, kv⟩ := hu.out; clear hu; have CC2 := hidden (OB1.out.cc.kept kv (fun e => by have : g = g2 := e; omega)); have OT2 := hidden (own_kept OB1.out.ot kv (fun k hk hs => by have h1 := own_ge OB1.out.ot k hk; have : k = g2 := hs; omega)); have OA2 := hidden (own_kept OB1.out.oa kv (fun k hk hs => by have h1 := own_ge OB1.out.oa k hk; have : k = g2 := hs; omega)); have IU2 : Hid (Ints w0.heap.size w2 (.slice ux L.length uy) L) := hidden (own_kept IU.out kv (fun k hk hs => by have h1 := own_ge IU.out k hk; have h2 : k = g2 := hs; omega)); have IV := hidden iv; have K2 := hidden (Kept.trans' OB1.out.sm kv (fun i hi hs => by have : i = g2 := hs; omega)); have s1 : True := trivial; have hzA : w1.heap.size ≤ w2.heap.size := kv.size; have hzB : g2 < w1.heap.size := OB1.out.rb.lt; clear iv kv)
        | (go_at_call 9; have _t := s1; refine (sameInts_any _ _ L w2 IU2.out.cells IV.out.cells (by omega)).mono ?_; rintro e w3 ⟨rfl, k3⟩; clear s1; have K3 := hidden k3; have CC3 := hidden (CC2.out.kept k3 (fun h => h)); clear k3)
        | (go_at_call 15; have _t := t2; refine (HNo.out w3 _ CC3.out).mono ?_; rintro e w4 ⟨rfl, k4⟩; clear t2; have k5 := K3.out.trans k4; have K5 := hidden (K2.out.trans k5); have K4s := hidden k5.size; have b9 := blk_kept K5.out (fun h => h) BX.out; have b0 : w4.cell? ⟨w.heap.size, 0, none⟩ = some (.int .i64 c.mn) := blk_cell b9; have b1 : w4.cell? ⟨w.heap.size, 1, none⟩ = some (.int .i64 c.no) := blk_cell b9; have b2 : w4.cell? ⟨w.heap.size, 2, none⟩ = some (.int .i64 c.mx) := blk_cell b9; have b3 : w4.cell? ⟨w.heap.size, 3, none⟩ = some (.int .u64 c.seed) := blk_cell b9; have OT4 := hidden (own_kept OT2.out k5 (fun _ _ h => h)); have OA4 := hidden (own_kept OA2.out k5 (fun _ _ h => h)); have IV4 := hidden (own_kept IV.out k5 (fun _ _ h => h)); clear k4 k5 b9)
        | (go_at_call 8; refine (HLy.out w4 _ (Byt.own OA4.out)).mono ?_; rintro e w5 ⟨u, rfl, hu⟩; obtain ⟨zx, zy, rfl, iz, k6⟩ := hu.out; clear hu; rw [List.length_append] at iz; have OT5 := hidden (own_kept OT4.out k6 (fun _ _ h => h)); have IV5 : Hid (Ints w1.heap.size w5 (.slice vx L.length vy) L) := hidden (own_kept IV4.out k6 (fun _ _ h => h)); have IZ := hidden iz; have hz5 : w4.heap.size ≤ w5.heap.size := k6.size; have hz6 : w2.heap.size ≤ w4.heap.size := K4s.out; have K6 := hidden (K5.out.trans k6); have t3 : True := trivial; clear iz k6)
        | (have _t := t3; refine wpList_append_where rfl _ _ 27 rfl (g2 + 1) 3 i0 (.int .i64 0) 1 8 Tryd.underlying27 hi hi0 hi1 hi2 rfl (by decide) _ _ _ _ rfl OT5.out vx L.length vy _ rfl r3.out IV5.out.lies u3.out m3.out m4.out (by omega) ?_; intro ta2 tc2 w6 ho6 hg6 hw6; clear t3; have q6 : Kept (fun k => (Value.slice ta TL.length ct).ownBlock = some k) w5 w6 := (Kept.refl _ w5).grown hg6 (fun k e _ => e); have IZ6 : Hid (Ints w4.heap.size w6 (.slice zx (TL.length + L.length) zy) (TL ++ L)) := hidden (own_kept IZ.out q6 (fun k hk hs => by have h1 := own_ge IZ.out k hk; have h2 := own_lt OT4.out k hs; omega)); have I6 : Hid (Ints (g2 + 1) w6 (.slice ta2 (TL.length + L.length) tc2) (TL ++ L)) := hidden (by unfold Ints; rw [List.length_append, List.map_append]; exact ho6); have K7 := hidden (K6.out.trans' q6 (fun i hi hs => by have := own_ge OT5.out _ hs; omega)); have t4 : True := trivial; clear ho6 hg6 hw6 q6)
        | (go_at_call 9; have _t := t4; refine (sameInts_any (.slice ta2 (TL.length + L.length) tc2) (.slice zx (TL.length + L.length) zy) (TL ++ L) w6 I6.out.cells IZ6.out.cells (by rw [List.length_append]; omega)).mono ?_; rintro e w7 ⟨rfl, k7⟩; clear t4; have K8 := hidden (K7.out.trans k7); clear k7))
      go_returns
      exact ⟨rfl, K0.out.trans K8.out⟩
end Go.Proofs.YtdmekpokgnieeaaDoor
