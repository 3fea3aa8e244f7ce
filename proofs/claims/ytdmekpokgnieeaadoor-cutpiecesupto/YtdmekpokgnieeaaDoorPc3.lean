/- The document's Cutter, walked: Write, End (for CutPieces). -/
import Derived.Test.YtdmekpokgnieeaaDoorPc2
namespace Go.Proofs.YtdmekpokgnieeaaDoor
open Go.RowKit Go.WideShapes Go.Shelf
set_option linter.unusedVariables false
attribute [local go_sem ↓] Go.wp_at_zero Go.wp_at_succ
/-- The document's Cutter in memory. -/
def RB (c : Shp) (g : Nat) (v : Value) (w : World) : Prop := w.heap[g]? = some (.cells #[.int .i64 c.mn, .int .i64 c.no, .int .i64 c.mx, .int .u64 c.seed, v] 43 (0, 0))
theorem RB.byt {c : Shp} {g : Nat} {x : Option Addr} {n m : Nat} {w w' : World} (H : RB c g (.slice x n m) w) (k : Kept (only g) w w') {v : Value} {l : List UInt8} (hb : Byt w v l) : Byt w' v l := by
  refine hb.keep fun b o y hc => k.cell (p := ⟨b, o, none⟩) (fun e => ?_) hc
  have e' : b = g := e
  subst e'
  have h : w.cell? ⟨b, o, none⟩ = (#[.int .i64 c.mn, .int .i64 c.no, .int .i64 c.mx, .int .u64 c.seed, .slice x n m] : Array Value)[o]? := cell_of_row _ _ _ _ _ _ H
  rw [h] at hc
  rcases o with _ | _ | _ | _ | _ | o <;> simp [U8] at hc
theorem RB.kept {c : Shp} {g : Nat} {v : Value} {w w' : World} {S : Nat → Prop} (H : RB c g v w) (k : Kept S w w') (hg : ¬ S g) : RB c g v w' := blk_kept k hg H
theorem RB.lt {c : Shp} {g : Nat} {v : Value} {w : World} (H : RB c g v w) : g < w.heap.size := blk_lt H
set_option maxRecDepth 100000 in
theorem Byt.tailB {w : World} {a : Option Addr} {n cap : Nat} {l : List UInt8} (h : Byt w (.slice a n cap) l) {i : Nat} (hi : i ≤ n) (x : Int) (hx : x = (i : Int)) :
    ∃ p, (∀ W, (Instr.sliceAt 25 (.slice a n cap) (some (.int .i64 x)) none none).run Tryd.prog W = .ok (.slice p (n - i) (cap - i)) W) ∧ Byt w (.slice p (n - i) (cap - i)) (l.drop i) ∧ ∀ ad, p = some ad → ∃ ad0, a = some ad0 ∧ ad.block = ad0.block := by
  obtain ⟨a', cap', h1, h0, h9, h2⟩ := h
  simp only [Value.slice.injEq] at h1
  obtain ⟨rfl, rfl, rfl⟩ := h1
  obtain ⟨i0, hii, hz0, hz1, hz2⟩ := info_parts infoByte
  subst hx
  refine ⟨if cap = i then a else a.map (·.add (i * 1)), fun W => ?_, ?_, ?_⟩
  · have hs : (sizeOf (Tryd.prog.elem 25)).run Tryd.prog W = .ok 1 W := by rw [elemByte]; simp [sizeOf, typeInfo, hii, hz1]
    rw [run_sliceAt_slice (h := Tryd.underlying25), run_slice_l (ht := Tryd.underlying25) (h0 := by omega) (h1 := by omega), hs]
    simp only [sliced, Result.andThen_ok, Int.toNat_natCast]
  · refine ⟨_, _, by rw [List.length_drop], by rw [List.length_drop]; omega, fun hn => ?_, fun hne => ?_⟩
    · by_cases hci : cap = i
      · omega
      · rw [if_neg hci] at hn
        have := h9 (by cases a <;> simp_all)
        omega
    · rw [List.length_drop] at hne
      have hlt : i < l.length := by omega
      obtain ⟨b, off, rfl, hc⟩ := h2 (by omega)
      have hadd : (⟨b, off, none⟩ : Addr).add i = ⟨b, off + i, none⟩ := by unfold Addr.add; split <;> simp_all
      refine ⟨b, off + i, by simp [show ¬ cap = i by omega, hadd], fun j y hj => ?_⟩
      rw [List.getElem?_drop] at hj
      rw [Nat.add_assoc]
      exact hc _ _ hj
  · intro ad had
    by_cases hci : cap = i
    · rw [if_pos hci] at had
      exact ⟨ad, had, rfl⟩
    · rw [if_neg hci] at had
      cases a with
      | none => simp at had
      | some a0 =>
        simp at had
        subst had
        refine ⟨a0, rfl, ?_⟩
        unfold Addr.add
        split <;> rfl
def bV (g : Nat) (w : World) : Nat := match w.cell? ⟨g, 4, none⟩ with
  | some (.slice _ n _) => n
  | _ => 0
theorem bV_of {c : Shp} {g n m : Nat} {x : Option Addr} {w : World} (H : RB c g (.slice x n m) w) : bV g w = n := by
  unfold bV
  rw [show w.cell? ⟨g, 4, none⟩ = some (.slice x n m) from blk_cell H]
set_option maxHeartbeats 4000000 in
set_option maxRecDepth 100000 in
theorem refCutWrite_any (c : Shp) (hc : c.Ok) {g : Nat} {w : World} (a1 : Option Addr) (c1 : Nat) (rest : List UInt8) (H : RB c g (.slice a1 rest.length c1) w) (hr : Byt w (.slice a1 rest.length c1) rest) (v : Value) (l : List UInt8) (hb : Byt w v l) (hl : rest.length + l.length ≤ 1099511627776) :
    Calls Tryd.prog 14 #[.pointer (some ⟨g, 0, none⟩), v] w fun e w' => ∃ u a2 c2, e = .returned u ∧ Ints w.heap.size w' u (c.sure (rest ++ l)).1 ∧ RB c g (.slice a2 (c.sure (rest ++ l)).2.length c2) w' ∧ Byt w' (.slice a2 (c.sure (rest ++ l)).2.length c2) (c.sure (rest ++ l)).2 ∧ (∀ ad, a2 = some ad → w.heap.size ≤ ad.block) ∧ Kept (only g) w w' := by
  obtain ⟨i0, hi, hz0, hz1, hz2⟩ := info_parts infoInt
  obtain ⟨i1, hi1, hy0, hy1, hy2⟩ := info_parts infoByte
  obtain ⟨a, cap, rfl, hcap, hcell⟩ := hb.form
  have hgl := H.lt
  have H0 := H.kept (same_alloc w (.cells #[] 5)) (fun h => h)
  have b4 : (w.alloc (.cells #[] 5)).cell? ⟨g, 4, none⟩ = some (.slice a1 rest.length c1) := blk_cell H0
  have HH := hidden H
  have HRr := hidden hr
  have HB := hidden hb
  have HC := hidden hc
  have hsl := c.sure_len hc (rest ++ l)
  rw [List.length_append] at hsl
  obtain ⟨Q, hQ⟩ : ∃ Q, c.sure (rest ++ l) = Q := ⟨_, rfl⟩
  have HQ := hidden hQ
  rw [hQ] at hsl ⊢
  have r1 : Hid ((rest.map U8).length = rest.length * 1) := by rw [Hid, List.length_map, Nat.mul_one]
  have r2 : Hid ((l.map U8).length = l.length * 1) := by rw [Hid, List.length_map, Nat.mul_one]
  have u1 := hidden (U8_all rest)
  have u2 := hidden (U8_all l)
  have m1 : Hid (0 + rest.length ≤ maxLen) := by rw [Hid]; unfold maxLen; omega
  have m2 : Hid ((0 + rest.length) * 1 ≤ 140737488355328) := by rw [Hid]; omega
  have m3 : Hid (rest.length + l.length ≤ maxLen) := by rw [Hid]; unfold maxLen; omega
  have m4 : Hid ((rest.length + l.length) * 1 ≤ 140737488355328) := by rw [Hid]; omega
  have t1 : True := trivial
  clear H H0 hcell hr hb hc hQ
  go_enter Tryd.func14, Tryd.ntmps14
  go_wp2_with (first
    | (have _t := t1; refine wpList_append_any rfl _ _ 25 rfl w.heap.size 5 i1 (.int .u8 0) 1 1 Tryd.underlying25 hi1 hy0 hy1 hy2 rfl (by decide) _ 0 0 [] rfl (World.ownsRow_made w #[] 0 (Nat.le_refl _) (by decide) (by decide)) a1 rest.length c1 (rest.map U8) rfl r1.out ((HRr.out.same (same_alloc _ _)).lies) u1.out m1.out m2.out (by simp) ?_; intro a2 c2 w2 ho2 hg2; clear t1; rw [Nat.zero_add, List.nil_append] at ho2; have k2 : Same w w2 := ((Kept.refl (fun _ => False) w).alloc _).grown hg2 (fun k hk hl => by simp [Value.ownBlock] at hk; omega); have O2 := hidden ho2; have K2 := hidden k2; have t2 : True := trivial; clear ho2 hg2 k2)
    | (have _t := t2; refine wpList_append_any rfl _ _ 25 rfl w.heap.size 5 i1 (.int .u8 0) 1 1 Tryd.underlying25 hi1 hy0 hy1 hy2 rfl (by decide) _ _ _ _ rfl O2.out a l.length cap (l.map U8) rfl r2.out ((HB.out.same K2.out).lies) u2.out m3.out m4.out K2.out.size ?_; intro a3 c3 w3 ho3 hg3; clear t2; have K3 := hidden (same_grown (m := 0) K2.out O2.out hg3); have X3 : Hid (Byt w3 (.slice a3 (rest.length + l.length) c3) (rest ++ l)) := hidden (Byt.own (B := w.heap.size) (by rw [List.length_append, List.map_append]; exact ho3)); have G3 : Hid (∀ ad, a3 = some ad → w.heap.size ≤ ad.block) := hidden (fun ad e => by rcases ho3.2 with ⟨q1, q2⟩ | ⟨gg, cc, cur, q1, q2, qq⟩; (rw [e] at q1; cases q1); (simp only [Value.slice.injEq] at q1; rw [e] at q1; obtain ⟨q3, _⟩ := q1; cases q3; exact q2)); clear ho3 hg3; have h3 := HH.out.kept K3.out (fun h => h); have x4 : w3.cell? ⟨g, 4, none⟩ = some (.slice a1 rest.length c1) := blk_cell h3; have x5 : w3.frozen? ⟨g, 4, none⟩ = false := blk_free h3; have H3 := hidden h3; clear h3))
  obtain ⟨W4, hW4⟩ : ∃ W4, W4 = w3.setCell ⟨g, 4, none⟩ (.slice a3 (rest.length + l.length) c3) := ⟨_, rfl⟩
  have k4 : Kept (only g) w3 W4 := by rw [hW4]; exact (Kept.refl (only g) w3).setCell (p := ⟨g, 4, none⟩) rfl _
  have h4 : RB c g (.slice a3 (rest.length + l.length) c3) W4 := by rw [hW4]; exact blk_set (j := 4) H3.out (.slice a3 (rest.length + l.length) c3)
  have y4 := H3.out.byt k4 X3.out
  have KW4 : Hid (Kept (only g) w W4) := hidden ((K3.out.mono fun _ _ h => h.elim).trans k4)
  rw [← hW4]
  have H4 := hidden h4
  have Y4 := hidden y4
  have HFi := hidden (fun w v m (hb : Byt w v m) (hl : m.length ≤ 140737488355328) => refFirst_any c HC.out hb hl)
  clear hW4 k4 h4 y4 x4 x5 b4
  go_loopw [5] (fun o wr => ∃ (d : List UInt8) (pre : List Nat) (p a7 : Option Addr) (cp c7 : Nat), RB c g (.slice p d.length cp) wr ∧ Byt W4 (.slice p d.length cp) d ∧ d.length ≤ rest.length + l.length ∧ (∀ ad, p = some ad → w.heap.size ≤ ad.block) ∧ Q = (pre ++ (c.sure d).1, (c.sure d).2) ∧ o = .slice a7 pre.length c7 ∧ wr.ownsRow W4.heap.size 3 1 o pre.length (pre.map fun (n : Nat) => Value.int .i64 (n : Int)) ∧ Kept (only g) W4 wr) (fun _ wr => bV g wr)
  case atStart => exact ⟨rest ++ l, [], a3, none, c3, 0, by rw [List.length_append]; exact H4.out, by rw [List.length_append]; exact Y4.out, by rw [List.length_append]; exact Nat.le_refl _, G3.out, by rw [← HQ.out]; rfl, rfl, World.ownsRow_nil _ _ _ _, Kept.refl _ _⟩
  case round =>
    obtain ⟨d, pre, p, a7, cp, c7, hrb, hby, hdl, hpb, hpl, rfl, hrow, hk⟩ := hrel
    have HPB := hidden hpb
    clear hpb
    have z0 : wr.cell? ⟨g, 0, none⟩ = some (.int .i64 c.mn) := blk_cell hrb
    have z1 : wr.cell? ⟨g, 1, none⟩ = some (.int .i64 c.no) := blk_cell hrb
    have z2 : wr.cell? ⟨g, 2, none⟩ = some (.int .i64 c.mx) := blk_cell hrb
    have z3 : wr.cell? ⟨g, 3, none⟩ = some (.int .u64 c.seed) := blk_cell hrb
    have z4 : wr.cell? ⟨g, 4, none⟩ = some (.slice p d.length cp) := blk_cell hrb
    have hb9 := H4.out.byt hk hby
    have HRB := hidden hrb
    have HR := hidden hrow
    have HK := hidden hk
    have HBY := hidden hby
    by_cases hd : d = []
    · subst hd
      clear hrb hby hk
      go_wp2
      go_returns
      rw [Shp.sure_nil, List.append_nil] at hpl
      subst hpl
      exact ⟨_, p, cp, rfl, own_weak HR.out KW4.out.size, HRB.out, H4.out.byt HK.out HBY.out, HPB.out, KW4.out.trans HK.out⟩
    · have hpos : 0 < d.length := List.length_pos_iff.2 hd
      have hposi : (0 : Int) < (d.length : Int) := by omega
      have HF1 := hidden (HFi.out wr.drew _ _ (hb9.same (Kept.refl _ wr).drew) (by omega))
      have hcl := c.cut_le d
      have hcp := c.cut_pos HC.out hd
      have HD := hidden hd
      obtain ⟨p', hsl', hby', hpb'⟩ := HBY.out.tailB (i := c.cut d) hcl _ rfl
      have HPB' : Hid (∀ ad, p' = some ad → w.heap.size ≤ ad.block) := hidden (fun ad e => by obtain ⟨a0, q1, q2⟩ := hpb' ad e; rw [q2]; exact HPB.out a0 q1)
      clear hpb'
      have HBY' := hidden hby'
      clear hrb hby hk hb9 hby' hd
      cases ht : (c.grow 0 0 d).2.1
      · rw [c.sure_no ht, List.append_nil] at hpl
        have HPL := hidden hpl
        have HTT := hidden ht
        rw [ht] at HF1
        clear hpl ht
        generalize c.cut d = n at *
        go_wp2
        go_region_law (refine step_call rfl 22 #[.agg #[.int .i64 c.mn, .int .i64 c.no, .int .i64 c.mx, .int .u64 c.seed], .slice p d.length cp] (fun u W => u = .tuple #[.int .i64 (n : Nat), .bool false] ∧ Same wr W) (by go_simp; try rfl) (HF1.out.mono (fun e w' ⟨q1, q3⟩ => ⟨_, q1, rfl, ⟨q3.os, q3.tape, q3.output, q3.size, q3.block⟩⟩)) ?_; rintro u w5 ⟨rfl, k5⟩)
        all_goals
          have K5 := hidden k5
          clear k5
          go_wp2
          go_returns
          have hpl := HPL.out
          subst hpl
          exact ⟨_, p, cp, rfl, own_weak (own_kept HR.out K5.out (fun _ _ h => h)) KW4.out.size, HRB.out.kept K5.out (fun h => h), (H4.out.byt HK.out HBY.out).same K5.out, HPB.out, KW4.out.trans (HK.out.trans (K5.out.mono fun _ _ h => h.elim))⟩
      · have hsy := c.sure_yes HC.out HD.out ht
        have hlen : pre.length < Q.1.length := by rw [hpl, hsy]; simp
        have HPL := hidden hpl
        have HSY := hidden hsy
        rw [ht] at HF1
        have m5 : Hid (pre.length + 1 ≤ maxLen) := by rw [Hid]; unfold maxLen; omega
        have m6 : Hid ((pre.length + 1) * 8 ≤ 140737488355328) := by rw [Hid]; omega
        clear hpl hsy ht hlen
        obtain ⟨n, hn⟩ : ∃ n, c.cut d = n := ⟨_, rfl⟩
        have HNN := hidden hn
        rw [hn] at HF1 hsl' HBY' hcl hcp
        clear hn
        go_wp2
        go_region_law (refine step_call rfl 22 #[.agg #[.int .i64 c.mn, .int .i64 c.no, .int .i64 c.mx, .int .u64 c.seed], .slice p d.length cp] (fun u W => u = .tuple #[.int .i64 (n : Nat), .bool true] ∧ Same wr W) (by go_simp; try rfl) (HF1.out.mono (fun e w' ⟨q1, q3⟩ => ⟨_, q1, rfl, ⟨q3.os, q3.tape, q3.output, q3.size, q3.block⟩⟩)) ?_; rintro u w5 ⟨rfl, k5⟩)
        all_goals
          have K5 := hidden k5
          clear k5
          have O5 := hidden (own_kept HR.out K5.out (fun _ _ h => h))
          have R5 := hidden (HRB.out.kept K5.out (fun h => h))
          have hg4 := H4.out.lt
          go_wp2_with (refine wpList_append_any rfl _ _ 27 rfl W4.heap.size 3 i0 (.int .i64 0) 1 8 Tryd.underlying27 hi hz0 hz1 hz2 rfl (by decide) _ _ _ _ rfl (O5.out.alloc _) _ 1 1 [.int .i64 (n : Int)] rfl rfl (cell_one _ _ _) (by simp [Value.oneCell']) m5.out m6.out (Nat.le_trans HK.out.size (Nat.le_trans K5.out.size (by simp))) ?_; intro a8 c8 w6 ho6 hg6; have k6 : Kept (fun k => W4.heap.size ≤ k) w5 w6 := ((Kept.refl (fun k => W4.heap.size ≤ k) w5).alloc _).grown hg6 (fun k e _ => own_ge O5.out k e); have r6 := R5.out.kept k6 (by show ¬ W4.heap.size ≤ g; omega); have x4 : w6.cell? ⟨g, 4, none⟩ = some (.slice p d.length cp) := blk_cell r6; have x5 : w6.frozen? ⟨g, 4, none⟩ = false := blk_free r6; have R6 := hidden r6; have K6 := hidden k6; have O6 := hidden ho6; clear ho6 hg6 k6 r6)
          go_roundw
          case rel =>
            have hk9 := (Kept.refl (only g) w6).setCell (p := ⟨g, 4, none⟩) rfl (.slice p' (d.length - n) (cp - n))
            refine ⟨d.drop n, pre ++ [n], p', a8, cp - n, c8, by rw [List.length_drop]; exact blk_set (j := 4) R6.out (.slice p' (d.length - n) (cp - n)), by rw [List.length_drop]; exact HBY'.out, by rw [List.length_drop]; omega, HPB'.out, ?_, by simp, ?_, ?_⟩
            · rw [HPL.out, HSY.out, HNN.out]
              simp
            · have h9 := own_kept O6.out hk9 (fun k hk hs => by have h8 := own_ge O6.out k hk; have : k = g := hs; omega)
              simpa using h9
            · exact (Kept.trans' (HK.out.trans (K5.out.mono fun _ _ h => h.elim)) K6.out (fun i hi e => by omega)).trans hk9
          case measure =>
            have hz : RB c g (.slice p' (d.length - n) (cp - n)) (w6.setCell ⟨g, 4, none⟩ (.slice p' (d.length - n) (cp - n))) := blk_set (j := 4) R6.out (.slice p' (d.length - n) (cp - n))
            rw [bV_of hz, bV_of HRB.out]
            omega
structure LnP (c : Shp) (l : List UInt8) (w : World) (u : Value) (W : World) : Prop where
  out : ∃ x, u = .tuple #[x, .int .i64 0] ∧ Ints w.heap.size W x (c.lens l) ∧ Same w W
set_option maxHeartbeats 2000000 in
set_option maxRecDepth 100000 in
/-- End: the lengths of the rest; nothing is left. -/
theorem refCutEnd_any (c : Shp) (hc : c.Ok) {g : Nat} {w : World} (a1 : Option Addr) (c1 : Nat) (rest : List UInt8) (H : RB c g (.slice a1 rest.length c1) w) (hr : Byt w (.slice a1 rest.length c1) rest) (hl : rest.length ≤ 1099511627776) :
    Calls Tryd.prog 16 #[.pointer (some ⟨g, 0, none⟩)] w fun e w' => ∃ u, e = .returned u ∧ Ints w.heap.size w' u (c.lens rest) ∧ Kept (only g) w w' := by
  have HLn := hidden (fun W (k : Same w W) => refLengths_yes c hc (hr.same k) hl)
  have z0 : w.cell? ⟨g, 0, none⟩ = some (.int .i64 c.mn) := blk_cell H
  have z1 : w.cell? ⟨g, 1, none⟩ = some (.int .i64 c.no) := blk_cell H
  have z2 : w.cell? ⟨g, 2, none⟩ = some (.int .i64 c.mx) := blk_cell H
  have z3 : w.cell? ⟨g, 3, none⟩ = some (.int .u64 c.seed) := blk_cell H
  have z4 : w.cell? ⟨g, 4, none⟩ = some (.slice a1 rest.length c1) := blk_cell H
  have HH := hidden H
  clear H hr hc
  go_enter Tryd.func16, Tryd.ntmps16
  go_wp2
  go_region_law (refine step_call rfl 8 #[.agg #[.int .i64 c.mn, .int .i64 c.no, .int .i64 c.mx, .int .u64 c.seed], .slice a1 rest.length c1] (fun u W => LnP c rest w u W) (by go_simp; try rfl) ((HLn.out _ (Kept.refl _ w).drew).mono (fun e w' ⟨u, h1, h2, h3⟩ => ⟨_, h1, ⟨u, rfl, h2, ⟨h3.os, h3.tape, h3.output, h3.size, h3.block⟩⟩⟩)) ?_; rintro u w1 hu; obtain ⟨u', rfl, i1, k1⟩ := hu.out; clear hu; obtain ⟨x1, y1, rfl, -, -⟩ := i1.ncs; have r1 := HH.out.kept k1 (fun h => h); have x4 : w1.cell? ⟨g, 4, none⟩ = some (.slice a1 rest.length c1) := blk_cell r1; have x5 : w1.frozen? ⟨g, 4, none⟩ = false := blk_free r1; have R1 := hidden r1; have I1 := hidden i1; have K1 := hidden k1; clear r1 i1 k1)
  all_goals
    go_wp2
    go_returns
    have hk9 := (Kept.refl (only g) w1).setCell (p := ⟨g, 4, none⟩) rfl (.slice none 0 0)
    exact ⟨_, rfl, own_kept I1.out hk9 (fun k hk hs => by have h8 := own_ge I1.out k hk; have h9 := HH.out.lt; have : k = g := hs; omega), (K1.out.mono fun _ _ h => h.elim).trans hk9⟩
end Go.Proofs.YtdmekpokgnieeaaDoor
