/- The program's Cutter, walked: New, made, Write, End (for CutPieces). -/
import Derived.Test.YtdmekpokgnieeaaDoorPcP
import Derived.Test.YtdmekpokgnieeaaDoorL1
namespace Go.Proofs.YtdmekpokgnieeaaDoor
open Go.RowKit Go.WideShapes Go.Shelf
set_option linter.unusedVariables false
attribute [local go_sem ↓] Go.wp_at_zero Go.wp_at_succ
/-- A Cutter in memory: its shape, and the piece that is not told. -/
structure CC (c : Shp) (g len h : Nat) (w : World) : Prop where
  pc : Pc g 4 len h w
  c0 : w.cell? ⟨g, 0, none⟩ = some (.int .i64 c.mn)
  c1 : w.cell? ⟨g, 1, none⟩ = some (.int .i64 c.no)
  c2 : w.cell? ⟨g, 2, none⟩ = some (.int .i64 c.mx)
  c3 : w.cell? ⟨g, 3, none⟩ = some (.int .u64 c.seed)
theorem CC.kept {c : Shp} {g len h : Nat} {w w' : World} (H : CC c g len h w) {S : Nat → Prop} (k : Kept S w w') (hg : ¬ S g) : CC c g len h w' := by
  have hb := k.block g H.pc.lt hg
  have hc : ∀ j, w'.cell? ⟨g, j, none⟩ = w.cell? ⟨g, j, none⟩ := fun j => World.cell?_of_block hb
  have hf : ∀ j, w'.frozen? ⟨g, j, none⟩ = w.frozen? ⟨g, j, none⟩ := fun j => by unfold World.frozen?; rw [hb]
  exact ⟨⟨(hc _).trans H.pc.c0, (hc _).trans H.pc.c1, (hf _).trans H.pc.f0, (hf _).trans H.pc.f1⟩, (hc _).trans H.c0, (hc _).trans H.c1, (hc _).trans H.c2, (hc _).trans H.c3⟩
theorem CC.upd {c : Shp} {g len h len' h' : Nat} {w w' : World} (H : CC c g len h w) (p : Pc g 4 len' h' w') (u : Upd g 4 w w') : CC c g len' h' w' :=
  ⟨p, (u.cell 0 (by decide) (by decide)).trans H.c0, (u.cell 1 (by decide) (by decide)).trans H.c1, (u.cell 2 (by decide) (by decide)).trans H.c2, (u.cell 3 (by decide) (by decide)).trans H.c3⟩
set_option maxHeartbeats 1000000 in
set_option maxRecDepth 100000 in
theorem cutNew_yes (c : Shp) (hc : c.Ok) (w : World) :
    Calls Tryd.prog 11 #[.agg #[.int .i64 c.mn, .int .i64 c.no, .int .i64 c.mx, .int .u64 c.seed]] w fun e w' => ∃ g, e = .returned (.tuple #[.pointer (some ⟨g, 0, none⟩), .int .i64 0]) ∧ w.heap.size ≤ g ∧ CC c g 0 0 w' ∧ Same w w' := by
  have HK := hidden (fun w => check_yes c hc w)
  have K0 : Hid (Same w (w.alloc (.cells #[.int .i64 c.mn, .int .i64 c.no, .int .i64 c.mx, .int .u64 c.seed] 24))) := hidden (same_alloc _ _)
  clear hc
  go_enter Tryd.func11, Tryd.ntmps11
  go_wp2_with (go_at_call 20; refine (HK.out _).mono ?_; rintro e w1 ⟨rfl, k1⟩; have b0 : w1.cell? ⟨w.heap.size, 0, none⟩ = some (.int .i64 c.mn) := box_cell 0 k1 rfl; have b1 : w1.cell? ⟨w.heap.size, 1, none⟩ = some (.int .i64 c.no) := box_cell 1 k1 rfl; have b2 : w1.cell? ⟨w.heap.size, 2, none⟩ = some (.int .i64 c.mx) := box_cell 2 k1 rfl; have b3 : w1.cell? ⟨w.heap.size, 3, none⟩ = some (.int .u64 c.seed) := box_cell 3 k1 rfl; have KW : Hid (Same w w1) := hidden (Kept.trans K0.out k1))
  go_returns
  have hb := blk_new w1 (.cells #[.int .i64 c.mn, .int .i64 c.no, .int .i64 c.mx, .int .u64 c.seed, .int .i64 0, .int .u64 0] 59)
  exact ⟨_, rfl, KW.out.size, ⟨⟨blk_cell hb, blk_cell hb, blk_free hb, blk_free hb⟩, blk_cell hb, blk_cell hb, blk_cell hb, blk_cell hb⟩, KW.out.alloc _⟩
set_option maxHeartbeats 1000000 in
set_option maxRecDepth 100000 in
theorem cutNew_no {mn no mx : Int} (hn : ¬ CutOk mn no mx) (seed : Nat) (w : World) :
    Calls Tryd.prog 11 #[.agg #[.int .i64 mn, .int .i64 no, .int .i64 mx, .int .u64 seed]] w fun e w' => e = .returned (.tuple #[.pointer none, .int .i64 50]) ∧ Same w w' := by
  have HK := hidden (fun w => check_no hn seed w)
  clear hn
  go_enter Tryd.func11, Tryd.ntmps11
  go_wp2_with (go_at_call 20; refine (HK.out _).mono ?_; rintro e w1 ⟨rfl, k1⟩)
  go_returns
  exact ⟨rfl, Kept.trans (same_alloc _ _) k1⟩
set_option maxHeartbeats 1000000 in
theorem cutMade_yes (c : Shp) (hc : c.Ok) {g len h : Nat} {w : World} (H : CC c g len h w) :
    Calls Tryd.prog 25 #[.pointer (some ⟨g, 0, none⟩)] w fun e w' => e = .returned (.bool true) ∧ w = w' := by
  have c2 := H.c2
  have hp : 0 < c.mx := by have := hc.no_ge; have := hc.mx1; omega
  have hq : (0 : Int) < (c.mx : Int) := by omega
  clear H hc
  go_enter Tryd.func25, Tryd.ntmps25
  go_wp2
  go_returns
  exact ⟨rfl, rfl⟩
theorem Upd.grown {g o : Nat} {w w1 w2 : World} {row : Option Nat} (u : Upd g o w w1) (hlt : g < w.heap.size) (hg : w1.grownBy w2 row) (hr : ∀ k, row = some k → w.heap.size ≤ k) : Upd g o w w2 := by
  have hb := hg.block g (Nat.lt_of_lt_of_le hlt u.kept.size) (fun e => by have := hr g e.symm; omega)
  exact ⟨u.kept.grown hg (fun k e hk => by have := hr k e; omega), fun j h1 h2 => (World.cell?_of_block hb).trans (u.cell j h1 h2), fun j => by rw [← u.free j]; unfold World.frozen?; rw [hb]⟩
theorem CC.grown {c : Shp} {g len h : Nat} {w1 w2 : World} {row : Option Nat} (H : CC c g len h w1) (hg : w1.grownBy w2 row) (hr : ∀ k, row = some k → k ≠ g) : CC c g len h w2 :=
  H.kept ((Kept.refl (fun k => row = some k) w1).grown hg (fun k e _ => e)) (fun e => hr g e rfl)
theorem CC.zero {c : Shp} {g len h : Nat} {w : World} (H : CC c g len h w) : CC c g 0 0 ((w.setCell ⟨g, 4, none⟩ (.int .i64 0)).setCell ⟨g, 5, none⟩ (.int .u64 0)) :=
  H.upd (((H.pc.put0 0).put1 0)) ((Upd.put0 g 4 w _).trans (Upd.put1 g 4 _ _))
theorem Shp.sure_len (c : Shp) (hc : c.Ok) (l : List UInt8) : (c.sure l).1.length ≤ l.length := by
  have h := c.lens_sure hc [] l.length l (Nat.le_refl _)
  have h2 := c.lens_len hc l.length l (Nat.le_refl _)
  rw [List.append_nil] at h
  have := congrArg List.length h
  rw [List.length_append] at this
  omega
/-- Of a piece in memory: 1, if it has bytes. -/
def pcV (g : Nat) (w : World) : Nat := match w.cell? ⟨g, 4, none⟩ with
  | some (.int _ n) => if n = 0 then 0 else 1
  | _ => 0
theorem pcV_of {c : Shp} {g len h : Nat} {w : World} (H : CC c g len h w) : pcV g w = if len = 0 then 0 else 1 := by
  unfold pcV
  rw [H.pc.c0]
  simp
/-- What a Write's next step makes of the piece. -/
theorem sure_step (c : Shp) (hc : c.Ok) (r d : List UInt8) (len h : Nat) (hr : c.grow 0 0 r = (r.length, false, len, h)) (hd : d ≠ []) :
    (c.grow len h d).1 ≤ d.length ∧
    ((c.grow len h d).2.1 = true → c.sure (r ++ d) = ((c.grow len h d).2.2.1 :: (c.sure (d.drop (c.grow len h d).1)).1, (c.sure (d.drop (c.grow len h d).1)).2) ∧ (len = 0 → 1 ≤ (c.grow len h d).1)) ∧
    ((c.grow len h d).2.1 = false → (c.grow len h d).1 = d.length ∧ c.grow 0 0 (r ++ d) = ((r ++ d).length, false, (c.grow len h d).2.2.1, (c.grow len h d).2.2.2)) := by
  have ha := grow_append c d r 0 0 len h hr
  have hle := c.grow_le d len h
  have hlr : len = r.length := by have := c.grow_len r 0 0; rw [hr] at this; simpa using this
  have hlen := c.grow_len d len h
  refine ⟨hle, fun ht => ⟨?_, fun h0 => ?_⟩, fun hf => ?_⟩
  · have hs : (c.grow 0 0 (r ++ d)).2.1 = true := by rw [ha]; exact ht
    have hcut : c.cut (r ++ d) = r.length + (c.grow len h d).1 := by unfold Shp.cut; rw [ha]
    rw [c.sure_yes hc (by simp [hd]) hs, hcut, hlen, hlr, ← List.drop_drop, List.drop_left]
  · subst h0
    have hr0 : r = [] := List.eq_nil_of_length_eq_zero hlr.symm
    subst hr0
    have hh : h = 0 := by simp [Shp.grow] at hr; exact hr.2.symm
    subst hh
    exact c.cut_pos hc hd
  · have hn := c.grow_all d len h hf
    refine ⟨hn.1, ?_⟩
    rw [ha, hn.1, List.length_append]
    exact Prod.ext rfl (Prod.ext hf rfl)
structure GrP (c : Shp) (g : Nat) (n : Nat) (t : Bool) (len h : Nat) (w : World) (u : Value) (W : World) : Prop where
  is : u = .tuple #[.int .i64 (n : Nat), .bool t]
  pc : Pc g 4 len h W
  upd : Upd g 4 w W
set_option maxHeartbeats 4000000 in
set_option maxRecDepth 100000 in
theorem cutWrite_any (c : Shp) (hc : c.Ok) {g len h : Nat} {w : World} (H : CC c g len h w) (hT : Tab w) (htg : 1 ≠ g) (rest : List UInt8) (hr : c.grow 0 0 rest = (rest.length, false, len, h)) (v : Value) (l : List UInt8) (hb : Byt w v l) (hl : rest.length + l.length ≤ 1099511627776) :
    Calls Tryd.prog 13 #[.pointer (some ⟨g, 0, none⟩), v] w fun e w' => ∃ u len' h', e = .returned u ∧ Ints w.heap.size w' u (c.sure (rest ++ l)).1 ∧ CC c g len' h' w' ∧ c.grow 0 0 (c.sure (rest ++ l)).2 = ((c.sure (rest ++ l)).2.length, false, len', h') ∧ Upd g 4 w w' := by
  obtain ⟨i0, hi, hz0, hz1, hz2⟩ := info_parts infoInt
  obtain ⟨a, cap, rfl, hcap, hcell⟩ := hb.form
  have HMd := hidden (fun w len h (H : CC c g len h w) => cutMade_yes c hc H)
  have HH := hidden H
  have hsl := c.sure_len hc (rest ++ l)
  rw [List.length_append] at hsl
  have hgl := H.pc.lt
  have HT := hidden hT
  have HTG := hidden htg
  have HC := hidden hc
  have HB := hidden hb
  have HRR := hidden hr
  obtain ⟨Q, hQ⟩ : ∃ Q, c.sure (rest ++ l) = Q := ⟨_, rfl⟩
  have HQ := hidden hQ
  rw [hQ] at hsl ⊢
  clear hcell H hT htg hc hb hr hQ
  go_enter Tryd.func13, Tryd.ntmps13
  go_wp2_with (go_at_call 25; refine (HMd.out _ _ _ HH.out).mono ?_; rintro e w1 ⟨rfl, rfl⟩)
  go_loopw [1, 5] (fun b o wr => ∃ (fr : Nat) (r : List UInt8) (len1 h1 : Nat) (pre : List Nat) (p a7 : Option Addr) (c7 : Nat), fr ≤ l.length ∧ b = .slice p (l.length - fr) (cap - fr) ∧ Byt w b (l.drop fr) ∧ Q = (pre ++ (c.sure (r ++ l.drop fr)).1, (c.sure (r ++ l.drop fr)).2) ∧ c.grow 0 0 r = (r.length, false, len1, h1) ∧ o = .slice a7 pre.length c7 ∧ wr.ownsRow w.heap.size 3 1 o pre.length (pre.map fun (n : Nat) => Value.int .i64 (n : Int)) ∧ CC c g len1 h1 wr ∧ Upd g 4 w wr) (fun b _ wr => 2 * lenV b + pcV g wr)
  case atStart => exact ⟨0, rest, len, h, [], a, none, 0, Nat.zero_le _, rfl, HB.out, by rw [← HQ.out]; rfl, HRR.out, rfl, World.ownsRow_nil _ _ _ _, HH.out, Upd.refl _ _ _⟩
  case round =>
    obtain ⟨fr, r, len1, h1, pre, p, a7, c7, hfr, rfl, hby, hpl, hr1, rfl, hrow, hcc, hu⟩ := hrel
    have HBY := hidden hby
    have HR := hidden hrow
    have HCC := hidden hcc
    have HU := hidden hu
    have hpv := pcV_of hcc
    have HPV := hidden hpv
    by_cases hlt : fr < l.length
    · have hd : l.drop fr ≠ [] := by
        intro h
        have := congrArg List.length h
        rw [List.length_drop] at this
        simp at this
        omega
      obtain ⟨s1, s2, s3⟩ := sure_step c HC.out r (l.drop fr) len1 h1 hr1 hd
      have hml : len1 ≤ c.mx := by have := c.grow_mx r 0 0 (Nat.zero_le _); rw [hr1] at this; exact this
      have hhl : h1 < 18446744073709551616 := by have := c.grow_hash r 0 0 (by decide); rw [hr1] at this; exact this
      have HF1 := hidden (fun (k : Upd g 4 w wr.drew) => grow_any c HC.out (w := wr.drew) hcc.pc.drew (fun j hj => k.kept.cell (p := ⟨1, j, none⟩) HTG.out (HT.out j hj)) HTG.out (hby.upd HH.out.pc k) (by rw [List.length_drop]; omega) hml hhl)
      obtain ⟨p', hsl', hby'⟩ := HBY.out.tail (i := (c.grow len1 h1 (l.drop fr)).1) (by rw [List.length_drop] at s1; exact s1) _ rfl
      rw [List.drop_drop] at hby'
      have HBY' := hidden hby'
      rw [List.length_drop] at s1
      have S2 := hidden s2
      have S3 := hidden s3
      have HPL := hidden hpl
      have HR1 := hidden hr1
      obtain ⟨b0, b1, b2, b3⟩ := And.intro hcc.c0 (And.intro hcc.c1 (And.intro hcc.c2 hcc.c3))
      clear s2 s3 hby hrow hcc hu hpv hby' hpl hr1 hd hml hhl
      generalize (c.grow len1 h1 (l.drop fr)).1 = m at *
      generalize (c.grow len1 h1 (l.drop fr)).2.1 = t at *
      generalize (c.grow len1 h1 (l.drop fr)).2.2.1 = len2 at *
      generalize (c.grow len1 h1 (l.drop fr)).2.2.2 = h2 at *
      have hpos : (0 : Int) < ((l.length - fr : Nat) : Int) := by omega
      generalize hN : l.length - fr = N at *
      have HN := hidden hN
      clear hN
      cases t
      · go_wp2
        go_region_law (refine step_call rfl 26 #[.pointer (some ⟨g, 4, none⟩), .agg #[.int .i64 c.mn, .int .i64 c.no, .int .i64 c.mx, .int .u64 c.seed], .slice p N (cap - fr)] (fun u W => GrP c g m false len2 h2 wr.drew u W) (by go_simp; try rfl) ((HF1.out HU.out.drew).mono (fun e w' ⟨q1, q2, q3⟩ => ⟨_, q1, ⟨rfl, q2, q3⟩⟩)) ?_; rintro u w2 hu; obtain ⟨rfl, p2, u2⟩ := hu)
        all_goals
          have u2' : Upd g 4 wr w2 := ⟨⟨u2.kept.os, u2.kept.tape, u2.kept.output, u2.kept.size, u2.kept.block⟩, u2.cell, u2.free⟩
          have C2 := hidden (HCC.out.upd p2 u2')
          have U2 := hidden (HU.out.trans u2')
          have O2 := hidden (own_kept HR.out u2'.kept (fun k hk hs => by have h8 := own_ge HR.out k hk; have : k = g := hs; omega))
          clear u2 u2' p2
          go_wp2
          go_roundw
          case rel =>
            obtain ⟨n1, n2⟩ := S3.out (by simp)
            rw [List.length_drop] at n1
            have hfm : fr + m = l.length := by omega
            have hN := HN.out
            refine ⟨fr + m, r ++ l.drop fr, len2, h2, pre, p', a7, c7, by omega, by rw [← hN, Nat.sub_sub, Nat.sub_sub], HBY'.out, ?_, n2, rfl, O2.out, C2.out, U2.out⟩
            rw [HPL.out, hfm, List.drop_of_length_le (Nat.le_refl _), List.append_nil]
          case measure =>
            obtain ⟨n1, n2⟩ := S3.out (by simp)
            rw [List.length_drop] at n1
            have hN := HN.out
            have h7 : pcV g w2 ≤ 1 := by rw [pcV_of C2.out]; split <;> omega
            simp only [lenV]
            omega
      · have hlen : pre.length < Q.1.length := by
          have := HPL.out
          rw [(S2.out rfl).1] at this
          rw [this]
          simp
        have m1 : Hid (pre.length + 1 ≤ maxLen) := by rw [Hid]; unfold maxLen; omega
        have m2 : Hid ((pre.length + 1) * 8 ≤ 140737488355328) := by rw [Hid]; omega
        clear hlen
        go_wp2
        go_region_law (refine step_call rfl 26 #[.pointer (some ⟨g, 4, none⟩), .agg #[.int .i64 c.mn, .int .i64 c.no, .int .i64 c.mx, .int .u64 c.seed], .slice p N (cap - fr)] (fun u W => GrP c g m true len2 h2 wr.drew u W) (by go_simp; try rfl) ((HF1.out HU.out.drew).mono (fun e w' ⟨q1, q2, q3⟩ => ⟨_, q1, ⟨rfl, q2, q3⟩⟩)) ?_; rintro u w2 hu; obtain ⟨rfl, p2, u2⟩ := hu)
        all_goals
          have u2' : Upd g 4 wr w2 := ⟨⟨u2.kept.os, u2.kept.tape, u2.kept.output, u2.kept.size, u2.kept.block⟩, u2.cell, u2.free⟩
          have C2 := hidden (HCC.out.upd p2 u2')
          have U2 := hidden (HU.out.trans u2')
          have O2 := hidden (own_kept HR.out u2'.kept (fun k hk hs => by have h8 := own_ge HR.out k hk; have : k = g := hs; omega))
          have x4 : w2.cell? ⟨g, 4, none⟩ = some (.int .i64 len2) := p2.c0
          clear u2 u2' p2
          go_wp2_with (refine wpList_append_any rfl _ _ 27 rfl w.heap.size 3 i0 (.int .i64 0) 1 8 Tryd.underlying27 hi hz0 hz1 hz2 rfl (by decide) _ _ _ _ rfl (O2.out.alloc _) _ 1 1 [.int .i64 (len2 : Int)] rfl rfl (cell_one _ _ _) (by simp [Value.oneCell']) m1.out m2.out (Nat.le_trans U2.out.kept.size (by simp)) ?_; intro a3 c3 w3 ho3 hg3; have hge : ∀ k, (Value.slice a7 pre.length c7).ownBlock = some k → w.heap.size ≤ k := (fun k hk => own_ge O2.out k hk); have C3 := hidden ((C2.out.kept (same_alloc w2 (.cells #[.int .i64 (len2 : Int)] 3)) (fun h => h)).grown hg3 (fun k hk => by have := hge k hk; omega)); have U3 := hidden ((U2.out.trans (Upd.same (same_alloc w2 (.cells #[.int .i64 (len2 : Int)] 3)) C2.out.pc.lt)).grown hgl hg3 hge); have O3 := hidden ho3; clear ho3 hg3 hge; have y4 : w3.cell? ⟨g, 4, none⟩ = some (.int .i64 len2) := C3.out.pc.c0; have y5 : w3.cell? ⟨g, 5, none⟩ = some (.int .u64 h2) := C3.out.pc.c1; have z4 : w3.frozen? ⟨g, 4, none⟩ = false := C3.out.pc.f0; have z5 : w3.frozen? ⟨g, 5, none⟩ = false := C3.out.pc.f1)
          go_roundw
          case rel =>
            obtain ⟨q1, q2⟩ := S2.out (by simp)
            have hN := HN.out
            have hk9 := (Upd.put0 g 4 w3 (.int .i64 0)).trans (Upd.put1 g 4 _ (.int .u64 0))
            refine ⟨fr + m, [], 0, 0, pre ++ [len2], p', a3, c3, by omega, by rw [← hN, Nat.sub_sub, Nat.sub_sub], HBY'.out, ?_, ?_, by simp, ?_, C3.out.zero, U3.out.trans hk9⟩
            · rw [HPL.out, q1, List.drop_drop]
              simp
            · have := HC.out.no_ge
              have := HC.out.mx1
              simp [Shp.grow]
              omega
            · have h9 := own_kept O3.out hk9.kept (fun k hk hs => by have h8 := own_ge O3.out k hk; have : k = g := hs; omega)
              simpa using h9
          case measure =>
            obtain ⟨q1, q2⟩ := S2.out (by simp)
            have hN := HN.out
            have h7 := pcV_of C3.out.zero
            have h8 := HPV.out
            rw [h7, h8]
            simp only [lenV]
            by_cases h0 : len1 = 0
            · have := q2 h0
              simp [h0]
              omega
            · simp [h0]
              omega
    · obtain rfl : fr = l.length := by omega
      go_wp2
      go_returns
      rw [List.drop_of_length_le (Nat.le_refl _), List.append_nil, c.sure_no (by rw [hr1])] at hpl
      rw [List.append_nil] at hpl
      subst hpl
      exact ⟨_, len1, h1, rfl, HR.out, HCC.out, hr1, HU.out⟩
end Go.Proofs.YtdmekpokgnieeaaDoor
