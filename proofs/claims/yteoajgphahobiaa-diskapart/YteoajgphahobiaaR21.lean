/- The document's disk: Fork. -/
import Derived.Test.YteoajgphahobiaaR19m
namespace Go.Proofs.Yteoajgphahobiaa
open Go.RowKit
set_option linter.unusedVariables false
/-- What stands of the Fork when the first k writes are copied. -/
structure RFk (n c L pb' pc' g2 r wn f : Nat) (lim : Bool) (more : Int) (bs : List UInt8) (pend : List (Nat × List UInt8)) (w : World) (k : Nat) (qv : Value) (wr : World) : Prop where
  ex : ∃ qs, wr.heap[g2]? = some (.cells (RC n c pb' L pc' qv r wn f lim more) 35 (0, 0)) ∧ wr.ownsRow 0 58 2 qv k qs ∧ RQ wr c n qs (pend.take k) ∧ (∀ i, qv.ownBlock = some i → w.heap.size ≤ i) ∧ (∀ u ∈ qs, ∀ i, u.ownBlock = some i → pb' < i)
  pr : PR wr pb' L pc' bs
  same : Same w wr
theorem RFk.step {n c L pb' pc' r wn f k N gu cu gq' qc2 : Nat} {lim : Bool} {more : Int} {bs l : List UInt8} {pend : List (Nat × List UInt8)} {w wr w2 w5 : World} {qa' : Option Addr} {qc' : Nat} {qs' : List Value} (hpb : w.heap.size < pb') (hk : k < pend.length) (hN : pend[k].1 = N) (hl : pend[k].2 = l) (hN3 : N < c) (hN5 : l.length = n)
    (F1 : wr.heap[w.heap.size]? = some (.cells (RC n c pb' L pc' (.slice qa' k qc') r wn f lim more) 35 (0, 0))) (F2 : wr.ownsRow 0 58 2 (.slice qa' k qc') k qs') (F3 : RQ wr c n qs' (pend.take k)) (F4 : ∀ i, (Value.slice qa' k qc').ownBlock = some i → w.heap.size ≤ i) (F5 : ∀ u ∈ qs', ∀ i, u.ownBlock = some i → pb' < i)
    (FP : PR wr pb' L pc' bs) (FS : Same w wr) (K2 : Same wr w2) (hgu : wr.heap.size ≤ gu) (O2 : w2.ownsRow wr.heap.size 5 1 (.slice (some ⟨gu, 0, none⟩) n cu) n (l.map U8)) (B2 : w2.heap[w.heap.size]? = some (.cells (RC n c pb' L pc' (.slice qa' k qc') r wn f lim more) 35 (0, 0)))
    (SB5 : Kept (fun x => (Value.slice qa' k qc').ownBlock = some x) w2 w5) (O5 : w5.ownsRow 0 58 2 (.slice (some ⟨gq', 0, none⟩) (k + 1) qc2) (k + 1) (qs' ++ [.int .i64 (N : Int), .slice (some ⟨gu, 0, none⟩) n cu])) (B5 : w5.heap[w.heap.size]? = some (.cells (RC n c pb' L pc' (.slice qa' k qc') r wn f lim more) 35 (0, 0))) (hat : (Value.slice qa' k qc').ownBlock = some gq' ∨ gq' = w2.heap.size + 1) :
    RFk n c L pb' pc' w.heap.size r wn f lim more bs pend w (k + 1) (.slice (some ⟨gq', 0, none⟩) (k + 1) qc2) (w5.setCell ⟨w.heap.size, 3, none⟩ (.slice (some ⟨gq', 0, none⟩) (k + 1) qc2)) := by
  have ks : Kept (fun x => x = w.heap.size) w5 (w5.setCell ⟨w.heap.size, 3, none⟩ (.slice (some ⟨gq', 0, none⟩) (k + 1) qc2)) := (Kept.refl (fun x => x = w.heap.size) w5).setCell (p := ⟨w.heap.size, 3, none⟩) rfl _
  have F2' := own_kept F2 K2 (fun _ _ h => h)
  have up : ∀ u l, RB w2 u l → RB (w5.setCell ⟨w.heap.size, 3, none⟩ (.slice (some ⟨gq', 0, none⟩) (k + 1) qc2)) u l := fun u l o => by
    have o5 : RB w5 u l := own_kept o SB5 (fun i hi hs => by
      rcases own_rows F2' o (by decide) with hx | hx
      · rw [hs] at hx; cases hx
      · exact hx (by rw [hs, hi]))
    exact own_kept o5 ks (fun i hi e => own_apart o5 B5 (by decide) (by rw [hi, e]))
  have hqn : gq' ≠ w.heap.size := fun e => own_apart O5 B5 (by decide) (by rw [← e]; rfl)
  have hql : qs'.length = k * 2 := F2.1
  have hsz := FS.size
  have hsz2 := K2.size
  have hpl : pb' < wr.heap.size := by
    obtain ⟨cur, hg, _⟩ := FP.open
    exact blk_lt hg
  refine ⟨⟨qs' ++ [.int .i64 (N : Int), .slice (some ⟨gu, 0, none⟩) n cu], blk_set (j := 3) B5 _, own_kept O5 ks (fun i hi e => hqn (by simp [Value.ownBlock] at hi; rw [hi, e])), fun j hj => ?_, fun i hi => ?_, fun u hu i hi => ?_⟩, ?_, ?_⟩
  · have hjl : j < k + 1 := by rw [List.length_take] at hj; omega
    by_cases e : j = k
    · subst e
      refine ⟨.slice (some ⟨gu, 0, none⟩) n cu, ?_, ?_, ?_, ?_, ?_⟩
      · rw [List.getElem?_append_right (by omega), hql, List.getElem_take, hN]
        simp
      · rw [List.getElem?_append_right (by omega), hql, show j * 2 + 1 - j * 2 = 1 by omega]
        rfl
      · rw [List.getElem_take, hl]
        refine up _ _ ?_
        unfold RB
        rw [hN5]
        exact own_base O2
      · rw [List.getElem_take, hN]; exact hN3
      · rw [List.getElem_take, hl]; exact hN5
    · obtain ⟨u, a1, a2, a3, a4, a5⟩ := F3 j (by rw [List.length_take]; omega)
      rw [List.getElem_take] at a1 a3 a4 a5
      refine ⟨u, ?_, ?_, ?_, ?_, ?_⟩
      · rw [List.getElem?_append_left (by omega), List.getElem_take]; exact a1
      · rw [List.getElem?_append_left (by omega)]; exact a2
      · rw [List.getElem_take]; exact up _ _ (a3.same K2)
      · rw [List.getElem_take]; exact a4
      · rw [List.getElem_take]; exact a5
  · simp [Value.ownBlock] at hi
    rcases hat with h | h
    · exact F4 i (by rw [h, hi])
    · omega
  · rcases List.mem_append.1 hu with hu | hu
    · exact F5 u hu i hi
    · rcases List.mem_cons.1 hu with rfl | hu
      · cases hi
      · rw [List.mem_singleton.1 hu] at hi
        simp [Value.ownBlock] at hi
        omega
  · have p2 : PR w2 pb' L pc' bs := FP.kept K2 (fun h => h)
    have p5 : PR w5 pb' L pc' bs := p2.kept SB5 (fun hs => by
      rcases own_rows F2' p2.2 (by decide) with hx | hx
      · rw [hs] at hx; cases hx
      · exact hx (by rw [hs]; rfl))
    exact p5.kept ks (by omega)
  · exact (Kept.trans' (FS.trans K2) SB5 (fun i hi hs => by have := F4 i hs; omega)).setNew (p := ⟨w.heap.size, 3, none⟩) (Nat.le_refl _) _
set_option maxHeartbeats 2000000 in
set_option maxRecDepth 100000 in
theorem rd_fork {A : Nat → Prop} {B n c g pb pc M : Nat} {s : St} {w : World} (h : RD A B n c g pb pc s w) (hM : SB M s) (hm : M ≤ 4398046511102) :
    Calls Try.prog 32 #[.pointer (some ⟨g, 0, none⟩)] w fun e w' => ∃ g' pb' pc', e = .returned (.pointer (some ⟨g', 0, none⟩)) ∧ RD (fun k => k ≤ pb') w.heap.size n c g' pb' pc' s w' ∧ Same w w' := by
  obtain ⟨qv, qs, more, h1, h2, h3, h4, h5, h6, h7⟩ := h.ex
  have hb := h1
  have hm0 := hM.m
  obtain ⟨qa, qc, rfl⟩ := own_form h4
  have hle : n * c ≤ 4096 * 4096 := Nat.mul_le_mul h.hn h.hc
  have hn4 := h.hn
  have hn1 := h.n1
  have hL1 : 1 ≤ n * c := Nat.mul_pos h.n1 h.c1
  have c0 : w.cell? ⟨g, 0, none⟩ = some (.int .i64 n) := blk_cell hb
  have c1 : w.cell? ⟨g, 1, none⟩ = some (.int .i64 c) := blk_cell hb
  have c2 : w.cell? ⟨g, 2, none⟩ = some (.slice (some ⟨pb, 0, none⟩) (n * c) pc) := blk_cell hb
  have c3 : w.cell? ⟨g, 3, none⟩ = some (.slice qa s.pend.length qc) := blk_cell hb
  have c4 : w.cell? ⟨g, 4, none⟩ = some (.int .i64 s.r) := blk_cell hb
  have c5 : w.cell? ⟨g, 5, none⟩ = some (.int .i64 s.wn) := blk_cell hb
  have c6 : w.cell? ⟨g, 6, none⟩ = some (.int .i64 s.f) := blk_cell hb
  have c7 : w.cell? ⟨g, 7, none⟩ = some (.bool s.lim) := blk_cell hb
  have c8 : w.cell? ⟨g, 8, none⟩ = some (.int .i64 more) := blk_cell hb
  have hgl := blk_lt hb
  have hne2 : g ≠ w.heap.size := Nat.ne_of_lt hgl
  have hne3 : w.heap.size ≠ g := hne2.symm
  have HBK : Hid (∀ W, Same w W → W.heap[g]? = some (.cells (RC n c pb (n * c) pc (.slice qa s.pend.length qc) s.r s.wn s.f s.lim more) 35 (0, 0))) := fun W k => blk_kept k (fun h => h) hb
  have HQK : Hid (∀ W, Same w W → W.ownsRow 0 58 2 (.slice qa s.pend.length qc) s.pend.length qs) := fun W k => own_kept h4 k (fun _ _ h => h)
  have HNK : Hid (∀ W, Same w W → RQ W c n qs s.pend) := fun W k => h5.kept k (fun _ _ _ _ h => h)
  have HPR : Hid (∀ W, Same w W → PR W pb (n * c) pc s.pl.flatten) := fun W k => h.pr.kept k (fun h => h)
  have HR := hidden h
  obtain ⟨i0, hi0, hz0, hz1, hz2⟩ := info_parts infoSec
  obtain ⟨i5, hi5, hx0, hx1, hx2⟩ := info_parts info5
  have hbsl : Hid (s.pl.flatten.length = n * c) := h.pr.1
  generalize hL : n * c = L at *
  have m3 : Hid (0 + L ≤ maxLen) := by rw [Hid]; unfold maxLen; omega
  have m4 : Hid ((0 + L) * 1 ≤ 140737488355328) := by rw [Hid]; omega
  have HMD : Hid (∀ o, ((w.alloc o).alloc (.cells #[] 5)).ownsRow (w.heap.size + 1) 5 1 (.slice (some ⟨w.heap.size + 1, 0, none⟩) 0 0) 0 []) := fun o => by
    have z := World.ownsRow_made (e := 5) (size := 1) (base := w.heap.size + 1) (w.alloc o) #[] 0 (by simp) (by decide) (by decide)
    simpa using z
  have H2 := hidden h2
  have H3 := hidden h3
  clear h1 h2 h3 h4 h5 h6 h7 h hb
  go_enter Try.func32, Try.ntmps32
  go_wp2_with (at_builtin; go_must (refine wpList_append_lies _ (by rfl) _ _ 22 (by rfl) (w.heap.size + 1) 5 i5 _ 1 1 Try.underlying22 hi5 hx0 hx1 hx2 rfl (by decide) (.slice (some ⟨w.heap.size + 1, 0, none⟩) 0 0) 0 [] (by rfl) (HMD.out _) ⟨pb, 0, none⟩ L pc (s.pl.flatten.map U8) (by rfl) (by rw [List.length_map, hbsl.out, Nat.mul_one]) (byt_cells (cap := pc) (by rw [hbsl.out]; exact (HPR.out _ (Kept.trans (same_alloc w _) (same_alloc _ _))).byt)) (by intro u hu; obtain ⟨b, _, rfl⟩ := List.mem_map.1 hu; exact U8_one b) (by omega) m3.out m4.out (by simp) (w.heap.size + 2) (by simp) ?_; intro pb' pc' w1 hown hgrow hat hlt); rw [Nat.zero_add, List.nil_append] at hown; have k1 : Same (w.alloc (.cells (RC n c pb L pc (.slice qa s.pend.length qc) s.r s.wn s.f s.lim more) 35)) w1 := ((Kept.refl (fun _ => False) _).alloc _).grown hgrow (fun k hk hl => by simp [Value.ownBlock] at hk; simp at hl; omega); have hpb : w.heap.size < pb' := hat.elim (fun h => by simp [Value.ownBlock] at h; omega) (fun h => by omega); have b1 := blk_kept k1 (fun h => h) (heap_alloc_new w _); have S1 := hidden (Kept.trans (same_alloc w _) k1); have B1 := hidden b1; have O1 := hidden (own_base hown); have x2 : w1.cell? ⟨w.heap.size, 2, none⟩ = some (.slice (some ⟨pb, 0, none⟩) L pc) := blk_cell b1; have y2 : w1.frozen? ⟨w.heap.size, 2, none⟩ = false := blk_free b1; have x3 : w1.cell? ⟨w.heap.size, 3, none⟩ = some (.slice qa s.pend.length qc) := blk_cell b1; have y3 : w1.frozen? ⟨w.heap.size, 3, none⟩ = false := blk_free b1; clear hown hgrow hat k1 b1)
  have HPB := hidden hpb
  have F0 : Hid (RFk n c L pb' pc' w.heap.size s.r s.wn s.f s.lim more s.pl.flatten s.pend w 0 (.slice none 0 0) ((w1.setCell ⟨w.heap.size, 2, none⟩ (.slice (some ⟨pb', 0, none⟩) L pc')).setCell ⟨w.heap.size, 3, none⟩ (.slice none 0 0))) := by
    refine ⟨⟨[], blk_set (j := 3) (blk_set (j := 2) B1.out _) _, World.ownsRow_nil _ _ _ _, (fun k hk => absurd hk (by simp)), (fun k hk => by cases hk), (fun u hu => by cases hu)⟩, ⟨hbsl.out, ?_⟩, (S1.out.setNew (p := ⟨w.heap.size, 2, none⟩) (Nat.le_refl _) _).setNew (p := ⟨w.heap.size, 3, none⟩) (Nat.le_refl _) _⟩
    have Z1 : ∀ W j u, Kept (fun k => k = w.heap.size) W (W.setCell ⟨w.heap.size, j, none⟩ u) := fun W j u => (Kept.refl (fun k => k = w.heap.size) W).setCell (p := ⟨w.heap.size, j, none⟩) rfl u
    exact own_kept (own_kept O1.out (Z1 _ _ _) (fun k hk e => by simp [Value.ownBlock] at hk; omega)) (Z1 _ _ _) (fun k hk e => by simp [Value.ownBlock] at hk; omega)
  clear x2 x3 y2 y3 c0 c1 c2 c3 c4 c5 c6 c7 c8
  go_loopw [4] (fun iv wr => ∃ (k : Nat) (qv' : Value), k ≤ s.pend.length ∧ iv = .int .i64 k ∧ RFk n c L pb' pc' w.heap.size s.r s.wn s.f s.lim more s.pl.flatten s.pend w k qv' wr) (fun iv wr => s.pend.length - (intOf iv).toNat)
  case atStart => exact ⟨0, _, Nat.zero_le _, rfl, F0.out⟩
  case round =>
    obtain ⟨k, qv', hk, rfl, hF⟩ := hrel
    obtain ⟨⟨qs', f1, f2, f3, f4, f5⟩, fp, fS⟩ := id hF
    have FF := hidden hF
    have FS := hidden fS
    have d1 : wr.cell? ⟨g, 3, none⟩ = some (.slice qa s.pend.length qc) := blk_cell (HBK.out wr fS)
    by_cases hlt : k < s.pend.length
    · obtain ⟨u, n1, n2, n4, n3, n5⟩ := HNK.out wr fS k hlt
      obtain ⟨gq, rfl⟩ : ∃ gq : Nat, qa = some ⟨gq, 0, none⟩ := by
        rcases (HQK.out wr fS).2 with ⟨_, h⟩ | ⟨gq, cap, cur, h, _⟩
        · omega
        · exact ⟨gq, by simpa using (Value.slice.inj h).1⟩
      have hqa : ∀ o, (wr.alloc o).ownsRow 0 58 2 (.slice (some ⟨gq, 0, none⟩) s.pend.length qc) s.pend.length qs := fun o => HQK.out _ (Kept.trans fS (same_alloc _ o))
      have z1 := (HQK.out wr fS).cells (g := gq) rfl (k * 2) _ n1
      have z2 := (HQK.out wr fS).cells (g := gq) rfl (k * 2 + 1) _ n2
      have z1a := fun o => (hqa o).cells (g := gq) rfl (k * 2) _ n1
      have z2a := fun o => (hqa o).cells (g := gq) rfl (k * 2 + 1) _ n2
      rw [add_none, Nat.zero_add] at z1 z2
      simp only [add_none, Nat.zero_add] at z1a z2a
      have d1a : ∀ o, (wr.alloc o).cell? ⟨g, 3, none⟩ = some (.slice (some ⟨gq, 0, none⟩) s.pend.length qc) := fun o => blk_cell (HBK.out _ (Kept.trans fS (same_alloc _ o)))
      obtain ⟨qa', qc', rfl⟩ := own_form f2
      have d2 : wr.cell? ⟨w.heap.size, 3, none⟩ = some (.slice qa' k qc') := blk_cell f1
      have d2a : ∀ o, (wr.alloc o).cell? ⟨w.heap.size, 3, none⟩ = some (.slice qa' k qc') := fun o => blk_cell (blk_alloc f1 o)
      obtain ⟨N, hNe⟩ : ∃ N, (s.pend[k]'hlt).1 = N := ⟨_, rfl⟩
      obtain ⟨l, hle'⟩ : ∃ l, (s.pend[k]'hlt).2 = l := ⟨_, rfl⟩
      rw [hNe] at z1 z1a n3
      rw [hle'] at n4 n5
      obtain ⟨bu, bc, rfl⟩ : ∃ bu bc, u = .slice (some ⟨bu, 0, none⟩) n bc := by
        rcases n4.2 with ⟨_, h⟩ | ⟨bu, cap, cur, h, _⟩
        · omega
        · exact ⟨bu, cap, by rw [h, n5]⟩
      have hbc : Hid (∀ o j u, (l.map U8)[j]? = some u → (wr.alloc o).cell? ((⟨bu, 0, none⟩ : Addr).add j) = some u) := fun o => by
        have := byt_cells (w := wr.alloc o) (a := ⟨bu, 0, none⟩) (l := l) (cap := bc) (by rw [n5]; exact n4.byt.same (same_alloc wr o))
        exact this
      have HN5 := hidden n5
      have HN3 := hidden n3
      have HNE := hidden hNe
      have HLE := hidden hle'
      have F1 := hidden f1
      have F2 := hidden f2
      have F3 := hidden f3
      have F4 := hidden f4
      have F5 := hidden f5
      have FP := hidden fp
      have q0 : (0 : Int) ≤ (k : Int) := Int.natCast_nonneg _
      have q1 : (k : Int) < (s.pend.length : Int) := by omega
      have hsz := fS.size
      have m1 : Hid (k + 1 ≤ maxLen) := by rw [Hid]; unfold maxLen; omega
      have m2 : Hid ((k + 1) * 32 ≤ 140737488355328) := by rw [Hid]; omega
      have m5 : Hid (0 + n ≤ maxLen) := by rw [Hid]; unfold maxLen; omega
      have m6 : Hid ((0 + n) * 1 ≤ 140737488355328) := by rw [Hid]; omega
      have HNQ1 : Hid (¬ (Value.slice qa' k qc').ownBlock = some g) := fun e => by have := f4 _ e; omega
      have HNQ2 : Hid (¬ (Value.slice qa' k qc').ownBlock = some gq) := fun e => by have := f4 _ e; have := ((HQK.out w (Kept.refl _ _)).lt gq rfl).2; omega
      have hgq3 : w.heap.size ≠ gq := fun e => by have := ((HQK.out w (Kept.refl _ _)).lt gq rfl).2; omega
      have hq1' : w.heap.size < wr.heap.size := blk_lt f1
      have HLTK := hidden hlt
      clear f1 f2 f3 f4 f5 fp fS hF n1 n2 n3 n4 n5 hNe hle' hqa F0
      go_wp2
      --@region
      have HS : Hid (∀ W, Kept (fun x => (Value.slice qa' k qc').ownBlock = some x ∨ x = w.heap.size) wr W → (fun w' : World => w'.cell? ⟨g, 3, none⟩ = some (.slice (some ⟨gq, 0, none⟩) s.pend.length qc) ∧ w'.cell? ⟨gq, k * 2, none⟩ = some (.int .i64 (N : Int)) ∧ w'.cell? ⟨gq, k * 2 + 1, none⟩ = some (.slice (some ⟨bu, 0, none⟩) n bc)) W) := fun W kk => ⟨Kept.cell kk (fun h => h.elim HNQ1.out (fun e => hne3 e.symm)) d1, Kept.cell kk (fun h => h.elim HNQ2.out (fun e => hgq3 e.symm)) z1, Kept.cell kk (fun h => h.elim HNQ2.out (fun e => hgq3 e.symm)) z2⟩
      have hmx : Try.prog.follows .mixedOrders = true := by kernel_rfl
      have HSZ := hidden hsz
      refine wp_region_held_drew (S := (fun w' : World => w'.cell? ⟨g, 3, none⟩ = some (.slice (some ⟨gq, 0, none⟩) s.pend.length qc) ∧ w'.cell? ⟨gq, k * 2, none⟩ = some (.int .i64 (N : Int)) ∧ w'.cell? ⟨gq, k * 2 + 1, none⟩ = some (.slice (some ⟨bu, 0, none⟩) n bc))) hmx (HS.out _ ((Kept.refl (fun x => (Value.slice qa' k qc').ownBlock = some x ∨ x = w.heap.size) wr).drew)) (fun _ => ?_)
      refine wpAnyH_take (i := 0) (v := (.pointer (some ⟨w.heap.size, 3, none⟩))) rfl (by kernel_rfl) (by kernel_rfl) (by kernel_rfl) (fun _ _ _ h => h) (Or.inl ⟨by rfl, (by intro w hSw; obtain ⟨s1, s2, s3⟩ := hSw; go_simp; try rfl)⟩) (HS.out _ ((Kept.refl (fun x => (Value.slice qa' k qc').ownBlock = some x ∨ x = w.heap.size) wr).drew)) ?_; (try go_simp)
      refine wpAnyH_take (i := 2) (v := (.pointer (some ⟨g, 0, none⟩))) rfl (by kernel_rfl) (by kernel_rfl) (by kernel_rfl) (fun _ _ _ h => h) (Or.inl ⟨by rfl, (by intro w hSw; obtain ⟨s1, s2, s3⟩ := hSw; go_simp; try rfl)⟩) (HS.out _ ((Kept.refl (fun x => (Value.slice qa' k qc').ownBlock = some x ∨ x = w.heap.size) wr).drew)) ?_; (try go_simp)
      refine wpAnyH_take (i := 3) (v := (.pointer (some ⟨g, 0, none⟩))) rfl (by kernel_rfl) (by kernel_rfl) (by kernel_rfl) (fun _ _ _ h => h) (Or.inl ⟨by rfl, (by intro w hSw; obtain ⟨s1, s2, s3⟩ := hSw; go_simp; try rfl)⟩) (HS.out _ ((Kept.refl (fun x => (Value.slice qa' k qc').ownBlock = some x ∨ x = w.heap.size) wr).drew)) ?_; (try go_simp)
      refine wpAnyH_take (i := 4) (v := (.pointer (some ⟨g, 3, none⟩))) rfl (by kernel_rfl) (by kernel_rfl) (by kernel_rfl) (fun _ _ _ h => h) (Or.inl ⟨by rfl, (by intro w hSw; obtain ⟨s1, s2, s3⟩ := hSw; go_simp; try rfl)⟩) (HS.out _ ((Kept.refl (fun x => (Value.slice qa' k qc').ownBlock = some x ∨ x = w.heap.size) wr).drew)) ?_; (try go_simp)
      refine wpAnyH_take (i := 5) (v := (.slice (some ⟨gq, 0, none⟩) s.pend.length qc)) rfl (by kernel_rfl) (by kernel_rfl) (by kernel_rfl) (fun _ _ _ h => h) (Or.inl ⟨by rfl, (by intro w hSw; obtain ⟨s1, s2, s3⟩ := hSw; go_simp; try rfl)⟩) (HS.out _ ((Kept.refl (fun x => (Value.slice qa' k qc').ownBlock = some x ∨ x = w.heap.size) wr).drew)) ?_; (try go_simp)
      refine wpAnyH_take (i := 6) (v := (.int .i64 k)) rfl (by kernel_rfl) (by kernel_rfl) (by kernel_rfl) (fun _ _ _ h => h) (Or.inl ⟨by rfl, (by intro w hSw; obtain ⟨s1, s2, s3⟩ := hSw; go_simp; try rfl)⟩) (HS.out _ ((Kept.refl (fun x => (Value.slice qa' k qc').ownBlock = some x ∨ x = w.heap.size) wr).drew)) ?_; (try go_simp)
      refine wpAnyH_take (i := 7) (v := (.pointer (some ⟨gq, k * 2, none⟩))) rfl (by kernel_rfl) (by kernel_rfl) (by kernel_rfl) (fun _ _ _ h => h) (Or.inl ⟨by rfl, (by intro w hSw; obtain ⟨s1, s2, s3⟩ := hSw; go_simp; try rfl)⟩) (HS.out _ ((Kept.refl (fun x => (Value.slice qa' k qc').ownBlock = some x ∨ x = w.heap.size) wr).drew)) ?_; (try go_simp)
      refine wpAnyH_take (i := 8) (v := (.pointer (some ⟨gq, k * 2, none⟩))) rfl (by kernel_rfl) (by kernel_rfl) (by kernel_rfl) (fun _ _ _ h => h) (Or.inl ⟨by rfl, (by intro w hSw; obtain ⟨s1, s2, s3⟩ := hSw; go_simp; try rfl)⟩) (HS.out _ ((Kept.refl (fun x => (Value.slice qa' k qc').ownBlock = some x ∨ x = w.heap.size) wr).drew)) ?_; (try go_simp)
      refine wpAnyH_take (i := 9) (v := (.int .i64 (N : Int))) rfl (by kernel_rfl) (by kernel_rfl) (by kernel_rfl) (fun _ _ _ h => h) (Or.inl ⟨by rfl, (by intro w hSw; obtain ⟨s1, s2, s3⟩ := hSw; go_simp; try rfl)⟩) (HS.out _ ((Kept.refl (fun x => (Value.slice qa' k qc').ownBlock = some x ∨ x = w.heap.size) wr).drew)) ?_; (try go_simp)
      refine wpAnyH_take (i := 11) (v := (.pointer (some ⟨g, 0, none⟩))) rfl (by kernel_rfl) (by kernel_rfl) (by kernel_rfl) (fun _ _ _ h => h) (Or.inl ⟨by rfl, (by intro w hSw; obtain ⟨s1, s2, s3⟩ := hSw; go_simp; try rfl)⟩) (HS.out _ ((Kept.refl (fun x => (Value.slice qa' k qc').ownBlock = some x ∨ x = w.heap.size) wr).drew)) ?_; (try go_simp)
      refine wpAnyH_take (i := 12) (v := (.pointer (some ⟨g, 0, none⟩))) rfl (by kernel_rfl) (by kernel_rfl) (by kernel_rfl) (fun _ _ _ h => h) (Or.inl ⟨by rfl, (by intro w hSw; obtain ⟨s1, s2, s3⟩ := hSw; go_simp; try rfl)⟩) (HS.out _ ((Kept.refl (fun x => (Value.slice qa' k qc').ownBlock = some x ∨ x = w.heap.size) wr).drew)) ?_; (try go_simp)
      refine wpAnyH_take (i := 13) (v := (.pointer (some ⟨g, 3, none⟩))) rfl (by kernel_rfl) (by kernel_rfl) (by kernel_rfl) (fun _ _ _ h => h) (Or.inl ⟨by rfl, (by intro w hSw; obtain ⟨s1, s2, s3⟩ := hSw; go_simp; try rfl)⟩) (HS.out _ ((Kept.refl (fun x => (Value.slice qa' k qc').ownBlock = some x ∨ x = w.heap.size) wr).drew)) ?_; (try go_simp)
      refine wpAnyH_take (i := 14) (v := (.slice (some ⟨gq, 0, none⟩) s.pend.length qc)) rfl (by kernel_rfl) (by kernel_rfl) (by kernel_rfl) (fun _ _ _ h => h) (Or.inl ⟨by rfl, (by intro w hSw; obtain ⟨s1, s2, s3⟩ := hSw; go_simp; try rfl)⟩) (HS.out _ ((Kept.refl (fun x => (Value.slice qa' k qc').ownBlock = some x ∨ x = w.heap.size) wr).drew)) ?_; (try go_simp)
      refine wpAnyH_take (i := 15) (v := (.int .i64 k)) rfl (by kernel_rfl) (by kernel_rfl) (by kernel_rfl) (fun _ _ _ h => h) (Or.inl ⟨by rfl, (by intro w hSw; obtain ⟨s1, s2, s3⟩ := hSw; go_simp; try rfl)⟩) (HS.out _ ((Kept.refl (fun x => (Value.slice qa' k qc').ownBlock = some x ∨ x = w.heap.size) wr).drew)) ?_; (try go_simp)
      refine wpAnyH_take (i := 16) (v := (.pointer (some ⟨gq, k * 2, none⟩))) rfl (by kernel_rfl) (by kernel_rfl) (by kernel_rfl) (fun _ _ _ h => h) (Or.inl ⟨by rfl, (by intro w hSw; obtain ⟨s1, s2, s3⟩ := hSw; go_simp; try rfl)⟩) (HS.out _ ((Kept.refl (fun x => (Value.slice qa' k qc').ownBlock = some x ∨ x = w.heap.size) wr).drew)) ?_; (try go_simp)
      refine wpAnyH_take (i := 17) (v := (.pointer (some ⟨gq, k * 2 + 1, none⟩))) rfl (by kernel_rfl) (by kernel_rfl) (by kernel_rfl) (fun _ _ _ h => h) (Or.inl ⟨by rfl, (by intro w hSw; obtain ⟨s1, s2, s3⟩ := hSw; go_simp; try rfl)⟩) (HS.out _ ((Kept.refl (fun x => (Value.slice qa' k qc').ownBlock = some x ∨ x = w.heap.size) wr).drew)) ?_; (try go_simp)
      refine wpAnyH_take (i := 18) (v := (.slice (some ⟨bu, 0, none⟩) n bc)) rfl (by kernel_rfl) (by kernel_rfl) (by kernel_rfl) (fun _ _ _ h => h) (Or.inl ⟨by rfl, (by intro w hSw; obtain ⟨s1, s2, s3⟩ := hSw; go_simp; try rfl)⟩) (HS.out _ ((Kept.refl (fun x => (Value.slice qa' k qc').ownBlock = some x ∨ x = w.heap.size) wr).drew)) ?_; (try go_simp)
      refine wpAnyH_ready (rs := [1, 10]) (by kernel_rfl) (by simp) ?_; refine (AllReadyH.cons rfl (fun K hK => ?_) (AllReadyH.cons rfl (fun K hK => ?_) AllReadyH.nil))
      · skip
        go_simp
        refine hK.out _ _ (HS.out _ ((Kept.refl (fun x => (Value.slice qa' k qc').ownBlock = some x ∨ x = w.heap.size) wr).drew)) (fun _ => ?_); clear hK K; (try go_simp)
        refine wpAnyH_ready (rs := [10]) (by kernel_rfl) (by simp) ?_; refine (AllReadyH.cons rfl (fun K hK => ?_) AllReadyH.nil)
        go_simp
        refine hK.out _ _ (HS.out _ (((Kept.refl (fun x => (Value.slice qa' k qc').ownBlock = some x ∨ x = w.heap.size) wr).alloc (.cells #[] 5)).drew)) (fun _ => ?_); clear hK K; (try go_simp)
        refine wpAnyH_ready (rs := [19]) (by kernel_rfl) (by simp) ?_; refine (AllReadyH.cons rfl (fun K hK => ?_) AllReadyH.nil)
        refine step_append_lies _ (by rfl) _ _ 22 (by rfl) wr.heap.size 5 i5 _ 1 1 Try.underlying22 hi5 hx0 hx1 hx2 rfl (by decide) _ _ _ (by rfl) (ownsRow_drew (World.ownsRow_made wr #[] 0 (Nat.le_refl _) (by decide) (by decide))) ⟨bu, 0, none⟩ n bc (l.map U8) (by rfl) (by rw [List.length_map, HN5.out, Nat.mul_one]) (fun j u hu => hbc.out _ j u hu) (by intro u hu; obtain ⟨b, _, rfl⟩ := List.mem_map.1 hu; exact U8_one b) (by omega) m5.out m6.out (by simp) (wr.heap.size + 1) (by simp) ?_
        intro gu cu w2 hown2 hgrow2 hat2 hlt2
        rw [Nat.zero_add, List.nil_append] at hown2
        have k2 : Same wr w2 := ((Kept.refl (fun _ => False) wr).alloc _).drew.grown hgrow2 (fun k hk hl => by simp [Value.ownBlock] at hk; omega)
        have hgu : wr.heap.size ≤ gu := hat2.elim (fun h => by simp [Value.ownBlock] at h; omega) (fun h => by omega)
        have b2 := blk_kept k2 (fun h => h) F1.out
        have e2 : w2.cell? ⟨w.heap.size, 3, none⟩ = some (.slice qa' k qc') := blk_cell b2
        have e2a : ∀ o, (w2.alloc o).cell? ⟨w.heap.size, 3, none⟩ = some (.slice qa' k qc') := (fun o => blk_cell (blk_alloc b2 o))
        have O2 := hidden hown2
        have B2 := hidden b2
        have K2 := hidden k2
        clear hown2 hgrow2 hat2 b2 k2
        refine hK.out _ _ (HS.out _ (K2.out.mono (fun _ _ h => h.elim))) (fun _ => ?_); clear hK K; (try go_simp)
        refine wpAnyH_take (i := 20) (v := (.agg #[.int .i64 (N : Int), .slice (some ⟨gu, 0, none⟩) n cu])) rfl (by kernel_rfl) (by kernel_rfl) (by kernel_rfl) (fun _ _ _ h => h) (Or.inl ⟨by rfl, (by intro w hSw; obtain ⟨s1, s2, s3⟩ := hSw; go_simp; try rfl)⟩) (HS.out _ (K2.out.mono (fun _ _ h => h.elim))) ?_; (try go_simp)
        refine wpAnyH_ready (rs := [21]) (by kernel_rfl) (by simp) ?_; refine (AllReadyH.cons rfl (fun K hK => ?_) AllReadyH.nil)
        go_simp
        refine hK.out _ _ (HS.out _ ((K2.out.mono (fun _ _ h => h.elim)).alloc _)) (fun _ => ?_); clear hK K; (try go_simp)
        refine wpAnyH_ready (rs := [22]) (by kernel_rfl) (by simp) ?_; refine (AllReadyH.cons rfl (fun K hK => ?_) AllReadyH.nil)
        refine step_append_lies _ (by rfl) _ _ 33 (by rfl) 0 58 i0 _ 2 32 Try.underlying33 hi0 hz0 hz1 hz2 rfl (by decide) _ _ _ (by rfl) ((own_kept F2.out K2.out (fun _ _ h => h)).alloc _) ⟨w2.heap.size, 0, none⟩ 1 1 _ (by rfl) (by rfl) (World.news_of_block (show _ = _ from heap_alloc_new w2 (.cells #[.int .i64 (N : Int), .slice (some ⟨gu, 0, none⟩) n cu] 58))) (by simp [Value.oneCell']) (by decide) m1.out m2.out (Nat.zero_le _) (w2.heap.size + 1) (by simp) ?_
        intro gq' qc2 w5 hown5 hgrow5 hat5 hlt5
        have ng := own_apart (own_kept F2.out K2.out (fun _ _ h => h)) B2.out (by decide)
        have b5 : w5.heap[w.heap.size]? = _ := (hgrow5.block w.heap.size (by have := blk_lt B2.out; simp; omega) (Ne.symm ng)).trans (blk_alloc B2.out _)
        have SB5 := hidden (((Kept.refl (fun x => (Value.slice qa' k qc').ownBlock = some x) w2).alloc _).grown hgrow5 (fun k hk _ => hk))
        have K5 : Hid (Kept (fun x => (Value.slice qa' k qc').ownBlock = some x ∨ x = w.heap.size) wr w5) := (K2.out.mono (fun _ _ h => h.elim)).trans (SB5.out.mono (fun _ _ h => Or.inl h))
        have g3 : w5.cell? ⟨w.heap.size, 3, none⟩ = some (.slice qa' k qc') := blk_cell b5
        have y3 : w5.frozen? ⟨w.heap.size, 3, none⟩ = false := blk_free b5
        have B5 := hidden b5
        have O5 := hidden hown5
        have HAT5 := hidden hat5
        clear hown5 hgrow5 hat5 b5 ng
        refine hK.out _ _ (HS.out _ (K5.out)) (fun _ => ?_); clear hK K; (try go_simp)
        refine wpAnyH_take (i := 23) (v := (.pointer (some ⟨w.heap.size, 3, none⟩))) rfl (by kernel_rfl) (by kernel_rfl) (by kernel_rfl) (fun _ _ _ h => h) (Or.inl ⟨by rfl, (by intro w hSw; obtain ⟨s1, s2, s3⟩ := hSw; go_simp; try rfl)⟩) (HS.out _ (K5.out)) ?_; (try go_simp)
        refine wpAnyH_ready (rs := [24]) (by kernel_rfl) (by simp) ?_; refine (AllReadyH.cons rfl (fun K hK => ?_) AllReadyH.nil); go_simp
        refine hK.out _ _ (HS.out _ (K5.out.trans ((Kept.refl (fun x => (Value.slice qa' k qc').ownBlock = some x ∨ x = w.heap.size) _).setCell (p := ⟨w.heap.size, 3, none⟩) (Or.inr rfl) _))) (fun _ => ?_); clear hK K; (try go_simp)
        refine wpAnyH_done (by kernel_rfl) ?_ _
        go_wp2
        have HGU := hidden hgu
        exact ⟨⟨k + 1, .slice (some ⟨gq', 0, none⟩) (k + 1) qc2, by omega, by go_num, RFk.step HPB.out HLTK.out HNE.out HLE.out HN3.out HN5.out F1.out F2.out F3.out F4.out F5.out FP.out FS.out K2.out HGU.out O2.out B2.out SB5.out O5.out B5.out HAT5.out⟩, by simp [intOf]; omega⟩
      · skip
        go_simp
        refine hK.out _ _ (HS.out _ (((Kept.refl (fun x => (Value.slice qa' k qc').ownBlock = some x ∨ x = w.heap.size) wr).alloc (.cells #[] 5)).drew)) (fun _ => ?_); clear hK K; (try go_simp)
        refine wpAnyH_ready (rs := [1, 19]) (by kernel_rfl) (by simp) ?_; refine (AllReadyH.cons rfl (fun K hK => ?_) (AllReadyH.cons rfl (fun K hK => ?_) AllReadyH.nil))
        · skip
          go_simp
          refine hK.out _ _ (HS.out _ (((Kept.refl (fun x => (Value.slice qa' k qc').ownBlock = some x ∨ x = w.heap.size) wr).alloc (.cells #[] 5)).drew)) (fun _ => ?_); clear hK K; (try go_simp)
          refine wpAnyH_ready (rs := [19]) (by kernel_rfl) (by simp) ?_; refine (AllReadyH.cons rfl (fun K hK => ?_) AllReadyH.nil)
          refine step_append_lies _ (by rfl) _ _ 22 (by rfl) wr.heap.size 5 i5 _ 1 1 Try.underlying22 hi5 hx0 hx1 hx2 rfl (by decide) _ _ _ (by rfl) (ownsRow_drew (World.ownsRow_made wr #[] 0 (Nat.le_refl _) (by decide) (by decide))) ⟨bu, 0, none⟩ n bc (l.map U8) (by rfl) (by rw [List.length_map, HN5.out, Nat.mul_one]) (fun j u hu => hbc.out _ j u hu) (by intro u hu; obtain ⟨b, _, rfl⟩ := List.mem_map.1 hu; exact U8_one b) (by omega) m5.out m6.out (by simp) (wr.heap.size + 1) (by simp) ?_
          intro gu cu w2 hown2 hgrow2 hat2 hlt2
          rw [Nat.zero_add, List.nil_append] at hown2
          have k2 : Same wr w2 := ((Kept.refl (fun _ => False) wr).alloc _).drew.grown hgrow2 (fun k hk hl => by simp [Value.ownBlock] at hk; omega)
          have hgu : wr.heap.size ≤ gu := hat2.elim (fun h => by simp [Value.ownBlock] at h; omega) (fun h => by omega)
          have b2 := blk_kept k2 (fun h => h) F1.out
          have e2 : w2.cell? ⟨w.heap.size, 3, none⟩ = some (.slice qa' k qc') := blk_cell b2
          have e2a : ∀ o, (w2.alloc o).cell? ⟨w.heap.size, 3, none⟩ = some (.slice qa' k qc') := (fun o => blk_cell (blk_alloc b2 o))
          have O2 := hidden hown2
          have B2 := hidden b2
          have K2 := hidden k2
          clear hown2 hgrow2 hat2 b2 k2
          refine hK.out _ _ (HS.out _ (K2.out.mono (fun _ _ h => h.elim))) (fun _ => ?_); clear hK K; (try go_simp)
          refine wpAnyH_take (i := 20) (v := (.agg #[.int .i64 (N : Int), .slice (some ⟨gu, 0, none⟩) n cu])) rfl (by kernel_rfl) (by kernel_rfl) (by kernel_rfl) (fun _ _ _ h => h) (Or.inl ⟨by rfl, (by intro w hSw; obtain ⟨s1, s2, s3⟩ := hSw; go_simp; try rfl)⟩) (HS.out _ (K2.out.mono (fun _ _ h => h.elim))) ?_; (try go_simp)
          refine wpAnyH_ready (rs := [21]) (by kernel_rfl) (by simp) ?_; refine (AllReadyH.cons rfl (fun K hK => ?_) AllReadyH.nil)
          go_simp
          refine hK.out _ _ (HS.out _ ((K2.out.mono (fun _ _ h => h.elim)).alloc _)) (fun _ => ?_); clear hK K; (try go_simp)
          refine wpAnyH_ready (rs := [22]) (by kernel_rfl) (by simp) ?_; refine (AllReadyH.cons rfl (fun K hK => ?_) AllReadyH.nil)
          refine step_append_lies _ (by rfl) _ _ 33 (by rfl) 0 58 i0 _ 2 32 Try.underlying33 hi0 hz0 hz1 hz2 rfl (by decide) _ _ _ (by rfl) ((own_kept F2.out K2.out (fun _ _ h => h)).alloc _) ⟨w2.heap.size, 0, none⟩ 1 1 _ (by rfl) (by rfl) (World.news_of_block (show _ = _ from heap_alloc_new w2 (.cells #[.int .i64 (N : Int), .slice (some ⟨gu, 0, none⟩) n cu] 58))) (by simp [Value.oneCell']) (by decide) m1.out m2.out (Nat.zero_le _) (w2.heap.size + 1) (by simp) ?_
          intro gq' qc2 w5 hown5 hgrow5 hat5 hlt5
          have ng := own_apart (own_kept F2.out K2.out (fun _ _ h => h)) B2.out (by decide)
          have b5 : w5.heap[w.heap.size]? = _ := (hgrow5.block w.heap.size (by have := blk_lt B2.out; simp; omega) (Ne.symm ng)).trans (blk_alloc B2.out _)
          have SB5 := hidden (((Kept.refl (fun x => (Value.slice qa' k qc').ownBlock = some x) w2).alloc _).grown hgrow5 (fun k hk _ => hk))
          have K5 : Hid (Kept (fun x => (Value.slice qa' k qc').ownBlock = some x ∨ x = w.heap.size) wr w5) := (K2.out.mono (fun _ _ h => h.elim)).trans (SB5.out.mono (fun _ _ h => Or.inl h))
          have g3 : w5.cell? ⟨w.heap.size, 3, none⟩ = some (.slice qa' k qc') := blk_cell b5
          have y3 : w5.frozen? ⟨w.heap.size, 3, none⟩ = false := blk_free b5
          have B5 := hidden b5
          have O5 := hidden hown5
          have HAT5 := hidden hat5
          clear hown5 hgrow5 hat5 b5 ng
          refine hK.out _ _ (HS.out _ (K5.out)) (fun _ => ?_); clear hK K; (try go_simp)
          refine wpAnyH_take (i := 23) (v := (.pointer (some ⟨w.heap.size, 3, none⟩))) rfl (by kernel_rfl) (by kernel_rfl) (by kernel_rfl) (fun _ _ _ h => h) (Or.inl ⟨by rfl, (by intro w hSw; obtain ⟨s1, s2, s3⟩ := hSw; go_simp; try rfl)⟩) (HS.out _ (K5.out)) ?_; (try go_simp)
          refine wpAnyH_ready (rs := [24]) (by kernel_rfl) (by simp) ?_; refine (AllReadyH.cons rfl (fun K hK => ?_) AllReadyH.nil); go_simp
          refine hK.out _ _ (HS.out _ (K5.out.trans ((Kept.refl (fun x => (Value.slice qa' k qc').ownBlock = some x ∨ x = w.heap.size) _).setCell (p := ⟨w.heap.size, 3, none⟩) (Or.inr rfl) _))) (fun _ => ?_); clear hK K; (try go_simp)
          refine wpAnyH_done (by kernel_rfl) ?_ _
          go_wp2
          have HGU := hidden hgu
          exact ⟨⟨k + 1, .slice (some ⟨gq', 0, none⟩) (k + 1) qc2, by omega, by go_num, RFk.step HPB.out HLTK.out HNE.out HLE.out HN3.out HN5.out F1.out F2.out F3.out F4.out F5.out FP.out FS.out K2.out HGU.out O2.out B2.out SB5.out O5.out B5.out HAT5.out⟩, by simp [intOf]; omega⟩
        · skip
          refine step_append_lies _ (by rfl) _ _ 22 (by rfl) wr.heap.size 5 i5 _ 1 1 Try.underlying22 hi5 hx0 hx1 hx2 rfl (by decide) _ _ _ (by rfl) (ownsRow_drew (World.ownsRow_made wr #[] 0 (Nat.le_refl _) (by decide) (by decide))) ⟨bu, 0, none⟩ n bc (l.map U8) (by rfl) (by rw [List.length_map, HN5.out, Nat.mul_one]) (fun j u hu => hbc.out _ j u hu) (by intro u hu; obtain ⟨b, _, rfl⟩ := List.mem_map.1 hu; exact U8_one b) (by omega) m5.out m6.out (by simp) (wr.heap.size + 1) (by simp) ?_
          intro gu cu w2 hown2 hgrow2 hat2 hlt2
          rw [Nat.zero_add, List.nil_append] at hown2
          have k2 : Same wr w2 := ((Kept.refl (fun _ => False) wr).alloc _).drew.grown hgrow2 (fun k hk hl => by simp [Value.ownBlock] at hk; omega)
          have hgu : wr.heap.size ≤ gu := hat2.elim (fun h => by simp [Value.ownBlock] at h; omega) (fun h => by omega)
          have b2 := blk_kept k2 (fun h => h) F1.out
          have e2 : w2.cell? ⟨w.heap.size, 3, none⟩ = some (.slice qa' k qc') := blk_cell b2
          have e2a : ∀ o, (w2.alloc o).cell? ⟨w.heap.size, 3, none⟩ = some (.slice qa' k qc') := (fun o => blk_cell (blk_alloc b2 o))
          have O2 := hidden hown2
          have B2 := hidden b2
          have K2 := hidden k2
          clear hown2 hgrow2 hat2 b2 k2
          refine hK.out _ _ (HS.out _ (K2.out.mono (fun _ _ h => h.elim))) (fun _ => ?_); clear hK K; (try go_simp)
          refine wpAnyH_take (i := 20) (v := (.agg #[.int .i64 (N : Int), .slice (some ⟨gu, 0, none⟩) n cu])) rfl (by kernel_rfl) (by kernel_rfl) (by kernel_rfl) (fun _ _ _ h => h) (Or.inl ⟨by rfl, (by intro w hSw; obtain ⟨s1, s2, s3⟩ := hSw; go_simp; try rfl)⟩) (HS.out _ (K2.out.mono (fun _ _ h => h.elim))) ?_; (try go_simp)
          refine wpAnyH_ready (rs := [1, 21]) (by kernel_rfl) (by simp) ?_; refine (AllReadyH.cons rfl (fun K hK => ?_) (AllReadyH.cons rfl (fun K hK => ?_) AllReadyH.nil))
          · skip
            go_simp
            refine hK.out _ _ (HS.out _ (K2.out.mono (fun _ _ h => h.elim))) (fun _ => ?_); clear hK K; (try go_simp)
            refine wpAnyH_ready (rs := [21]) (by kernel_rfl) (by simp) ?_; refine (AllReadyH.cons rfl (fun K hK => ?_) AllReadyH.nil)
            go_simp
            refine hK.out _ _ (HS.out _ ((K2.out.mono (fun _ _ h => h.elim)).alloc _)) (fun _ => ?_); clear hK K; (try go_simp)
            refine wpAnyH_ready (rs := [22]) (by kernel_rfl) (by simp) ?_; refine (AllReadyH.cons rfl (fun K hK => ?_) AllReadyH.nil)
            refine step_append_lies _ (by rfl) _ _ 33 (by rfl) 0 58 i0 _ 2 32 Try.underlying33 hi0 hz0 hz1 hz2 rfl (by decide) _ _ _ (by rfl) ((own_kept F2.out K2.out (fun _ _ h => h)).alloc _) ⟨w2.heap.size, 0, none⟩ 1 1 _ (by rfl) (by rfl) (World.news_of_block (show _ = _ from heap_alloc_new w2 (.cells #[.int .i64 (N : Int), .slice (some ⟨gu, 0, none⟩) n cu] 58))) (by simp [Value.oneCell']) (by decide) m1.out m2.out (Nat.zero_le _) (w2.heap.size + 1) (by simp) ?_
            intro gq' qc2 w5 hown5 hgrow5 hat5 hlt5
            have ng := own_apart (own_kept F2.out K2.out (fun _ _ h => h)) B2.out (by decide)
            have b5 : w5.heap[w.heap.size]? = _ := (hgrow5.block w.heap.size (by have := blk_lt B2.out; simp; omega) (Ne.symm ng)).trans (blk_alloc B2.out _)
            have SB5 := hidden (((Kept.refl (fun x => (Value.slice qa' k qc').ownBlock = some x) w2).alloc _).grown hgrow5 (fun k hk _ => hk))
            have K5 : Hid (Kept (fun x => (Value.slice qa' k qc').ownBlock = some x ∨ x = w.heap.size) wr w5) := (K2.out.mono (fun _ _ h => h.elim)).trans (SB5.out.mono (fun _ _ h => Or.inl h))
            have g3 : w5.cell? ⟨w.heap.size, 3, none⟩ = some (.slice qa' k qc') := blk_cell b5
            have y3 : w5.frozen? ⟨w.heap.size, 3, none⟩ = false := blk_free b5
            have B5 := hidden b5
            have O5 := hidden hown5
            have HAT5 := hidden hat5
            clear hown5 hgrow5 hat5 b5 ng
            refine hK.out _ _ (HS.out _ (K5.out)) (fun _ => ?_); clear hK K; (try go_simp)
            refine wpAnyH_take (i := 23) (v := (.pointer (some ⟨w.heap.size, 3, none⟩))) rfl (by kernel_rfl) (by kernel_rfl) (by kernel_rfl) (fun _ _ _ h => h) (Or.inl ⟨by rfl, (by intro w hSw; obtain ⟨s1, s2, s3⟩ := hSw; go_simp; try rfl)⟩) (HS.out _ (K5.out)) ?_; (try go_simp)
            refine wpAnyH_ready (rs := [24]) (by kernel_rfl) (by simp) ?_; refine (AllReadyH.cons rfl (fun K hK => ?_) AllReadyH.nil); go_simp
            refine hK.out _ _ (HS.out _ (K5.out.trans ((Kept.refl (fun x => (Value.slice qa' k qc').ownBlock = some x ∨ x = w.heap.size) _).setCell (p := ⟨w.heap.size, 3, none⟩) (Or.inr rfl) _))) (fun _ => ?_); clear hK K; (try go_simp)
            refine wpAnyH_done (by kernel_rfl) ?_ _
            go_wp2
            have HGU := hidden hgu
            exact ⟨⟨k + 1, .slice (some ⟨gq', 0, none⟩) (k + 1) qc2, by omega, by go_num, RFk.step HPB.out HLTK.out HNE.out HLE.out HN3.out HN5.out F1.out F2.out F3.out F4.out F5.out FP.out FS.out K2.out HGU.out O2.out B2.out SB5.out O5.out B5.out HAT5.out⟩, by simp [intOf]; omega⟩
          · skip
            go_simp
            refine hK.out _ _ (HS.out _ ((K2.out.mono (fun _ _ h => h.elim)).alloc _)) (fun _ => ?_); clear hK K; (try go_simp)
            refine wpAnyH_ready (rs := [1]) (by kernel_rfl) (by simp) ?_; refine (AllReadyH.cons rfl (fun K hK => ?_) AllReadyH.nil)
            go_simp
            refine hK.out _ _ (HS.out _ ((K2.out.mono (fun _ _ h => h.elim)).alloc _)) (fun _ => ?_); clear hK K; (try go_simp)
            refine wpAnyH_ready (rs := [22]) (by kernel_rfl) (by simp) ?_; refine (AllReadyH.cons rfl (fun K hK => ?_) AllReadyH.nil)
            refine step_append_lies _ (by rfl) _ _ 33 (by rfl) 0 58 i0 _ 2 32 Try.underlying33 hi0 hz0 hz1 hz2 rfl (by decide) _ _ _ (by rfl) ((own_kept F2.out K2.out (fun _ _ h => h)).alloc _) ⟨w2.heap.size, 0, none⟩ 1 1 _ (by rfl) (by rfl) (World.news_of_block (show _ = _ from heap_alloc_new w2 (.cells #[.int .i64 (N : Int), .slice (some ⟨gu, 0, none⟩) n cu] 58))) (by simp [Value.oneCell']) (by decide) m1.out m2.out (Nat.zero_le _) (w2.heap.size + 1) (by simp) ?_
            intro gq' qc2 w5 hown5 hgrow5 hat5 hlt5
            have ng := own_apart (own_kept F2.out K2.out (fun _ _ h => h)) B2.out (by decide)
            have b5 : w5.heap[w.heap.size]? = _ := (hgrow5.block w.heap.size (by have := blk_lt B2.out; simp; omega) (Ne.symm ng)).trans (blk_alloc B2.out _)
            have SB5 := hidden (((Kept.refl (fun x => (Value.slice qa' k qc').ownBlock = some x) w2).alloc _).grown hgrow5 (fun k hk _ => hk))
            have K5 : Hid (Kept (fun x => (Value.slice qa' k qc').ownBlock = some x ∨ x = w.heap.size) wr w5) := (K2.out.mono (fun _ _ h => h.elim)).trans (SB5.out.mono (fun _ _ h => Or.inl h))
            have g3 : w5.cell? ⟨w.heap.size, 3, none⟩ = some (.slice qa' k qc') := blk_cell b5
            have y3 : w5.frozen? ⟨w.heap.size, 3, none⟩ = false := blk_free b5
            have B5 := hidden b5
            have O5 := hidden hown5
            have HAT5 := hidden hat5
            clear hown5 hgrow5 hat5 b5 ng
            refine hK.out _ _ (HS.out _ (K5.out)) (fun _ => ?_); clear hK K; (try go_simp)
            refine wpAnyH_take (i := 23) (v := (.pointer (some ⟨w.heap.size, 3, none⟩))) rfl (by kernel_rfl) (by kernel_rfl) (by kernel_rfl) (fun _ _ _ h => h) (Or.inl ⟨by rfl, (by intro w hSw; obtain ⟨s1, s2, s3⟩ := hSw; go_simp; try rfl)⟩) (HS.out _ (K5.out)) ?_; (try go_simp)
            refine wpAnyH_ready (rs := [24]) (by kernel_rfl) (by simp) ?_; refine (AllReadyH.cons rfl (fun K hK => ?_) AllReadyH.nil); go_simp
            refine hK.out _ _ (HS.out _ (K5.out.trans ((Kept.refl (fun x => (Value.slice qa' k qc').ownBlock = some x ∨ x = w.heap.size) _).setCell (p := ⟨w.heap.size, 3, none⟩) (Or.inr rfl) _))) (fun _ => ?_); clear hK K; (try go_simp)
            refine wpAnyH_done (by kernel_rfl) ?_ _
            go_wp2
            have HGU := hidden hgu
            exact ⟨⟨k + 1, .slice (some ⟨gq', 0, none⟩) (k + 1) qc2, by omega, by go_num, RFk.step HPB.out HLTK.out HNE.out HLE.out HN3.out HN5.out F1.out F2.out F3.out F4.out F5.out FP.out FS.out K2.out HGU.out O2.out B2.out SB5.out O5.out B5.out HAT5.out⟩, by simp [intOf]; omega⟩
    · obtain rfl : k = s.pend.length := by omega
      have q1 : ¬ (s.pend.length : Int) < (s.pend.length : Int) := by omega
      clear F0 f1 f2 f3 f4 f5 fp hF fS
      go_wp2
      go_returns
      obtain ⟨⟨qs', f1, f2, f3, f4, f5⟩, fp, fS⟩ := FF.out
      have h := HR.out
      rw [List.take_of_length_le (Nat.le_refl _)] at f3
      have hpb := HPB.out
      have hrd : RD (fun k => k ≤ pb') w.heap.size n c w.heap.size pb' pc' s wr := ⟨⟨qv', qs', more, by rw [hL]; exact f1, H2.out, H3.out, f2, f3, f4, fun u hu i hi (e : i ≤ pb') => by have := f5 u hu i hi; omega⟩, by rw [hL]; exact fp, h.ok, Nat.le_refl _, Nat.le_refl _, by omega, h.n1, h.hn, h.c1, h.hc⟩
      first | exact ⟨_, pb', pc', rfl, hrd, fS⟩ | exact ⟨_, rfl, ⟨pb', pc', hrd⟩, fS⟩
end Go.Proofs.Yteoajgphahobiaa
