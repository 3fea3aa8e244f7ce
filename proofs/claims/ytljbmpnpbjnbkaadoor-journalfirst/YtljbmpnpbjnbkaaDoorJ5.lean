/- journal's Take, walked. -/
import Derived.Test.YtljbmpnpbjnbkaaDoorJT
import Derived.Test.YtljbmpnpbjnbkaaDoorStepC
namespace Go.Proofs.YtljbmpnpbjnbkaaDoor
open Go.RowKit
set_option linter.unusedVariables false

set_option maxHeartbeats 4000000 in
set_option maxRecDepth 100000 in
theorem j_takeR {g : Nat} {s : JSt} {w : World} (h : JW g s w) (hT : Tab w) :
    Calls Tryd.prog 15 #[.pointer (some ⟨g, 0, none⟩)] w fun e w' => ∃ v, e = .returned v ∧ Secs w' v s.taken (s.secs s.many) w.heap.size ∧ JW g s.take w' ∧ Turns g w w' ∧ rowOf w' g 4 = none := by
  have A := hidden (j_made h)
  have HR := hidden (fun w => j_room s.size w h.ok.s1 (by have := h.ok.s0; omega))
  have hlt := h.lt
  obtain ⟨⟨v, hb, ho⟩, hok⟩ := h
  have c4 : w.cell? ⟨g, 4, none⟩ = some v := blk_cell hb
  have Hb := hidden hb
  have Ho := hidden ho
  have Hok := hidden hok
  have HT := hidden hT
  obtain ⟨i0, hi, hz0, hz1, hz2⟩ := info_parts infoSec
  clear hb ho hok hT
  go_enter Tryd.func15, Tryd.ntmps15
  go_wp2_with (go_at_call 31; refine (A.out).mono ?_; rintro e w1 ⟨rfl, rfl⟩)
  go_loopw [3, 4] (fun l r wr => ∃ k : Nat, k ≤ s.many ∧
      (k < s.many ∧ (∃ rb cap, r = .slice (some ⟨rb, k * s.room, none⟩) (s.bs.length - k * s.room) cap ∧ v.ownBlock = some rb ∧ s.bs.length - k * s.room ≤ cap ∧ cap ≤ maxLen) ∨ k = s.many ∧ ∃ a cap, r = .slice a 0 cap) ∧
      wr.heap[g]? = some (.cells #[.int .i64 s.size, .int .i64 s.sectors, .int .u64 s.gen, .int .i64 ((s.taken + k : Nat) : Int), v, .int .i64 s.recs] 63 (0, 0)) ∧
      Kept (fun i => i = g) w wr ∧ Secs wr l s.taken (s.secs k) w.heap.size) (fun l r wr => match r with | .slice _ n _ => n | _ => 0)
  case atStart =>
    refine ⟨0, Nat.zero_le _, ?_, by simpa using Hb.out, Kept.refl _ _, Secs.nil _ _ _⟩
    by_cases hz : 0 < s.many
    · have h0 := (JSt.many_lt Hok.out 0).1 hz
      refine Or.inl ⟨hz, ?_⟩
      rcases Ho.out.2 with ⟨_, h2⟩ | ⟨g', cap, cur, h1, _, _, h3, h4, _⟩
      · omega
      · exact ⟨g', cap, by rw [h1]; simp, by rw [h1]; rfl, by simpa using h3, h4⟩
    · refine Or.inr ⟨by omega, ?_⟩
      have h0 : s.bs.length = 0 := by
        have := mt (JSt.many_lt Hok.out 0).2 hz
        omega
      obtain ⟨a, cap, e⟩ := own_form Ho.out
      exact ⟨a, cap, by rw [e, h0]⟩
  case round =>
    obtain ⟨k, hk, hr, hb, hK, hS⟩ := hrel
    rcases hr with ⟨hkl, rb, cap, rfl, hrb, hcap, hmax⟩ | ⟨rfl, a, cap, rfl⟩
    · have hpos := (JSt.many_lt Hok.out k).1 hkl
      obtain ⟨m, hm⟩ : ∃ m : Nat, m = min (s.bs.length - k * s.room) s.room := ⟨_, rfl⟩
      have hmin : min ((s.bs.length - k * s.room : Nat) : Int) ((s.size - 24 : Nat) : Int) = (m : Int) := by rw [hm]; unfold JSt.room; omega
      have hroom := Hok.out.room
      have hm1 : m ≤ s.bs.length - k * s.room := by omega
      have hm2 : m ≤ s.room := by omega
      have hm3 : 0 < m := by omega
      have hsec : ∀ W : World, Kept (fun i => i = g) w W → Calls Tryd.prog 39 #[.int .i64 s.size, .int .u64 s.gen, .int .i64 ((s.taken + k : Nat) : Int), .slice (some ⟨rb, k * s.room, none⟩) m m] W fun e w' => ∃ u, e = .returned u ∧ Own w' u (s.sec k) W.heap.size ∧ Same W w' := fun W hW => by
        have hrow : W.ownsRow 0 5 1 v s.bs.length (s.bs.map U8) := own_kept Ho.out hW (fun i hi e => own_apart Ho.out Hb.out (by decide) (by rw [hi, e]))
        have e : m = ((s.bs.drop (k * s.room)).take s.room).length := by rw [List.length_take, List.length_drop, hm, Nat.min_comm]
        refine sectorOf_any s.size s.gen (s.taken + k) _ ((s.bs.drop (k * s.room)).take s.room) W (HT.out.kept hW (fun e => ?_)) ?_ Hok.out.s0 Hok.out.s1 Hok.out.g (by have := Hok.out.many; have := Hok.out.n1; omega) (by rw [← e]; unfold JSt.room at hm2; have := Hok.out.s0; omega)
        · have h0 := HT.out 0 (by decide)
          have h0' : w.cell? ⟨g, 0, none⟩ = some (.int .i64 s.size) := blk_cell Hb.out
          rw [← e] at h0'
          rw [h0'] at h0
          simp at h0
        · refine Or.inr ⟨_, _, by rw [← e], fun j hj => ?_⟩
          have hc := hrow.cells (g := rb) hrb (k * s.room + j) (U8 ((s.bs.drop (k * s.room)).take s.room)[j]) (by
            rw [List.getElem_take, List.getElem_drop, List.getElem?_map, List.getElem?_eq_getElem (by rw [← e] at hj; omega)]
            rfl)
          rw [add_none] at hc ⊢
          rw [Nat.zero_add] at hc
          exact hc
      have c0 : wr.cell? ⟨g, 0, none⟩ = some (.int .i64 s.size) := blk_cell hb
      have c2 : wr.cell? ⟨g, 2, none⟩ = some (.int .u64 s.gen) := blk_cell hb
      have c3 : wr.cell? ⟨g, 3, none⟩ = some (.int .i64 ((s.taken + k : Nat) : Int)) := blk_cell hb
      have hgl := blk_lt hb
      obtain ⟨us, us1, us2, us3⟩ := hS
      have U2 := hidden us2
      have U3 := hidden us3
      have HSec := hidden hsec
      have HK := hidden hK
      have HB := hidden hb
      have hsl := s.secs_len k
      have U1 := hidden us1
      have hb1 : Hid ((s.secs k).length + 1 ≤ maxLen) := by rw [Hid, hsl]; unfold maxLen; have := Hok.out.many; have := Hok.out.n1; omega
      have hb2 : Hid (((s.secs k).length + 1) * 32 ≤ 140737488355328) := by rw [Hid, hsl]; have := Hok.out.many; have := Hok.out.n1; omega
      have hbase : Hid (w.heap.size ≤ wr.heap.size) := hK.size
      have HM := hidden hm
      have q0 : (0 : Int) ≤ (m : Int) := Int.natCast_nonneg _
      have q1 : (m : Int) ≤ (cap : Int) := by omega
      have q2 : (0 : Int) < ((s.bs.length - k * s.room : Nat) : Int) := by omega
      have q3 : (m : Int) ≤ ((s.bs.length - k * s.room : Nat) : Int) := by omega
      generalize hln : s.bs.length - k * s.room = ln at *
      generalize hof : k * s.room = off at *
      generalize htk : s.taken + k = tk at *
      generalize hR : s.size - 24 = R at *
      have HRB := hidden hrb
      have HMX := hidden hmax
      have HR1 := hidden hroom
      clear hsec hK hb us1 us2 us3 hm hroom hm2 hpos hrb hmax
      go_wp2_with (go_at_call 38; refine (HR.out _).mono ?_; rintro e w1 ⟨rfl, rfl⟩)
      go_region_held3 (fun w' => w'.cell? ⟨g, 0, none⟩ = some (.int .i64 s.size) ∧ w'.cell? ⟨g, 2, none⟩ = some (.int .u64 s.gen) ∧ w'.cell? ⟨g, 3, none⟩ = some (.int .i64 (tk : Int)))
        (first | go_keep | (go_split_ands; exact ⟨by assumption, by assumption, by assumption⟩))
        ((first
          | (go_at_call 39; refine (HSec.out _ HK.out.drew).mono ?_; rintro e w2 ⟨u, rfl, hu, k2'⟩; have k2 : Same wr w2 := Kept.trans ((Kept.refl _ wr).drew) k2'; clear k2'; obtain ⟨ua, uc, hue⟩ := hu.byt.form; subst hue; have b2 := blk_kept k2 (fun h => h) HB.out; have d0 : w2.cell? ⟨g, 0, none⟩ = some (.int .i64 s.size) := blk_cell b2; have d2 : w2.cell? ⟨g, 2, none⟩ = some (.int .u64 s.gen) := blk_cell b2; have d3 : w2.cell? ⟨g, 3, none⟩ = some (.int .i64 (tk : Int)) := blk_cell b2)
          | (refine step_append_lies _ (by rfl) _ _ 36 (by rfl) w.heap.size 41 i0 _ 2 32 Tryd.underlying36 hi hz0 hz1 hz2 rfl (by omega) _ _ _ (by rfl) ((own_kept U2.out k2 (fun _ _ h => h)).alloc _) ⟨w2.heap.size, 0, none⟩ 1 1 _ (by rfl) (by rfl) (World.news_of_block (heap_alloc_new w2 _)) (by simp [Value.oneCell']) (by omega) hb1.out hb2.out (by have := hbase.out; have := k2.size; simp at this ⊢; omega) (w2.heap.size + 1) (by simp) ?_; intro gg cap5 w5 hown5 hgrow5 hat5 hlt5; have ne5 := own_apart U2.out HB.out (by decide); have b5 : w5.heap[g]? = _ := (hgrow5.block g (by have := blk_lt b2; simp; omega) (Ne.symm ne5)).trans (blk_alloc b2 _); have e0 : w5.cell? ⟨g, 0, none⟩ = some (.int .i64 s.size) := blk_cell b5; have e2 : w5.cell? ⟨g, 2, none⟩ = some (.int .u64 s.gen) := blk_cell b5; have e3 : w5.cell? ⟨g, 3, none⟩ = some (.int .i64 (tk : Int)) := blk_cell b5; have f3 : w5.frozen? ⟨g, 3, none⟩ = false := blk_free b5; have B5 := hidden b5; clear b5)))
      have hown6 : w5.ownsRow w.heap.size 41 2 (.slice (some ⟨gg, 0, none⟩) ((s.secs k).length + 1) cap5) ((s.secs k).length + 1) (secCells s.taken us ++ [.int .i64 ((s.taken + (s.secs k).length : Nat) : Int), .slice ua (s.sec k).length uc]) := by
        rw [show s.taken + (s.secs k).length = tk by rw [hsl, htk]]
        exact hown5
      have hSn := hidden (Secs.snoc (b := s.sec k) U1.out ((own_kept U2.out k2 (fun _ _ h => h)).alloc (.cells #[.int .i64 (tk : Int), .slice ua (s.sec k).length uc] 41)) (fun i h h' => ((U3.out i h h').same k2).same (same_alloc _ _)) ((hu.same (same_alloc _ _)).weak hbase.out) hgrow5 hown6)
      have hfin : ∀ c : Value, c = .int .i64 ((s.taken + (k + 1) : Nat) : Int) → (w5.setCell ⟨g, 3, none⟩ c).heap[g]? = some (.cells #[.int .i64 s.size, .int .i64 s.sectors, .int .u64 s.gen, .int .i64 ((s.taken + (k + 1) : Nat) : Int), v, .int .i64 s.recs] 63 (0, 0)) ∧
          Kept (fun i => i = g) w (w5.setCell ⟨g, 3, none⟩ c) ∧ Secs (w5.setCell ⟨g, 3, none⟩ c) (.slice (some ⟨gg, 0, none⟩) ((s.secs k).length + 1) cap5) s.taken (s.secs (k + 1)) w.heap.size := by
        rintro c rfl
        have K5 : Kept (fun i => i = g) w w5 := (((HK.out.trans' k2 (fun _ _ h => h.elim)).alloc _).grown hgrow5 (fun i hi hl => by have := (U2.out.lt i hi).1; omega))
        refine ⟨by simpa using blk_set (j := 3) B5.out (.int .i64 ((s.taken + (k + 1) : Nat) : Int)), K5.setCell (p := ⟨g, 3, none⟩) rfl _, ?_⟩
        rw [JSt.secs_succ]
        exact hSn.out.kept ((Kept.refl (fun i => i = g) w5).setCell (p := ⟨g, 3, none⟩) rfl _) (fun i hB hi e => by omega)
      have HF := hidden hfin
      have hty : Value.int .i64 ((tk : Int) + 1) = .int .i64 ((s.taken + (k + 1) : Nat) : Int) := by rw [show ((s.taken + (k + 1) : Nat) : Int) = (tk : Int) + 1 by omega]
      have HTY := hidden hty
      clear hty
      have hm0 : m = min ln s.room := HM.out
      have hmany : k + 1 < s.many ↔ off + s.room < s.bs.length := by rw [JSt.many_lt Hok.out, Nat.add_mul, hof, Nat.one_mul]
      have hoff : (k + 1) * s.room = off + s.room := by rw [Nat.add_mul, hof, Nat.one_mul]
      have HX := hidden hmany
      have HY := hidden hoff
      have HMn := hidden hm0
      have htb : tk ≤ 4096 := by have := Hok.out.many; have := Hok.out.n1; omega
      clear hfin hmany hoff hm0 hSn hown5 hown6 hgrow5
      by_cases hcm : cap = m
      · subst hcm
        go_wp2
        go_roundw
        case rel =>
          obtain ⟨x1, x2, x3⟩ := HF.out _ HTY.out
          rw [JSt.secs_len] at x3
          have hm0 := HMn.out
          have hx := HX.out
          exact ⟨k + 1, by omega, Or.inr ⟨by omega, _, _, rfl⟩, x1, x2, x3⟩
        case measure => simp only; omega
      · go_wp2
        go_roundw
        case rel =>
          obtain ⟨x1, x2, x3⟩ := HF.out _ HTY.out
          rw [JSt.secs_len] at x3
          have hm0 := HMn.out
          have hx := HX.out
          by_cases hl : k + 1 < s.many
          · have hmr : m = s.room := by omega
            have hmx := HMX.out
            refine ⟨k + 1, by omega, Or.inl ⟨hl, rb, cap - m, ?_, HRB.out, ?_, by omega⟩, x1, x2, x3⟩
            · rw [HY.out, hmr, show s.bs.length - (off + s.room) = ln - s.room by omega]
            · rw [HY.out]; omega
          · refine ⟨k + 1, by omega, Or.inr ⟨by omega, some ⟨rb, off + m, none⟩, cap - m, ?_⟩, x1, x2, x3⟩
            rw [show ln - m = 0 by omega]
        case measure => simp only; omega
    · have f4 : wr.frozen? ⟨g, 4, none⟩ = false := blk_free hb
      have c4' : wr.cell? ⟨g, 4, none⟩ = some v := blk_cell hb
      have HK := hidden hK
      have HS := hidden hS
      have HB := hidden hb
      clear hK hS hb
      go_wp2
      go_returns
      have hb2 : (wr.setCell ⟨g, 4, none⟩ (.slice none 0 0)).heap[g]? = _ := blk_set (j := 4) HB.out (.slice none 0 0)
      refine ⟨_, rfl, HS.out.kept ((Kept.refl (fun i => i = g) wr).setCell (p := ⟨g, 4, none⟩) rfl _) (fun i hB hi e => by omega), ⟨⟨.slice none 0 0, by simpa [JSt.take] using hb2, World.ownsRow_nil _ _ _ _⟩, JSt.take_ok Hok.out⟩, ⟨?_, ?_⟩, ?_⟩
      · exact (HK.out.mono (fun i _ e => Or.inl e)).setCell (p := ⟨g, 4, none⟩) (Or.inl rfl) _
      · intro i hi hr
        unfold rowOf at hr
        rw [blk_cell hb2] at hr
        simp [Value.ownBlock] at hr
      · unfold rowOf
        rw [blk_cell hb2]
        rfl
theorem j_take {g : Nat} {s : JSt} {w : World} (h : JW g s w) (hT : Tab w) :
    Calls Tryd.prog 15 #[.pointer (some ⟨g, 0, none⟩)] w fun e w' => ∃ v, e = .returned v ∧ Secs w' v s.taken (s.secs s.many) w.heap.size ∧ JW g s.take w' ∧ Turns g w w' :=
  (j_takeR h hT).mono (fun e w' ⟨v, h1, h2, h3, h4, _⟩ => ⟨v, h1, h2, h3, h4⟩)
end Go.Proofs.YtljbmpnpbjnbkaaDoor
