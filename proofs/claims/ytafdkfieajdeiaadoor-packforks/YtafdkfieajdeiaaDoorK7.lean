/- pack: Append of a chunk for which there is room. -/
import Derived.Test.YtafdkfieajdeiaaDoorK6
namespace Go.Proofs.YtafdkfieajdeiaaDoor
open Go.RowKit
set_option linter.unusedVariables false
set_option maxHeartbeats 4000000 in
set_option maxRecDepth 100000 in
theorem p_appendYes {g : Nat} {s : PSt} {w : World} (h : PW g s w) (hT : Tab w) (v : Value) (c : List UInt8) (hb : Bt w v c) (hv : ∀ i, v.ownBlock = some i → ¬ pS g w i) (he : s.appErr c.length = 0) :
    Calls Tryd.prog 13 #[.pointer (some ⟨g, 0, none⟩), v] w fun e w' => e = .returned (.tuple #[.agg #[.int .i64 (s.bs.length + 8 : Nat), .int .i64 (c.length : Nat)], .int .i64 0]) ∧ PW g (s.app c) w' ∧ Turns g w w' := by
  have hf : s.shut = false := by
    cases hs : s.shut
    · rfl
    · unfold PSt.appErr at he; rw [hs] at he; cases he
  have hc0 : c.length ≠ 0 := by
    intro e
    unfold PSt.appErr at he; rw [hf, e] at he; cases he
  have hl : c.length ≤ s.left := by
    refine Nat.le_of_not_lt fun e => ?_
    unfold PSt.appErr at he; rw [hf, if_neg (by simp), if_neg hc0, if_pos e] at he; cases he
  have hl2 : s.left ≤ 262144 := by
    unfold PSt.left
    have := h.ok.room
    split
    · omega
    · omega
  have hbl : s.bs.length ≤ 262144 := by have := h.ok.room; have := h.ok.b1; omega
  have hch := h.ok.many
  have hsl : s.slots.length = s.chunks.length := slotsFrom_len _ _
  have hap := PSt.app_ok h.ok c
  have hsp : s.app c = { s with chunks := s.chunks ++ [c] } := by unfold PSt.app; rw [if_pos he]
  obtain ⟨i0, hi, hz0, hz1, hz2⟩ := info_parts info5
  obtain ⟨i1, hi1, hy0, hy1, hy2⟩ := info_parts infoSlot
  obtain ⟨ao, cap, rfl, hcap⟩ := hb.form
  have A := hidden (fun W (k : Same w W) => p_made (h.same k))
  have L := hidden (fun W (k : Same w W) => p_left (h.same k))
  have HH : Hid (∀ W, Same w W → Calls Tryd.prog 41 #[.slice ao c.length cap] W fun e w' => e = .returned (.string ⟨(slotB c).toArray⟩) ∧ Same W w') := hidden (fun W k => slotHeadOf_any _ c W (hT.same k) (hb.same k) (by omega))
  have hsb : (⟨(slotB c).toArray⟩ : ByteArray).size = 8 := by rw [ba_size, slotB_len]
  obtain ⟨⟨vb, vs, hB, hO, hS⟩, hok, hnt⟩ := h
  have c4 : ∀ W, Same w W → W.cell? ⟨g, 4, none⟩ = some (.bool false) := fun W k => by have := blk_cell (j := 4) (blk_kept k (fun h => h) hB); rw [this]; simp [PCells, hf]
  have c40 := c4 _ (same_alloc w (.cells #[.int .i64 0, .int .i64 0] 34))
  have HB := hidden hB
  have HO := hidden hO
  have HS := hidden hS
  have HV := hidden hv
  have HBt := hidden hb
  have HAP := hidden hap
  have HSP := hidden hsp
  have HSB := hidden hsb
  have HLT := hidden (blk_lt hB)
  have HNT := hidden hnt
  have HSA : Hid (∀ {x : Nat}, w.heap.size ≤ x → vs.ownBlock ≠ some w.heap.size) := fun _ e => by have := hS.lt e; omega
  have hmx : Tryd.prog.follows .mixedOrders = true := by kernel_rfl
  have m1 : Hid (s.bs.length + (⟨(slotB c).toArray⟩ : ByteArray).size ≤ maxLen) := by rw [Hid, hsb]; unfold maxLen; omega
  have m2 : Hid (s.bs.length + (⟨(slotB c).toArray⟩ : ByteArray).size ≤ 140737488355328) := by rw [Hid, hsb]; omega
  clear c4 hB hO hS hv hb hap hsb hT he hsp hok hnt hf
  go_enter Tryd.func13, Tryd.ntmps13
  go_wp2_with (first
    | (go_at_call 38; refine (A.out _ (same_alloc _ _)).mono ?_; rintro e w0 ⟨rfl, rfl⟩)
    | (go_at_call 32; refine (L.out _ (same_alloc _ _)).mono ?_; rintro e w1 ⟨rfl, k1⟩; have K1 := hidden (Kept.trans (same_alloc w _) k1); have R1 := hidden (blk_kept k1 (fun h => h) (blk_new w _)); clear k1; have c2 : w1.cell? ⟨g, 2, none⟩ = some vb := blk_cell (blk_kept K1.out (fun h => h) HB.out)))
  go_region_law (first
    | (refine step_call rfl 41 #[.slice ao c.length cap] (fun u W => u = .string ⟨(slotB c).toArray⟩ ∧ Same w1 W) (by go_simp; try rfl) ((HH.out _ K1.out.drew).mono (fun e w' ⟨h1, h2⟩ => ⟨_, h1, rfl, ⟨h2.os, h2.tape, h2.output, h2.size, h2.block⟩⟩)) ?_; rintro u w2 ⟨rfl, k2⟩; have K2 := hidden (Kept.trans K1.out k2); have R2 := hidden (blk_kept k2 (fun h => h) R1.out); clear k2; have d2 : w2.cell? ⟨g, 2, none⟩ = some vb := blk_cell (blk_kept K2.out (fun h => h) HB.out))
    | (refine step_append_strM rfl _ _ 32 9 rfl 5 i0 Tryd.underlying32 Tryd.underlying9 hi hz0 hz1 hz2 vb _ _ rfl (HO.out.same K2.out) ⟨(slotB c).toArray⟩ rfl m1.out m2.out ?_; intro v1 w3 ho1 hg1 hk1; rw [HSB.out] at ho1; obtain ⟨x1, y1, hv1, _⟩ := ho1.form; subst hv1; obtain ⟨d1, d3, d4, d5, d6⟩ := lies2 (blk_kept K2.out (fun h => h) HB.out) (HO.out.same K2.out) (HS.out.same K2.out) ho1 hg1 hk1; have dc : w3.cell? ⟨g, 2, none⟩ = some vb := blk_cell d1; have df : w3.frozen? ⟨g, 2, none⟩ = false := blk_free d1; clear d1; have D3 := hidden d3; have D4 := hidden d4; have D5 := hidden d5; have D6 := hidden d6; clear d3 d4 d5 d6 ho1 hg1 hk1))
  all_goals
    generalize hW4 : w3.setCell ⟨g, 2, none⟩ (.slice x1 (s.bs.length + 8) y1) = w4 at *
    have T4 := hidden (Turns.trans (Turns.same HLT.out K2.out) D6.out)
    have R4 := hidden (blk_kept D6.out.kept (fun e => by
      have hh := (pS_of (blk_kept K2.out (fun h => h) HB.out) _).1 e
      have := HLT.out
      rcases hh with hh | hh | hh
      · omega
      · have := HO.out.lt hh; omega
      · have := HS.out.lt hh; omega) R2.out)
    have c2' : w4.cell? ⟨g, 2, none⟩ = some (.slice x1 (s.bs.length + 8) y1) := blk_cell D3.out
    have c2a : ∀ q, (w4.alloc q).cell? ⟨g, 2, none⟩ = some (.slice x1 (s.bs.length + 8) y1) := fun q => blk_cell (blk_alloc D3.out q)
    have m3 : Hid (s.bs.length + 8 + c.length ≤ maxLen) := by rw [Hid]; unfold maxLen; omega
    have m4 : Hid ((s.bs.length + 8 + c.length) * 1 ≤ 140737488355328) := by rw [Hid]; omega
    have BT5 : Hid (∀ q, Lies (w4.alloc q) ao c.length (c.map U8)) := fun q => ((HBt.out.kept T4.out.kept HV.out).same (same_alloc _ _)).lies
    have UC := hidden (U8_all c)
    clear hW4 dc df d2 c2 D6 K2 K1 R1 R2 m1 m2
    go_wp2_with (refine wpList_append_slcM _ rfl _ _ 32 rfl 5 i0 (.int .u8 0) 1 1 Tryd.underlying32 hi hz0 hz1 hz2 rfl (by decide) _ _ _ rfl (D4.out.same (same_alloc _ _)) ao c.length cap (c.map U8) rfl (by rw [List.length_map, Nat.mul_one]) (BT5.out _) UC.out m3.out m4.out ?_; intro v2 w6 ho2 hg2 hk2; obtain ⟨x2, y2, hv2, _⟩ := ho2.form; subst hv2; obtain ⟨e1, e3, e4, e5, e6⟩ := lies2 (blk_kept (same_alloc _ _) (fun h => h) D3.out) (D4.out.same (same_alloc _ _)) (D5.out.same (same_alloc _ _)) ho2 hg2 hk2; have ec : w6.cell? ⟨g, 2, none⟩ = some (.slice x1 (s.bs.length + 8) y1) := blk_cell e1; have ef : w6.frozen? ⟨g, 2, none⟩ = false := blk_free e1; clear e1; have E3 := hidden e3; have E4 := hidden e4; have E5 := hidden e5; have E6 := hidden e6; clear e3 e4 e5 e6 ho2 hg2 hk2)
    generalize hW7 : w6.setCell ⟨g, 2, none⟩ (.slice x2 (s.bs.length + 8 + c.length) y2) = w7 at *
    have N5 : Hid (∀ q i, pS g (w4.alloc q) i → i < w4.heap.size ∧ i ≠ w.heap.size) := fun q i hi => by
      have hh := (pS_of (blk_alloc D3.out q) i).1 hi
      have h1 := blk_lt D3.out
      have h2 := blk_lt R4.out
      rcases hh with rfl | hh | hh
      · exact ⟨h1, by have := HLT.out; omega⟩
      · exact ⟨D4.out.lt hh, fun e => D4.out.apart R4.out (by decide) (by rw [hh, e])⟩
      · exact ⟨D5.out.lt hh, fun e => HSA.out (T4.out.kept.size) (by rw [hh, e])⟩
    have RS := hidden (blk_kept E6.out.kept (fun e => by have := (N5.out _ _ e).1; omega) (blk_new w4 _))
    have R7 := hidden (blk_kept E6.out.kept (fun e => (N5.out _ _ e).2 rfl) (blk_alloc R4.out _))
    have T7 := hidden (Turns.trans (Turns.trans T4.out (Turns.same (blk_lt D3.out) (same_alloc _ _))) E6.out)
    have s0 : ∀ q, (w7.alloc q).cell? ⟨w4.heap.size, 0, none⟩ = some (.int .i64 ((s.bs.length : Int) + 8)) := fun q => blk_cell (blk_alloc RS.out q)
    have s1 : ∀ q, (w7.alloc q).cell? ⟨w4.heap.size, 1, none⟩ = some (.int .i64 (c.length : Int)) := fun q => blk_cell (blk_alloc RS.out q)
    have s2 : w7.cell? ⟨w4.heap.size, 0, none⟩ = some (.int .i64 ((s.bs.length : Int) + 8)) := blk_cell RS.out
    have s3 : w7.cell? ⟨w4.heap.size, 1, none⟩ = some (.int .i64 (c.length : Int)) := blk_cell RS.out
    have c3 : w7.cell? ⟨g, 3, none⟩ = some vs := blk_cell E3.out
    have c3a : ∀ q, (w7.alloc q).cell? ⟨g, 3, none⟩ = some vs := fun q => blk_cell (blk_alloc E3.out q)
    have m5 : Hid (s.slots.length + 1 ≤ maxLen) := by rw [Hid, hsl]; unfold maxLen; omega
    have m6 : Hid ((s.slots.length + 1) * 16 ≤ 140737488355328) := by rw [Hid, hsl]; omega
    have SD : Hid (∀ q, Same w7 (w7.drew.alloc q)) := fun q => ⟨rfl, rfl, rfl, by simp, fun k hk _ => Below.heap_alloc w7.drew _ _ hk⟩
    clear hW7 ec ef c2' c2a m3 m4 BT5 UC hsl
    go_region_law (refine step_append_slcM rfl _ _ 47 rfl 34 i1 _ 2 16 Tryd.underlying47 hi1 hy0 hy1 hy2 rfl (by decide) vs _ _ rfl (E5.out.same (SD.out _)) (some ⟨w7.heap.size, 0, none⟩) 1 1 [.int .i64 ((s.bs.length : Int) + 8), .int .i64 (c.length : Int)] rfl rfl (lies_of (World.news_of_block (heap_alloc_new w7.drew _))) (fun u hu => by simp at hu; rcases hu with rfl | rfl <;> rfl) m5.out m6.out ?_; intro v3 w8 ho3 hg3 hk3; obtain ⟨x3, y3, hv3, _⟩ := ho3.form; subst hv3; obtain ⟨f1, f3, f4, f5, f6⟩ := lies3 (blk_kept (SD.out _) (fun h => h) E3.out) (E4.out.same (SD.out _)) (E5.out.same (SD.out _)) ho3 hg3 hk3; have fc : w8.cell? ⟨g, 3, none⟩ = some vs := blk_cell f1; have ff : w8.frozen? ⟨g, 3, none⟩ = false := blk_free f1; clear f1; have F3 := hidden f3; have F4 := hidden f4; have F5 := hidden f5; have F6 := hidden f6; clear f3 f4 f5 f6 ho3 hg3 hk3)
    all_goals
      have T8 := hidden (Turns.trans (Turns.trans T7.out (Turns.same (blk_lt E3.out) (SD.out _))) F6.out)
      have N8 : Hid (∀ q i, pS g (w7.drew.alloc q) i → i < w7.heap.size ∧ i ≠ w.heap.size ∧ i ≠ w4.heap.size) := fun q i hi => by
        have hh := (pS_of (blk_kept (SD.out q) (fun h => h) E3.out) i).1 hi
        have h1 := blk_lt E3.out
        have h3 := blk_lt D3.out
        rcases hh with rfl | hh | hh
        · exact ⟨h1, by have := HLT.out; omega, by omega⟩
        · exact ⟨E4.out.lt hh, fun e => E4.out.apart R7.out (by decide) (by rw [hh, e]), fun e => E4.out.apart RS.out (by decide) (by rw [hh, e])⟩
        · exact ⟨E5.out.lt hh, fun e => HSA.out (T4.out.kept.size) (by rw [hh, e]), fun e => by have := D5.out.lt hh; omega⟩
      have RS8 := hidden (blk_kept F6.out.kept (fun e => (N8.out _ _ e).2.2 rfl) (blk_kept (SD.out _) (fun h => h) RS.out))
      have R8 := hidden (blk_kept F6.out.kept (fun e => (N8.out _ _ e).2.1 rfl) (blk_kept (SD.out _) (fun h => h) R7.out))
      generalize hW9 : w8.setCell ⟨g, 3, none⟩ (.slice x3 (s.slots.length + 1) y3) = w9 at *
      have u0 : w9.cell? ⟨w4.heap.size, 0, none⟩ = some (.int .i64 ((s.bs.length : Int) + 8)) := blk_cell RS8.out
      have u1 : w9.cell? ⟨w4.heap.size, 1, none⟩ = some (.int .i64 (c.length : Int)) := blk_cell RS8.out
      have r0 : w9.cell? ⟨w.heap.size, 0, none⟩ = some (.int .i64 0) := blk_cell R8.out
      have r1 : w9.cell? ⟨w.heap.size, 1, none⟩ = some (.int .i64 0) := blk_cell R8.out
      have rf0 : w9.frozen? ⟨w.heap.size, 0, none⟩ = false := blk_free R8.out
      have rf1 : w9.frozen? ⟨w.heap.size, 1, none⟩ = false := blk_free R8.out
      clear hW9 fc ff s0 s1 s2 s3 c3 c3a
      go_wp2
      have C := blk_set (j := 1) (blk_set (j := 0) R8.out (.int .i64 ((s.bs.length : Int) + 8))) (.int .i64 (c.length : Int))
      have q0 : ((w9.setCell ⟨w.heap.size, 0, none⟩ (.int .i64 ((s.bs.length : Int) + 8))).setCell ⟨w.heap.size, 1, none⟩ (.int .i64 (c.length : Int))).cell? ⟨w.heap.size, 0, none⟩ = some (.int .i64 ((s.bs.length : Int) + 8)) := blk_cell C
      have q1 : ((w9.setCell ⟨w.heap.size, 0, none⟩ (.int .i64 ((s.bs.length : Int) + 8))).setCell ⟨w.heap.size, 1, none⟩ (.int .i64 (c.length : Int))).cell? ⟨w.heap.size, 1, none⟩ = some (.int .i64 (c.length : Int)) := blk_cell C
      have KF : Kept (fun k => k = w.heap.size) w9 ((w9.setCell ⟨w.heap.size, 0, none⟩ (.int .i64 ((s.bs.length : Int) + 8))).setCell ⟨w.heap.size, 1, none⟩ (.int .i64 (c.length : Int))) := ((Kept.refl (fun k => k = w.heap.size) w9).setCell (p := ⟨w.heap.size, 0, none⟩) rfl _).setCell (p := ⟨w.heap.size, 1, none⟩) rfl _
      clear C
      generalize hWF : (w9.setCell ⟨w.heap.size, 0, none⟩ (.int .i64 ((s.bs.length : Int) + 8))).setCell ⟨w.heap.size, 1, none⟩ (.int .i64 (c.length : Int)) = WF at *
      have NR : ∀ i, pS g w9 i → i ≠ w.heap.size := fun i hi e => (N8.out _ _ (F6.out.row i (by have := blk_lt R7.out; simp; omega) hi)).2.1 e
      obtain ⟨z1, z2⟩ := app_end HSP.out HAP.out F3.out F5.out F4.out KF T8.out NR HLT.out HNT.out
      exact bodyPost_ret (v := .tuple #[.agg #[.int .i64 (s.bs.length + 8 : Nat), .int .i64 (c.length : Nat)], .int .i64 0]) (by simp [results, Tryd.results13, go_sem, q0, q1]; try rfl) rfl ⟨rfl, z1, z2⟩
end Go.Proofs.YtafdkfieajdeiaaDoor
