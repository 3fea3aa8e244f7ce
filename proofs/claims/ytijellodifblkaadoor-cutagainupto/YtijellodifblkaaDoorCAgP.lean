/-
  CutAgain (P5.5, P5.6), in its bounded form: whatever the shape and the bytes, as long as these hold 2^20 values at most: behind a cut what stood ahead of it plays no part: the law's call returns true and leaves its arguments as they were.
  Conditions: the form's bound on all that is read; the library's two tables hold what its text lays (the card ties them).
-/
import Derived.Test.YtijellodifblkaaDoorAg2
namespace Go.Proofs.YtijellodifblkaaDoor
open Go.ChangeShapes Go.WideShapes Go.ChangeAt Go.RowKit Go.Joins Go.ChangeMaps Go.Shelf
set_option linter.unusedVariables false
attribute [local go_sem ↓] Go.wp_at_zero Go.wp_at_succ
theorem info8 : (Tryd.prog.info? 5).map (fun i => (i.zero, i.size, i.bytes)) = some (some (.int .u8 0), 1, 1) := by kernel_rfl
/-- What the lengths of all pieces are held for. -/
structure Feet (F : List UInt8 → List Nat) : Prop where
  sum : ∀ l, (F l).sum ≤ l.length
  len : ∀ l, (F l).length ≤ l.length
  pos : ∀ l, ∀ n ∈ F l, 1 ≤ n
  again : ∀ a b t i j, i ≤ (F (a ++ t)).length → j ≤ (F (b ++ t)).length → suf (F (a ++ t)) i = suf (F (b ++ t)) j → suf (F (a ++ t)) i ≤ t.length → (F (a ++ t)).drop i = (F (b ++ t)).drop j
set_option maxHeartbeats 16000000 in
set_option maxRecDepth 100000 in
theorem again_gen (mn no mx : Int) (seed : Nat) (er : Int) (F : List UInt8 → List Nat) (hF : Feet F) (va : Value) (la : List UInt8) (vb : Value) (lb : List UInt8) (vt : Value) (lt : List UInt8) (w : World)
    (ha : Byt w va la) (hb : Byt w vb lb) (ht : Byt w vt lt) (hbk : la.length + lb.length + lt.length ≤ 1048576) (hT : Tab w)
    (hLn : ∀ W v l, Tab W → Byt W v l → l.length ≤ 4194304 → Calls Tryd.prog 7 #[.agg #[.int .i64 mn, .int .i64 no, .int .i64 mx, .int .u64 seed], v] W fun e w' => ∃ u, e = .returned (.tuple #[u, .int .i64 er]) ∧ NCs w' u (F l) ∧ Same W w')
    (hCk : ∀ W, Calls Tryd.prog 12 #[.agg #[.int .i64 mn, .int .i64 no, .int .i64 mx, .int .u64 seed]] W fun e w' => e = .returned (.int .i64 er) ∧ Same W w') :
    Calls Tryd.prog 5 #[.agg #[.int .i64 mn, .int .i64 no, .int .i64 mx, .int .u64 seed], va, vb, vt] w fun e w' => e = .returned (.bool true) ∧ Same w w' := by
  obtain ⟨i0, hi, hz0, hz1, hz2⟩ := info_parts info8
  obtain ⟨aa, ac, rfl, _⟩ := ha.form
  obtain ⟨ba, bc, rfl, _⟩ := hb.form
  obtain ⟨ta, tc, rfl, _⟩ := ht.form
  have AL : Hid (∀ W, Same w W → Lies W aa la.length (la.map U8)) := hidden (fun W k => (ha.same k).lies)
  have BL : Hid (∀ W, Same w W → Lies W ba lb.length (lb.map U8)) := hidden (fun W k => (hb.same k).lies)
  have TL : Hid (∀ W, Same w W → Lies W ta lt.length (lt.map U8)) := hidden (fun W k => (ht.same k).lies)
  have HT := hidden hT
  have HF := hidden hF
  have hL1 := hF.sum (la ++ lt)
  have hL2 := hF.len (la ++ lt)
  have hM1 := hF.sum (lb ++ lt)
  have hM2 := hF.len (lb ++ lt)
  rw [List.length_append] at hL1 hL2 hM1 hM2
  have HLx : Hid (∀ W v, Same w W → Byt W v (la ++ lt) → Calls Tryd.prog 7 #[.agg #[.int .i64 mn, .int .i64 no, .int .i64 mx, .int .u64 seed], v] W fun e w' => ∃ u, e = .returned (.tuple #[u, .int .i64 er]) ∧ NCs w' u (F (la ++ lt)) ∧ Same W w') := hidden (fun W v k h => hLn W v _ (hT.same k) h (by rw [List.length_append]; omega))
  have HLy : Hid (∀ W v, Same w W → Byt W v (lb ++ lt) → Calls Tryd.prog 7 #[.agg #[.int .i64 mn, .int .i64 no, .int .i64 mx, .int .u64 seed], v] W fun e w' => ∃ u, e = .returned (.tuple #[u, .int .i64 er]) ∧ NCs w' u (F (lb ++ lt)) ∧ Same W w') := hidden (fun W v k h => hLn W v _ (hT.same k) h (by rw [List.length_append]; omega))
  have HCk := hidden hCk
  have hAg := hF.again la lb lt
  have hpL := hF.pos (la ++ lt)
  have hpM := hF.pos (lb ++ lt)
  have ea : Hid ((la ++ lt).length = la.length + lt.length) := by rw [Hid, List.length_append]
  have eb : Hid ((lb ++ lt).length = lb.length + lt.length) := by rw [Hid, List.length_append]
  have BX : Hid (∀ (W : World) (B : Nat) (x : Option Addr) (y : Nat), W.ownsRow B 5 1 (.slice x (la.length + lt.length) y) (la.length + lt.length) (la.map U8 ++ lt.map U8) → Byt W (.slice x (la.length + lt.length) y) (la ++ lt)) := hidden (fun W B x y h => Byt.own (B := B) (by rw [List.length_append, List.map_append]; exact h))
  have BY : Hid (∀ (W : World) (B : Nat) (x : Option Addr) (y : Nat), W.ownsRow B 5 1 (.slice x (lb.length + lt.length) y) (lb.length + lt.length) (lb.map U8 ++ lt.map U8) → Byt W (.slice x (lb.length + lt.length) y) (lb ++ lt)) := hidden (fun W B x y h => Byt.own (B := B) (by rw [List.length_append, List.map_append]; exact h))
  generalize F (la ++ lt) = L at *
  generalize F (lb ++ lt) = M at *
  have HAg := hidden hAg
  have HPL := hidden hpL
  have HPM := hidden hpM
  have la1 : Hid ((la.map U8).length = la.length * 1) := by rw [Hid, List.length_map, Nat.mul_one]
  have lb1 : Hid ((lb.map U8).length = lb.length * 1) := by rw [Hid, List.length_map, Nat.mul_one]
  have lt1 : Hid ((lt.map U8).length = lt.length * 1) := by rw [Hid, List.length_map, Nat.mul_one]
  have ua := hidden (U8_all la)
  have ub := hidden (U8_all lb)
  have ut := hidden (U8_all lt)
  have m1 : Hid (0 + la.length ≤ maxLen) := by rw [Hid]; unfold maxLen; omega
  have m2 : Hid ((0 + la.length) * 1 ≤ 140737488355328) := by rw [Hid]; omega
  have m3 : Hid (la.length + lt.length ≤ maxLen) := by rw [Hid]; unfold maxLen; omega
  have m4 : Hid ((la.length + lt.length) * 1 ≤ 140737488355328) := by rw [Hid]; omega
  have m5 : Hid (0 + lb.length ≤ maxLen) := by rw [Hid]; unfold maxLen; omega
  have m6 : Hid ((0 + lb.length) * 1 ≤ 140737488355328) := by rw [Hid]; omega
  have m7 : Hid (lb.length + lt.length ≤ maxLen) := by rw [Hid]; unfold maxLen; omega
  have m8 : Hid ((lb.length + lt.length) * 1 ≤ 140737488355328) := by rw [Hid]; omega
  have hlt20 : lt.length ≤ 1048576 := by omega
  have hLs : L.sum ≤ 1048576 := by omega
  have hLl : L.length ≤ 1048576 := by omega
  have hMs : M.sum ≤ 1048576 := by omega
  have hMl : M.length ≤ 1048576 := by omega
  clear ha hb ht hT hF hLn hCk hAg hpL hpM hL1 hL2 hM1 hM2 hbk
  have t1 : True := trivial
  go_enter Tryd.func5, Tryd.ntmps5
  go_wp2_with (first
    | (go_at_call 6; refine (lives_any _ (HT.out.same (same_alloc _ _))).mono ?_; rintro e w1 ⟨rfl, k1⟩; have bx := hidden (blk_kept k1 (fun h => h) (blk_new w _)); have K1 := hidden (Kept.trans (same_alloc w _) k1); clear k1)
    | (have _t := t1; refine wpList_append_any rfl _ _ 25 rfl w1.heap.size 5 i0 (.int .u8 0) 1 1 Tryd.underlying25 hi hz0 hz1 hz2 rfl (by decide) _ 0 0 [] rfl (World.ownsRow_made w1 #[] 0 (Nat.le_refl _) (by decide) (by decide)) aa la.length ac (la.map U8) rfl la1.out (AL.out _ (K1.out.alloc _)) ua.out m1.out m2.out (by simp) ?_; intro a2 c2 w2 ho2 hg2; clear t1; rw [Nat.zero_add, List.nil_append] at ho2; have k2 : Same w1 w2 := ((Kept.refl (fun _ => False) w1).alloc _).grown hg2 (fun k hk hl => by simp [Value.ownBlock] at hk; omega); have O2 := hidden ho2; have K2 := hidden k2; have t2 : True := trivial; clear ho2 hg2 k2)
    | (have _t := t2; refine wpList_append_any rfl _ _ 25 rfl w1.heap.size 5 i0 (.int .u8 0) 1 1 Tryd.underlying25 hi hz0 hz1 hz2 rfl (by decide) _ _ _ _ rfl O2.out ta lt.length tc (lt.map U8) rfl lt1.out (TL.out _ (Kept.trans K1.out K2.out)) ut.out m3.out m4.out K2.out.size ?_; intro a3 c3 w3 ho3 hg3; clear t2; have K3 := hidden (same_grown (m := 0) K2.out O2.out hg3); have X3 := hidden (BX.out _ _ _ _ ho3); have t3 : True := trivial; clear ho3 hg3)
    | (have _t := t3; refine wpList_append_any rfl _ _ 25 rfl w3.heap.size 5 i0 (.int .u8 0) 1 1 Tryd.underlying25 hi hz0 hz1 hz2 rfl (by decide) _ 0 0 [] rfl (World.ownsRow_made w3 #[] 0 (Nat.le_refl _) (by decide) (by decide)) ba lb.length bc (lb.map U8) rfl lb1.out (BL.out _ ((Kept.trans K1.out K3.out).alloc _)) ub.out m5.out m6.out (by simp) ?_; intro a4 c4 w4 ho4 hg4; clear t3; rw [Nat.zero_add, List.nil_append] at ho4; have k4 : Same w3 w4 := ((Kept.refl (fun _ => False) w3).alloc _).grown hg4 (fun k hk hl => by simp [Value.ownBlock] at hk; omega); have O4 := hidden ho4; have K4 := hidden k4; have t4 : True := trivial; clear ho4 hg4 k4)
    | (have _t := t4; refine wpList_append_any rfl _ _ 25 rfl w3.heap.size 5 i0 (.int .u8 0) 1 1 Tryd.underlying25 hi hz0 hz1 hz2 rfl (by decide) _ _ _ _ rfl O4.out ta lt.length tc (lt.map U8) rfl lt1.out (TL.out _ (Kept.trans (Kept.trans K1.out K3.out) K4.out)) ut.out m7.out m8.out K4.out.size ?_; intro a5 c5 w5 ho5 hg5; clear t4; have k5 := same_grown (m := 0) K4.out O4.out hg5; have K5 := hidden (Kept.trans (Kept.trans K1.out K3.out) k5); have X5 := hidden (X3.out.same k5); have Y5 := hidden (BY.out _ _ _ _ ho5); have b5 := blk_kept (Kept.trans K3.out k5) (fun h => h) bx.out; have x0 : w5.cell? ⟨w.heap.size, 0, none⟩ = some (.int .i64 mn) := blk_cell b5; have x1 : w5.cell? ⟨w.heap.size, 1, none⟩ = some (.int .i64 no) := blk_cell b5; have x2 : w5.cell? ⟨w.heap.size, 2, none⟩ = some (.int .i64 mx) := blk_cell b5; have x3 : w5.cell? ⟨w.heap.size, 3, none⟩ = some (.int .u64 seed) := blk_cell b5; have B5 := hidden b5; have t5 : True := trivial; clear ho5 hg5 k5 b5)
    | (go_at_call 7; have _t := t5; refine (HLx.out _ _ K5.out X5.out).mono ?_; rintro e w6 ⟨u, rfl, hu, k6⟩; clear t5; have U6 := hidden hu; have K6 := hidden (Kept.trans K5.out k6); have Y6 := hidden (Y5.out.same k6); have b6 := blk_kept k6 (fun h => h) B5.out; have y0 : w6.cell? ⟨w.heap.size, 0, none⟩ = some (.int .i64 mn) := blk_cell b6; have y1 : w6.cell? ⟨w.heap.size, 1, none⟩ = some (.int .i64 no) := blk_cell b6; have y2 : w6.cell? ⟨w.heap.size, 2, none⟩ = some (.int .i64 mx) := blk_cell b6; have y3 : w6.cell? ⟨w.heap.size, 3, none⟩ = some (.int .u64 seed) := blk_cell b6; have B6 := hidden b6; clear hu k6 b6)
    | (go_at_call 7; refine (HLy.out _ _ K6.out Y6.out).mono ?_; rintro e w7 ⟨u2, rfl, hu2, k7⟩; have V7 := hidden hu2; have U7 := hidden (U6.out.same k7); have K7 := hidden (Kept.trans K6.out k7); have b7 := blk_kept k7 (fun h => h) B6.out; have z0 : w7.cell? ⟨w.heap.size, 0, none⟩ = some (.int .i64 mn) := blk_cell b7; have z1 : w7.cell? ⟨w.heap.size, 1, none⟩ = some (.int .i64 no) := blk_cell b7; have z2 : w7.cell? ⟨w.heap.size, 2, none⟩ = some (.int .i64 mx) := blk_cell b7; have z3 : w7.cell? ⟨w.heap.size, 3, none⟩ = some (.int .u64 seed) := blk_cell b7; obtain ⟨ua1, uc1, hue, _, _⟩ := hu2; obtain ⟨ua2, uc2, hue2, _, _⟩ := U7.out; subst hue hue2; clear k7 b7)
    | (go_at_call 12; refine (HCk.out _).mono ?_; rintro e w8 ⟨rfl, k8⟩; have V8 := hidden (V7.out.same k8); have U8' := hidden (U7.out.same k8); have K8 := hidden (Kept.trans K7.out k8); clear k8))
  --@loops
  go_loop [15, 17] (fun i lf => ∃ p : Nat, p ≤ L.length ∧ i = .int .i64 p ∧ lf = .int .i64 (suf L p : Nat)) (fun i _ => (intOf i).toNat)
  case atStart => exact ⟨L.length, Nat.le_refl _, rfl, by rw [suf_end]; rfl⟩
  case round =>
    obtain ⟨p, hp, rfl, rfl⟩ := hrel
    have hsp := suf_le L p
    by_cases hcond : 0 < p ∧ suf L p < lt.length
    · obtain ⟨c1, c2⟩ := hcond
      have hat := suf_at L (p - 1) (by omega)
      rw [show p - 1 + 1 = p by omega] at hat
      obtain ⟨b, off, rfl, hc⟩ := U8'.out.at (show p - 1 < L.length by omega)
      generalize L.getD (p - 1) 0 = x at hat hc
      obtain ⟨r2, hr2⟩ : ∃ r2, r2 = suf L (p - 1) := ⟨_, rfl⟩
      have HR2 := hidden hr2
      have hsm := suf_le L (p - 1)
      have q1 : (0 : Int) < (p : Int) := by omega
      have q2 : ((suf L p : Nat) : Int) < (lt.length : Int) := by omega
      have q8 : (0 : Int) ≤ (p : Int) - 1 := by omega
      have q9 : (p : Int) - 1 < (L.length : Int) := by omega
      have Q5 : Hid (((suf L p : Nat) : Int) + (x : Int) = (r2 : Int)) := by rw [Hid]; omega
      have q6 : x ≤ 1048576 := by omega
      have q7 : suf L p ≤ 1048576 := by omega
      clear hat hr2 hsm
      generalize suf L p = r1 at *
      go_wp2
      go_round
      case rel =>
        refine ⟨p - 1, by omega, ?_, ?_⟩
        · congr 1
          omega
        · rw [← HR2.out, ← Q5.out]
      case measure => simp [intOf]; omega
    · skip
      by_cases hz1 : p = 0
      · have q1 : ¬ (0 : Int) < (p : Int) := by omega
        clear hz1 hcond
        go_wp2
        go_loop [16, 18] (fun i lf => ∃ q : Nat, q ≤ M.length ∧ i = .int .i64 q ∧ lf = .int .i64 (suf M q : Nat)) (fun i _ => (intOf i).toNat)
        case atStart => exact ⟨M.length, Nat.le_refl _, rfl, by rw [suf_end]; rfl⟩
        case round =>
          obtain ⟨q, hq, rfl, rfl⟩ := hrel
          have hsq := suf_le M q
          by_cases hcond : 0 < q ∧ suf M q < lt.length
          · obtain ⟨c1, c2⟩ := hcond
            have hat := suf_at M (q - 1) (by omega)
            rw [show q - 1 + 1 = q by omega] at hat
            obtain ⟨b, off, rfl, hc⟩ := V8.out.at (show q - 1 < M.length by omega)
            generalize M.getD (q - 1) 0 = x at hat hc
            obtain ⟨r2, hr2⟩ : ∃ r2, r2 = suf M (q - 1) := ⟨_, rfl⟩
            have HR2 := hidden hr2
            have hsm := suf_le M (q - 1)
            have q1 : (0 : Int) < (q : Int) := by omega
            have q2 : ((suf M q : Nat) : Int) < (lt.length : Int) := by omega
            have q8 : (0 : Int) ≤ (q : Int) - 1 := by omega
            have q9 : (q : Int) - 1 < (M.length : Int) := by omega
            have Q5 : Hid (((suf M q : Nat) : Int) + (x : Int) = (r2 : Int)) := by rw [Hid]; omega
            have q6 : x ≤ 1048576 := by omega
            have q7 : suf M q ≤ 1048576 := by omega
            clear hat hr2 hsm
            generalize suf M q = r1 at *
            go_wp2
            go_round
            case rel =>
              refine ⟨q - 1, by omega, ?_, ?_⟩
              · congr 1
                omega
              · rw [← HR2.out, ← Q5.out]
            case measure => simp [intOf]; omega
          · skip
            by_cases hz2 : q = 0
            · have q1 : ¬ (0 : Int) < (q : Int) := by omega
              clear hz2 hcond
              go_wp2
              go_loop [17, 19, 20] (fun lf a i => ∃ k : Nat, k ≤ L.length ∧ i = .int .i64 k ∧ a = .int .i64 0 ∧ lf = .int .i64 (suf L k : Nat)) (fun _ _ i => L.length - (intOf i).toNat)
              case atStart => exact ⟨p, hp, rfl, rfl, rfl⟩
              case round =>
                obtain ⟨k, hk, rfl, rfl, rfl⟩ := hrel
                have hsk := suf_le L k
                by_cases hkl : k < L.length
                · have hat := suf_at L k hkl
                  have hps := suf_lt L HPL.out (show k < k + 1 by omega) (by omega)
                  obtain ⟨b, off, hbo, hc⟩ := U8'.out.at hkl
                  have q1 : (k : Int) < (L.length : Int) := by omega
                  have q0 : (0 : Int) ≤ (k : Int) := Int.natCast_nonneg _
                  have HHY : Hid (∀ j, q ≤ j → j < M.length → suf M j = suf L k → Calls Tryd.prog 17 #[.slice ua1 M.length uc1, .int .i64 (suf M q : Nat), .int .i64 (q : Nat), .int .i64 (suf L k : Nat)] w8 fun e w' => e = .returned (.bool true) ∧ w8 = w') := hidden (fun j h1 h2 h3 => hp_yes _ M w8 V8.out (by omega) (by omega) q (suf L k) j (by omega) h1 h2 h3)
                  have HHN : Hid ((∀ j, q ≤ j → j < M.length → suf M j ≠ suf L k) → Calls Tryd.prog 17 #[.slice ua1 M.length uc1, .int .i64 (suf M q : Nat), .int .i64 (q : Nat), .int .i64 (suf L k : Nat)] w8 fun e w' => e = .returned (.bool false) ∧ w8 = w') := hidden (fun h1 => hp_no _ M w8 V8.out (by omega) (by omega) q (suf L k) hq (by omega) h1)
                  have HBL := hidden (behind_any _ L w8 U8'.out HPL.out (by omega) (by omega) k hk)
                  have HEQ : Hid (∀ j, j < M.length → suf M j = suf L k → suf L k ≤ lt.length → Calls Tryd.prog 18 #[.slice ua1 M.length uc1, .int .i64 (suf L k : Nat)] w8 fun e w' => ∃ u, e = .returned u ∧ NCs w8 u (L.drop k) ∧ w8 = w') := hidden (fun j hj he hle => by
                    have h1 := behind_any _ M w8 V8.out HPM.out (by omega) (by omega) j (by omega)
                    rw [he, ← HAg.out k j hk (by omega) he.symm hle] at h1
                    exact h1)
                  have HSm : Hid (∀ x y, NCs w8 x (L.drop k) → NCs w8 y (L.drop k) → Calls Tryd.prog 9 #[x, y] w8 fun e w' => e = .returned (.bool true) ∧ Same w8 w') := hidden (fun x y h1 h2 => sameInts_any x y _ w8 h1.cells h2.cells (by rw [List.length_drop]; omega))
                  generalize L.getD k 0 = x at hat hc
                  obtain ⟨r2, hr2⟩ : ∃ r2, r2 = suf L (k + 1) := ⟨_, rfl⟩
                  have HR2 := hidden hr2
                  have Q5 : Hid (((suf L k : Nat) : Int) - (x : Int) = (r2 : Int)) := by rw [Hid]; omega
                  have q6 : x ≤ 1048576 := by omega
                  have q7 : suf L k ≤ 1048576 := by omega
                  have q8 : 1 ≤ suf L k := by omega
                  have q9 : ((suf L k : Nat) : Int) ≠ 0 := by omega
                  have q9' : (((suf L k : Nat) : Int) == 0) = false := by simpa using q9
                  clear hat hps hr2
                  subst hbo
                  generalize suf L k = r1 at *
                  generalize suf M q = r3 at *
                  by_cases hle : r1 ≤ lt.length
                  · have hli : (r1 : Int) ≤ (lt.length : Int) := by omega
                    by_cases hex : ∃ j, q ≤ j ∧ j < M.length ∧ suf M j = r1
                    · obtain ⟨j, hj0, hj1, hj2⟩ := hex
                      have HY := hidden (HHY.out j hj0 hj1 hj2)
                      have HE := hidden (HEQ.out j hj1 hj2 hle)
                      clear hj0 hj1 hj2 HHY HHN HEQ
                      have t9 : True := trivial
                      go_wp2_with (first
                        | (go_at_call 17; refine (HY.out).mono ?_; rintro e w9 ⟨rfl, rfl⟩)
                        | (go_at_call 18; have _t := t9; refine (HBL.out).mono ?_; rintro e w9 ⟨u9, rfl, hu9, rfl⟩; clear t9; have U9 := hidden hu9; clear hu9)
                        | (go_at_call 18; refine (HE.out).mono ?_; rintro e w9 ⟨u8, rfl, hu8, rfl⟩; have W9 := hidden hu8; clear hu8)
                        | (go_at_call 9; refine (HSm.out _ _ U9.out W9.out).mono ?_; rintro e w9 ⟨rfl, k9⟩))
                      go_returns
                      exact ⟨rfl, Kept.trans K8.out k9⟩
                    · have HNo := hidden (HHN.out (fun j a b c => hex ⟨j, a, b, c⟩))
                      clear hex HHY HHN HEQ HBL
                      go_wp2_with (go_at_call 17; refine (HNo.out).mono ?_; rintro e w9 ⟨rfl, rfl⟩)
                      go_round
                      case rel => exact ⟨k + 1, by omega, by go_num, rfl, by rw [← HR2.out, ← Q5.out]⟩
                      case measure => simp [intOf]; omega
                  · have hli : ¬ (r1 : Int) ≤ (lt.length : Int) := by omega
                    go_wp2
                    go_round
                    case rel => exact ⟨k + 1, by omega, by go_num, rfl, by rw [← HR2.out, ← Q5.out]⟩
                    case measure => simp [intOf]; omega
                · obtain rfl : k = L.length := by omega
                  have q1 : ¬ (L.length : Int) < (L.length : Int) := by omega
                  generalize suf L L.length = r1 at *
                  go_wp2
                  go_returns
                  exact ⟨rfl, K8.out⟩
            
            · have q1 : (0 : Int) < (q : Int) := by omega
              have q2 : ¬ ((suf M q : Nat) : Int) < (lt.length : Int) := by omega
              go_wp2
              go_loop [17, 19, 20] (fun lf a i => ∃ k : Nat, k ≤ L.length ∧ i = .int .i64 k ∧ a = .int .i64 0 ∧ lf = .int .i64 (suf L k : Nat)) (fun _ _ i => L.length - (intOf i).toNat)
              case atStart => exact ⟨p, hp, rfl, rfl, rfl⟩
              case round =>
                obtain ⟨k, hk, rfl, rfl, rfl⟩ := hrel
                have hsk := suf_le L k
                by_cases hkl : k < L.length
                · have hat := suf_at L k hkl
                  have hps := suf_lt L HPL.out (show k < k + 1 by omega) (by omega)
                  obtain ⟨b, off, hbo, hc⟩ := U8'.out.at hkl
                  have q1 : (k : Int) < (L.length : Int) := by omega
                  have q0 : (0 : Int) ≤ (k : Int) := Int.natCast_nonneg _
                  have HHY : Hid (∀ j, q ≤ j → j < M.length → suf M j = suf L k → Calls Tryd.prog 17 #[.slice ua1 M.length uc1, .int .i64 (suf M q : Nat), .int .i64 (q : Nat), .int .i64 (suf L k : Nat)] w8 fun e w' => e = .returned (.bool true) ∧ w8 = w') := hidden (fun j h1 h2 h3 => hp_yes _ M w8 V8.out (by omega) (by omega) q (suf L k) j (by omega) h1 h2 h3)
                  have HHN : Hid ((∀ j, q ≤ j → j < M.length → suf M j ≠ suf L k) → Calls Tryd.prog 17 #[.slice ua1 M.length uc1, .int .i64 (suf M q : Nat), .int .i64 (q : Nat), .int .i64 (suf L k : Nat)] w8 fun e w' => e = .returned (.bool false) ∧ w8 = w') := hidden (fun h1 => hp_no _ M w8 V8.out (by omega) (by omega) q (suf L k) hq (by omega) h1)
                  have HBL := hidden (behind_any _ L w8 U8'.out HPL.out (by omega) (by omega) k hk)
                  have HEQ : Hid (∀ j, j < M.length → suf M j = suf L k → suf L k ≤ lt.length → Calls Tryd.prog 18 #[.slice ua1 M.length uc1, .int .i64 (suf L k : Nat)] w8 fun e w' => ∃ u, e = .returned u ∧ NCs w8 u (L.drop k) ∧ w8 = w') := hidden (fun j hj he hle => by
                    have h1 := behind_any _ M w8 V8.out HPM.out (by omega) (by omega) j (by omega)
                    rw [he, ← HAg.out k j hk (by omega) he.symm hle] at h1
                    exact h1)
                  have HSm : Hid (∀ x y, NCs w8 x (L.drop k) → NCs w8 y (L.drop k) → Calls Tryd.prog 9 #[x, y] w8 fun e w' => e = .returned (.bool true) ∧ Same w8 w') := hidden (fun x y h1 h2 => sameInts_any x y _ w8 h1.cells h2.cells (by rw [List.length_drop]; omega))
                  generalize L.getD k 0 = x at hat hc
                  obtain ⟨r2, hr2⟩ : ∃ r2, r2 = suf L (k + 1) := ⟨_, rfl⟩
                  have HR2 := hidden hr2
                  have Q5 : Hid (((suf L k : Nat) : Int) - (x : Int) = (r2 : Int)) := by rw [Hid]; omega
                  have q6 : x ≤ 1048576 := by omega
                  have q7 : suf L k ≤ 1048576 := by omega
                  have q8 : 1 ≤ suf L k := by omega
                  have q9 : ((suf L k : Nat) : Int) ≠ 0 := by omega
                  have q9' : (((suf L k : Nat) : Int) == 0) = false := by simpa using q9
                  clear hat hps hr2
                  subst hbo
                  generalize suf L k = r1 at *
                  generalize suf M q = r3 at *
                  by_cases hle : r1 ≤ lt.length
                  · have hli : (r1 : Int) ≤ (lt.length : Int) := by omega
                    by_cases hex : ∃ j, q ≤ j ∧ j < M.length ∧ suf M j = r1
                    · obtain ⟨j, hj0, hj1, hj2⟩ := hex
                      have HY := hidden (HHY.out j hj0 hj1 hj2)
                      have HE := hidden (HEQ.out j hj1 hj2 hle)
                      clear hj0 hj1 hj2 HHY HHN HEQ
                      have t9 : True := trivial
                      go_wp2_with (first
                        | (go_at_call 17; refine (HY.out).mono ?_; rintro e w9 ⟨rfl, rfl⟩)
                        | (go_at_call 18; have _t := t9; refine (HBL.out).mono ?_; rintro e w9 ⟨u9, rfl, hu9, rfl⟩; clear t9; have U9 := hidden hu9; clear hu9)
                        | (go_at_call 18; refine (HE.out).mono ?_; rintro e w9 ⟨u8, rfl, hu8, rfl⟩; have W9 := hidden hu8; clear hu8)
                        | (go_at_call 9; refine (HSm.out _ _ U9.out W9.out).mono ?_; rintro e w9 ⟨rfl, k9⟩))
                      go_returns
                      exact ⟨rfl, Kept.trans K8.out k9⟩
                    · have HNo := hidden (HHN.out (fun j a b c => hex ⟨j, a, b, c⟩))
                      clear hex HHY HHN HEQ HBL
                      go_wp2_with (go_at_call 17; refine (HNo.out).mono ?_; rintro e w9 ⟨rfl, rfl⟩)
                      go_round
                      case rel => exact ⟨k + 1, by omega, by go_num, rfl, by rw [← HR2.out, ← Q5.out]⟩
                      case measure => simp [intOf]; omega
                  · have hli : ¬ (r1 : Int) ≤ (lt.length : Int) := by omega
                    go_wp2
                    go_round
                    case rel => exact ⟨k + 1, by omega, by go_num, rfl, by rw [← HR2.out, ← Q5.out]⟩
                    case measure => simp [intOf]; omega
                · obtain rfl : k = L.length := by omega
                  have q1 : ¬ (L.length : Int) < (L.length : Int) := by omega
                  generalize suf L L.length = r1 at *
                  go_wp2
                  go_returns
                  exact ⟨rfl, K8.out⟩
            
      · have q1 : (0 : Int) < (p : Int) := by omega
        have q2 : ¬ ((suf L p : Nat) : Int) < (lt.length : Int) := by omega
        go_wp2
        go_loop [16, 18] (fun i lf => ∃ q : Nat, q ≤ M.length ∧ i = .int .i64 q ∧ lf = .int .i64 (suf M q : Nat)) (fun i _ => (intOf i).toNat)
        case atStart => exact ⟨M.length, Nat.le_refl _, rfl, by rw [suf_end]; rfl⟩
        case round =>
          obtain ⟨q, hq, rfl, rfl⟩ := hrel
          have hsq := suf_le M q
          by_cases hcond : 0 < q ∧ suf M q < lt.length
          · obtain ⟨c1, c2⟩ := hcond
            have hat := suf_at M (q - 1) (by omega)
            rw [show q - 1 + 1 = q by omega] at hat
            obtain ⟨b, off, rfl, hc⟩ := V8.out.at (show q - 1 < M.length by omega)
            generalize M.getD (q - 1) 0 = x at hat hc
            obtain ⟨r2, hr2⟩ : ∃ r2, r2 = suf M (q - 1) := ⟨_, rfl⟩
            have HR2 := hidden hr2
            have hsm := suf_le M (q - 1)
            have q1 : (0 : Int) < (q : Int) := by omega
            have q2 : ((suf M q : Nat) : Int) < (lt.length : Int) := by omega
            have q8 : (0 : Int) ≤ (q : Int) - 1 := by omega
            have q9 : (q : Int) - 1 < (M.length : Int) := by omega
            have Q5 : Hid (((suf M q : Nat) : Int) + (x : Int) = (r2 : Int)) := by rw [Hid]; omega
            have q6 : x ≤ 1048576 := by omega
            have q7 : suf M q ≤ 1048576 := by omega
            clear hat hr2 hsm
            generalize suf M q = r1 at *
            go_wp2
            go_round
            case rel =>
              refine ⟨q - 1, by omega, ?_, ?_⟩
              · congr 1
                omega
              · rw [← HR2.out, ← Q5.out]
            case measure => simp [intOf]; omega
          · skip
            by_cases hz2 : q = 0
            · have q1 : ¬ (0 : Int) < (q : Int) := by omega
              clear hz2 hcond
              go_wp2
              go_loop [17, 19, 20] (fun lf a i => ∃ k : Nat, k ≤ L.length ∧ i = .int .i64 k ∧ a = .int .i64 0 ∧ lf = .int .i64 (suf L k : Nat)) (fun _ _ i => L.length - (intOf i).toNat)
              case atStart => exact ⟨p, hp, rfl, rfl, rfl⟩
              case round =>
                obtain ⟨k, hk, rfl, rfl, rfl⟩ := hrel
                have hsk := suf_le L k
                by_cases hkl : k < L.length
                · have hat := suf_at L k hkl
                  have hps := suf_lt L HPL.out (show k < k + 1 by omega) (by omega)
                  obtain ⟨b, off, hbo, hc⟩ := U8'.out.at hkl
                  have q1 : (k : Int) < (L.length : Int) := by omega
                  have q0 : (0 : Int) ≤ (k : Int) := Int.natCast_nonneg _
                  have HHY : Hid (∀ j, q ≤ j → j < M.length → suf M j = suf L k → Calls Tryd.prog 17 #[.slice ua1 M.length uc1, .int .i64 (suf M q : Nat), .int .i64 (q : Nat), .int .i64 (suf L k : Nat)] w8 fun e w' => e = .returned (.bool true) ∧ w8 = w') := hidden (fun j h1 h2 h3 => hp_yes _ M w8 V8.out (by omega) (by omega) q (suf L k) j (by omega) h1 h2 h3)
                  have HHN : Hid ((∀ j, q ≤ j → j < M.length → suf M j ≠ suf L k) → Calls Tryd.prog 17 #[.slice ua1 M.length uc1, .int .i64 (suf M q : Nat), .int .i64 (q : Nat), .int .i64 (suf L k : Nat)] w8 fun e w' => e = .returned (.bool false) ∧ w8 = w') := hidden (fun h1 => hp_no _ M w8 V8.out (by omega) (by omega) q (suf L k) hq (by omega) h1)
                  have HBL := hidden (behind_any _ L w8 U8'.out HPL.out (by omega) (by omega) k hk)
                  have HEQ : Hid (∀ j, j < M.length → suf M j = suf L k → suf L k ≤ lt.length → Calls Tryd.prog 18 #[.slice ua1 M.length uc1, .int .i64 (suf L k : Nat)] w8 fun e w' => ∃ u, e = .returned u ∧ NCs w8 u (L.drop k) ∧ w8 = w') := hidden (fun j hj he hle => by
                    have h1 := behind_any _ M w8 V8.out HPM.out (by omega) (by omega) j (by omega)
                    rw [he, ← HAg.out k j hk (by omega) he.symm hle] at h1
                    exact h1)
                  have HSm : Hid (∀ x y, NCs w8 x (L.drop k) → NCs w8 y (L.drop k) → Calls Tryd.prog 9 #[x, y] w8 fun e w' => e = .returned (.bool true) ∧ Same w8 w') := hidden (fun x y h1 h2 => sameInts_any x y _ w8 h1.cells h2.cells (by rw [List.length_drop]; omega))
                  generalize L.getD k 0 = x at hat hc
                  obtain ⟨r2, hr2⟩ : ∃ r2, r2 = suf L (k + 1) := ⟨_, rfl⟩
                  have HR2 := hidden hr2
                  have Q5 : Hid (((suf L k : Nat) : Int) - (x : Int) = (r2 : Int)) := by rw [Hid]; omega
                  have q6 : x ≤ 1048576 := by omega
                  have q7 : suf L k ≤ 1048576 := by omega
                  have q8 : 1 ≤ suf L k := by omega
                  have q9 : ((suf L k : Nat) : Int) ≠ 0 := by omega
                  have q9' : (((suf L k : Nat) : Int) == 0) = false := by simpa using q9
                  clear hat hps hr2
                  subst hbo
                  generalize suf L k = r1 at *
                  generalize suf M q = r3 at *
                  by_cases hle : r1 ≤ lt.length
                  · have hli : (r1 : Int) ≤ (lt.length : Int) := by omega
                    by_cases hex : ∃ j, q ≤ j ∧ j < M.length ∧ suf M j = r1
                    · obtain ⟨j, hj0, hj1, hj2⟩ := hex
                      have HY := hidden (HHY.out j hj0 hj1 hj2)
                      have HE := hidden (HEQ.out j hj1 hj2 hle)
                      clear hj0 hj1 hj2 HHY HHN HEQ
                      have t9 : True := trivial
                      go_wp2_with (first
                        | (go_at_call 17; refine (HY.out).mono ?_; rintro e w9 ⟨rfl, rfl⟩)
                        | (go_at_call 18; have _t := t9; refine (HBL.out).mono ?_; rintro e w9 ⟨u9, rfl, hu9, rfl⟩; clear t9; have U9 := hidden hu9; clear hu9)
                        | (go_at_call 18; refine (HE.out).mono ?_; rintro e w9 ⟨u8, rfl, hu8, rfl⟩; have W9 := hidden hu8; clear hu8)
                        | (go_at_call 9; refine (HSm.out _ _ U9.out W9.out).mono ?_; rintro e w9 ⟨rfl, k9⟩))
                      go_returns
                      exact ⟨rfl, Kept.trans K8.out k9⟩
                    · have HNo := hidden (HHN.out (fun j a b c => hex ⟨j, a, b, c⟩))
                      clear hex HHY HHN HEQ HBL
                      go_wp2_with (go_at_call 17; refine (HNo.out).mono ?_; rintro e w9 ⟨rfl, rfl⟩)
                      go_round
                      case rel => exact ⟨k + 1, by omega, by go_num, rfl, by rw [← HR2.out, ← Q5.out]⟩
                      case measure => simp [intOf]; omega
                  · have hli : ¬ (r1 : Int) ≤ (lt.length : Int) := by omega
                    go_wp2
                    go_round
                    case rel => exact ⟨k + 1, by omega, by go_num, rfl, by rw [← HR2.out, ← Q5.out]⟩
                    case measure => simp [intOf]; omega
                · obtain rfl : k = L.length := by omega
                  have q1 : ¬ (L.length : Int) < (L.length : Int) := by omega
                  generalize suf L L.length = r1 at *
                  go_wp2
                  go_returns
                  exact ⟨rfl, K8.out⟩
            
            · have q1 : (0 : Int) < (q : Int) := by omega
              have q2 : ¬ ((suf M q : Nat) : Int) < (lt.length : Int) := by omega
              go_wp2
              go_loop [17, 19, 20] (fun lf a i => ∃ k : Nat, k ≤ L.length ∧ i = .int .i64 k ∧ a = .int .i64 0 ∧ lf = .int .i64 (suf L k : Nat)) (fun _ _ i => L.length - (intOf i).toNat)
              case atStart => exact ⟨p, hp, rfl, rfl, rfl⟩
              case round =>
                obtain ⟨k, hk, rfl, rfl, rfl⟩ := hrel
                have hsk := suf_le L k
                by_cases hkl : k < L.length
                · have hat := suf_at L k hkl
                  have hps := suf_lt L HPL.out (show k < k + 1 by omega) (by omega)
                  obtain ⟨b, off, hbo, hc⟩ := U8'.out.at hkl
                  have q1 : (k : Int) < (L.length : Int) := by omega
                  have q0 : (0 : Int) ≤ (k : Int) := Int.natCast_nonneg _
                  have HHY : Hid (∀ j, q ≤ j → j < M.length → suf M j = suf L k → Calls Tryd.prog 17 #[.slice ua1 M.length uc1, .int .i64 (suf M q : Nat), .int .i64 (q : Nat), .int .i64 (suf L k : Nat)] w8 fun e w' => e = .returned (.bool true) ∧ w8 = w') := hidden (fun j h1 h2 h3 => hp_yes _ M w8 V8.out (by omega) (by omega) q (suf L k) j (by omega) h1 h2 h3)
                  have HHN : Hid ((∀ j, q ≤ j → j < M.length → suf M j ≠ suf L k) → Calls Tryd.prog 17 #[.slice ua1 M.length uc1, .int .i64 (suf M q : Nat), .int .i64 (q : Nat), .int .i64 (suf L k : Nat)] w8 fun e w' => e = .returned (.bool false) ∧ w8 = w') := hidden (fun h1 => hp_no _ M w8 V8.out (by omega) (by omega) q (suf L k) hq (by omega) h1)
                  have HBL := hidden (behind_any _ L w8 U8'.out HPL.out (by omega) (by omega) k hk)
                  have HEQ : Hid (∀ j, j < M.length → suf M j = suf L k → suf L k ≤ lt.length → Calls Tryd.prog 18 #[.slice ua1 M.length uc1, .int .i64 (suf L k : Nat)] w8 fun e w' => ∃ u, e = .returned u ∧ NCs w8 u (L.drop k) ∧ w8 = w') := hidden (fun j hj he hle => by
                    have h1 := behind_any _ M w8 V8.out HPM.out (by omega) (by omega) j (by omega)
                    rw [he, ← HAg.out k j hk (by omega) he.symm hle] at h1
                    exact h1)
                  have HSm : Hid (∀ x y, NCs w8 x (L.drop k) → NCs w8 y (L.drop k) → Calls Tryd.prog 9 #[x, y] w8 fun e w' => e = .returned (.bool true) ∧ Same w8 w') := hidden (fun x y h1 h2 => sameInts_any x y _ w8 h1.cells h2.cells (by rw [List.length_drop]; omega))
                  generalize L.getD k 0 = x at hat hc
                  obtain ⟨r2, hr2⟩ : ∃ r2, r2 = suf L (k + 1) := ⟨_, rfl⟩
                  have HR2 := hidden hr2
                  have Q5 : Hid (((suf L k : Nat) : Int) - (x : Int) = (r2 : Int)) := by rw [Hid]; omega
                  have q6 : x ≤ 1048576 := by omega
                  have q7 : suf L k ≤ 1048576 := by omega
                  have q8 : 1 ≤ suf L k := by omega
                  have q9 : ((suf L k : Nat) : Int) ≠ 0 := by omega
                  have q9' : (((suf L k : Nat) : Int) == 0) = false := by simpa using q9
                  clear hat hps hr2
                  subst hbo
                  generalize suf L k = r1 at *
                  generalize suf M q = r3 at *
                  by_cases hle : r1 ≤ lt.length
                  · have hli : (r1 : Int) ≤ (lt.length : Int) := by omega
                    by_cases hex : ∃ j, q ≤ j ∧ j < M.length ∧ suf M j = r1
                    · obtain ⟨j, hj0, hj1, hj2⟩ := hex
                      have HY := hidden (HHY.out j hj0 hj1 hj2)
                      have HE := hidden (HEQ.out j hj1 hj2 hle)
                      clear hj0 hj1 hj2 HHY HHN HEQ
                      have t9 : True := trivial
                      go_wp2_with (first
                        | (go_at_call 17; refine (HY.out).mono ?_; rintro e w9 ⟨rfl, rfl⟩)
                        | (go_at_call 18; have _t := t9; refine (HBL.out).mono ?_; rintro e w9 ⟨u9, rfl, hu9, rfl⟩; clear t9; have U9 := hidden hu9; clear hu9)
                        | (go_at_call 18; refine (HE.out).mono ?_; rintro e w9 ⟨u8, rfl, hu8, rfl⟩; have W9 := hidden hu8; clear hu8)
                        | (go_at_call 9; refine (HSm.out _ _ U9.out W9.out).mono ?_; rintro e w9 ⟨rfl, k9⟩))
                      go_returns
                      exact ⟨rfl, Kept.trans K8.out k9⟩
                    · have HNo := hidden (HHN.out (fun j a b c => hex ⟨j, a, b, c⟩))
                      clear hex HHY HHN HEQ HBL
                      go_wp2_with (go_at_call 17; refine (HNo.out).mono ?_; rintro e w9 ⟨rfl, rfl⟩)
                      go_round
                      case rel => exact ⟨k + 1, by omega, by go_num, rfl, by rw [← HR2.out, ← Q5.out]⟩
                      case measure => simp [intOf]; omega
                  · have hli : ¬ (r1 : Int) ≤ (lt.length : Int) := by omega
                    go_wp2
                    go_round
                    case rel => exact ⟨k + 1, by omega, by go_num, rfl, by rw [← HR2.out, ← Q5.out]⟩
                    case measure => simp [intOf]; omega
                · obtain rfl : k = L.length := by omega
                  have q1 : ¬ (L.length : Int) < (L.length : Int) := by omega
                  generalize suf L L.length = r1 at *
                  go_wp2
                  go_returns
                  exact ⟨rfl, K8.out⟩
            
end Go.Proofs.YtijellodifblkaaDoor
