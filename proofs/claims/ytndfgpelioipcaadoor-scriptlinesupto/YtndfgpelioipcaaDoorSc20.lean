/- script: the document's ParseOp, walked. (Made by mksc20.py.) -/
import Derived.Test.YtndfgpelioipcaaDoorScV
import Derived.Test.YtndfgpelioipcaaDoorScW
import Derived.Test.YtndfgpelioipcaaDoorSc17
import Derived.Test.YtndfgpelioipcaaDoorSc5
namespace Go.Proofs.YtndfgpelioipcaaDoor
open Go.RowKit
set_option linter.unusedVariables false
set_option linter.unusedSimpArgs false
theorem piD_none {P : List UInt8} (h : prwD (splitL P) = none) : piD P = none := by unfold piD; rw [h]
theorem piD_some {P : List UInt8} {o : OpR} (h : prwD (splitL P) = some o) : piD P = if prt o = some P then some o else none := by unfold piD; rw [h]
theorem kd_iff (x : List UInt8) (k : Nat) (h1 : 1 ≤ k) (h2 : k ≤ 19) : x = nmL k ↔ kdOf x = k := by
  constructor
  · rintro rfl; exact kd_nm k h1 h2
  · intro h
    have := (nm_kd x (by omega)).1
    rw [h] at this
    exact this.symm
theorem uq_form (x : List UInt8) : ∃ s b, uqV (unq x) = .tuple #[.string s, .bool b] := by
  cases unq x with
  | none => exact ⟨_, _, rfl⟩
  | some l => exact ⟨_, _, rfl⟩
theorem at_kd (n : Nat) (h : (if 19 < n then n else 0) = 0) : True := trivial
set_option maxHeartbeats 4000000 in
set_option maxRecDepth 100000 in
theorem parseOpD_any (P : List UInt8) (hs : P.length ≤ 1073741824) (w : World) : Calls Tryd.prog 17 #[.string (BA P)] w fun e w' => e = .returned (piV (piD P)) ∧ Same w w' := by
  obtain ⟨x0, xs, hsp, hxl⟩ := split_ne P
  have hlen := split_len P
  have hSp := fun W => split_any P (by omega) W
  have hNo := fun h => piD_none (P := P) h
  have hYe := fun (o : OpR) h => piD_some (P := P) (o := o) h
  rw [hsp] at hlen hNo hYe
  simp only [hsp] at hSp
  have HSp := hidden hSp
  have HNo := hidden hNo
  have HYe := hidden hYe
  have HKi := hidden (kd_iff x0)
  have hkd : kdOf x0 ≤ 19 := by
    by_cases h : kdOf x0 = 0
    · omega
    · exact (nm_kd x0 h).2.2
  have HPw := hidden (show prwD (x0 :: xs) = if kdOf x0 = 0 ∨ xs.length ≠ (flL (kdOf x0)).length then none else psD (OpR.only (kdOf x0)) (flL (kdOf x0)) xs from rfl)
  have HLx := hidden (fun x (h : x ∈ x0 :: xs) => hlen x h)
  generalize kdOf x0 = kd at *
  obtain ⟨n, hn⟩ : ∃ n, n = xs.length + 1 := ⟨_, rfl⟩
  have HN := hidden hn
  have HNl := hidden (show (x0 :: xs).length = n by rw [hn]; rfl)
  have hn2 : n ≤ 1073741825 := by omega
  have HZ0 : Hid (OpB (w.alloc (.cells OpR.zero.cs 28)) w.heap.size OpR.zero) := hidden (blk_new w _)
  have HS0 := hidden (same_alloc w (.cells OpR.zero.cs 28))
  have hzs : (w.alloc (.cells OpR.zero.cs 28)).heap.size = w.heap.size + 1 := by simp
  have HZs := hidden hzs
  have HDP := hidden printOpD_any
  have HRN := hidden readNumber_any
  have HUQ := hidden (fun x h W => unquoteD_any (BA x) h W)
  clear hSp hNo hYe hlen hn hzs hsp hxl
  obtain ⟨y, hy⟩ : ∃ y, y = BA P := ⟨_, rfl⟩
  rw [← hy] at HSp ⊢
  have HY := hidden hy
  clear hy
  go_enter Tryd.func17, Tryd.ntmps17
  go_wp2_with (first
    | (go_at_call 30; refine (HSp.out _).mono ?_; rintro e w1 ⟨⟨v, rfl, o1⟩, k1⟩; obtain ⟨va, vc, rfl⟩ := o1.form; rw [HNl.out] at o1 ⊢; have O1 : Hid (OwnT 0 w1 (.slice va n vc) (x0 :: xs)) := hidden ⟨own_mono o1.own (Nat.zero_le _)⟩; have K1 := hidden (HS0.out.trans k1); have Z1 := hidden (opb_kept HZ0.out k1 (fun h => h)); clear o1 k1)
    | (refine wl_store 28 _ _ rfl rfl rfl w1.heap.size rfl OpR.zero.cs rfl (st_new w1 OpR.zero) ?_))
  have hgl : w.heap.size < w1.heap.size := blk_lt Z1.out
  have HL2 : Hid (OpB (w1.alloc (.cells OpR.zero.cs 28)) w1.heap.size OpR.zero) := hidden (blk_new w1 _)
  have HZ2 := hidden (blk_alloc Z1.out (.cells OpR.zero.cs 28))
  have HO2 := hidden (O1.out.same (same_alloc w1 (.cells OpR.zero.cs 28)))
  have HS2 := hidden (K1.out.alloc (.cells OpR.zero.cs 28))
  clear O1 K1 Z1
  obtain ⟨gl, hgle⟩ : ∃ gl, gl = w1.heap.size := ⟨_, rfl⟩
  rw [← hgle] at HL2 hgl ⊢
  generalize w1.alloc (.cells OpR.zero.cs 28) = w2 at *
  clear hgle
  have hglw : ¬ w.heap.size = gl := by omega
  go_loopw [6] (fun v wr => ∃ (k : Nat), v = .int .i64 k ∧ 1 ≤ k ∧ k ≤ 20 ∧ OpB wr gl (OpR.only ((if kd < k then kd else 0 : Nat) : Int)) ∧ OpB wr w.heap.size OpR.zero ∧ OwnT 0 wr (.slice va n vc) (x0 :: xs) ∧ Same w wr) (fun v _ => 20 - (intOf v).toNat)
  case atStart => exact ⟨1, rfl, by omega, by omega, by
    have h : (if kd < 1 then kd else 0) = 0 := by split <;> omega
    rw [h]
    exact HL2.out, HZ2.out, HO2.out, HS2.out⟩
  case round =>
    obtain ⟨k, rfl, hk1, hk2, hL, hZ, hO, hS⟩ := hrel
    have HL := hidden hL
    have HZ := hidden hZ
    have HO := hidden hO
    have HS := hidden hS
    clear hL hZ hO hS
    by_cases h1 : k ≤ 19
    · have q1 : (k : Int) ≤ 19 := by omega
      have a1 : IntKind.i64.wrap ((k : Int) + 1) = (k : Int) + 1 := by rw [IntKind.wrap_i64]; omega
      have HNm : Hid (∀ W, Calls Tryd.prog 25 #[.int .i64 (k : Int)] W fun e w' => e = .returned (.string (BA (nmL k))) ∧ Same W w') := hidden (fun W => by
        have := nameD_any (k : Int) W
        rw [if_pos (by omega), Int.toNat_natCast] at this
        exact this)
      obtain ⟨b1, o1, he, hc⟩ := HO.out.row.at (by simp [TS])
      obtain ⟨rfl⟩ : va = some ⟨b1, o1, none⟩ := by simpa using he
      have hX := hc 0 (.string (BA x0)) (by simp [TS])
      rw [Nat.add_zero] at hX
      have HX : Hid (∀ W, SameW wr W → W.cell? ⟨b1, o1, none⟩ = some (.string (BA x0))) := hidden (fun W h => h.cell (fun h => h) hX)
      have hi := HKi.out k hk1 h1
      have hn0 : (0 : Int) < (n : Int) := by have := HNl.out; simp at this; omega
      have hn1 : 0 < n := by omega
      clear hc hX he
      by_cases h2 : kd = k
      · have d4 : ((BA x0).toList == (BA (nmL k)).toList) = true := by rw [toList_BA, toList_BA, hi.2 h2]; simp
        have HL4 : Hid (∀ W, SameW wr W → OpB (W.setCell ⟨gl, 0, none⟩ (.int .i64 (k : Int))) gl (OpR.only ((if kd < k + 1 then kd else 0 : Nat) : Int))) := hidden (fun W h => by
          have h3 : (if kd < k + 1 then kd else 0) = k := by rw [if_pos (by omega)]; exact h2
          rw [h3]
          exact opb_set (opb_kept HL.out h (fun h => h)) 0 _ _ rfl)
        have HF4 : Hid (∀ W, SameW wr W → W.frozen? ⟨gl, 0, none⟩ = false) := hidden (fun W h => blk_free (opb_kept HL.out h (fun h => h)))
        have HC4 : Hid (∀ W, SameW wr W → W.cell? ⟨gl, 0, none⟩ = some (.int .i64 ((if kd < k then kd else 0 : Nat) : Int))) := hidden (fun W h => blk_cell (opb_kept HL.out h (fun h => h)))
        clear hi
        generalize BA x0 = yx at *
        generalize BA (nmL k) = yk at *
        go_wp2
        refine reg_same hmx (by kernel_rfl) ?_
        refine q_val (by rfl) (.slice (some ⟨b1, o1, none⟩) n vc) (fun W _ => by go_simp; try rfl) ?_; (try go_simp)
        refine q_val (by rfl) (.pointer (some ⟨b1, o1, none⟩)) (fun W _ => by go_simp; try rfl) ?_; (try go_simp)
        refine q_val (by rfl) (.string yx) (fun W hC => by have c := HX.out W hC; go_simp; try rfl) ?_; (try go_simp)
        refine q_val (by rfl) (.int .i64 (k : Int)) (fun W _ => by go_simp; try rfl) ?_; (try go_simp)
        refine q_call (by rfl) 25 #[.int .i64 (k : Int)] (.string yk) (fun W => by go_simp; try rfl) (fun W hC => (HNm.out W).mono fun _ w' ⟨h1, h2⟩ => ⟨h1, Kept.trans hC h2⟩) ?_; (try go_simp)
        refine q_val (by rfl) (.bool true) (fun W _ => by go_simp; try rfl) ?_; (try go_simp)
        refine wpQuiet_nil ?_
        intro w4 k4
        have K4 := hidden k4
        have f4 := HF4.out w4 k4
        have c4 := HC4.out w4 k4
        clear k4
        go_wp2
        go_roundw
        case rel => exact ⟨k + 1, by go_num, by omega, by omega, HL4.out w4 K4.out, opb_kept (opb_kept HZ.out K4.out (fun h => h)) ((Kept.refl (fun q => q = gl) w4).setCell (p := ⟨gl, 0, none⟩) rfl _) hglw, ⟨own_kept (HO.out.same K4.out).own ((Kept.refl (fun q => q = gl) w4).setCell (p := ⟨gl, 0, none⟩) rfl _) (fun q hq e => own_apart (HO.out.same K4.out).own (opb_kept HL.out K4.out (fun h => h)) (by decide) (by have e' : q = gl := e; rw [hq, e']))⟩, (HS.out.trans K4.out).setNew (p := ⟨gl, 0, none⟩) (by simp; omega) _⟩
        case measure => simp [intOf]; omega
      · have d4 : ((BA x0).toList == (BA (nmL k)).toList) = false := by
          rw [toList_BA, toList_BA]
          simpa using fun e => h2 (hi.1 e)
        have HL4 := hidden (show OpB wr gl (OpR.only ((if kd < k + 1 then kd else 0 : Nat) : Int)) by
          have h3 : (if kd < k + 1 then kd else 0) = (if kd < k then kd else 0) := by
            by_cases h : kd < k
            · rw [if_pos h, if_pos (by omega)]
            · rw [if_neg h, if_neg (by omega)]
          rw [h3]
          exact HL.out)
        clear hi
        generalize BA x0 = yx at *
        generalize BA (nmL k) = yk at *
        go_wp2
        refine reg_same hmx (by kernel_rfl) ?_
        refine q_val (by rfl) (.slice (some ⟨b1, o1, none⟩) n vc) (fun W _ => by go_simp; try rfl) ?_; (try go_simp)
        refine q_val (by rfl) (.pointer (some ⟨b1, o1, none⟩)) (fun W _ => by go_simp; try rfl) ?_; (try go_simp)
        refine q_val (by rfl) (.string yx) (fun W hC => by have c := HX.out W hC; go_simp; try rfl) ?_; (try go_simp)
        refine q_val (by rfl) (.int .i64 (k : Int)) (fun W _ => by go_simp; try rfl) ?_; (try go_simp)
        refine q_call (by rfl) 25 #[.int .i64 (k : Int)] (.string yk) (fun W => by go_simp; try rfl) (fun W hC => (HNm.out W).mono fun _ w' ⟨h1, h2⟩ => ⟨h1, Kept.trans hC h2⟩) ?_; (try go_simp)
        refine q_val (by rfl) (.bool false) (fun W _ => by go_simp; try rfl) ?_; (try go_simp)
        refine wpQuiet_nil ?_
        intro w4 k4
        have K4 := hidden k4
        clear k4
        go_wp2
        go_roundw
        case rel => exact ⟨k + 1, by go_num, by omega, by omega, opb_kept HL4.out K4.out (fun h => h), opb_kept HZ.out K4.out (fun h => h), HO.out.same K4.out, HS.out.trans K4.out⟩
        case measure => simp [intOf]; omega
    · have q1 : ¬ (k : Int) ≤ 19 := by omega
      have HL3 := hidden (show OpB wr gl (OpR.only (kd : Int)) by
        have h3 : (if kd < k then kd else 0) = kd := if_pos (by omega)
        have := HL.out
        rw [h3] at this
        exact this)
      have c0 : wr.cell? ⟨gl, 0, none⟩ = some (.int .i64 (kd : Int)) := blk_cell HL3.out
      clear HL
      by_cases h0 : kd = 0
      · have HNe := hidden (HNo.out (by rw [HPw.out, if_pos (.inl h0)]))
        subst h0
        have c0' : wr.cell? ⟨gl, 0, none⟩ = some (.int .i64 0) := c0
        clear c0
        go_wp2_with (refine wl_store 28 _ _ rfl rfl rfl w.heap.size rfl OpR.zero.cs rfl (st_op HZ.out) ?_)
        have hlv := lv_op (opb_row HZ.out OpR.zero)
        have S9 := hidden (HS.out.setRow (g := w.heap.size) (.inl (Nat.le_refl _)) OpR.zero.cs)
        generalize wr.setRow w.heap.size OpR.zero.cs = W9 at *
        exact bodyPost_ret (res_row2 Tryd.results17 rfl hlv rfl) rfl ⟨by rw [HNe.out]; rfl, S9.out⟩
      · have d0 : ((kd : Int) == 0) = false := by simpa using h0
        have e0 : ¬ (kd : Int) = 0 := by omega
        have e1 : ¬ kd = 0 := h0
        have HWd : Hid (∀ W, Calls Tryd.prog 26 #[.int .i64 (kd : Int)] W fun e w' => (∃ a c, e = .returned (.slice a (flL kd).length c) ∧ w'.ownsRow 0 3 1 (.slice a (flL kd).length c) (flL kd).length (IS ((flL kd).map cd))) ∧ Same W w') := hidden (fun W => by
          have := wordsD_any (kd : Int) (by omega) (by omega) W
          rw [Int.toNat_natCast] at this
          exact this)
        obtain ⟨fL3, fLl⟩ := fl_isL kd hkd
        have HFit := hidden (OpR.Fit.only kd 1073741824 hkd)
        generalize flL kd = L at *
        obtain ⟨m, hm⟩ : ∃ m, m = L.length := ⟨_, rfl⟩
        rw [← hm] at HWd fL3 HPw
        have HM := hidden hm
        have HFl := hidden fLl
        have a1 : IntKind.i64.wrap (1 + (m : Int)) = 1 + (m : Int) := by rw [IntKind.wrap_i64]; omega
        clear hm fLl
        by_cases h2 : xs.length = m
        · have hnm : n = m + 1 := by rw [HN.out, h2]
          have q2 : (n : Int) = 1 + (m : Int) := by omega
          have d2 : ((n : Int) == 1 + (m : Int)) = true := by simpa using q2
          have d3 : ((n : Int) != 1 + (m : Int)) = false := by rw [bne, d2]; rfl
          have HPs := hidden (show prwD (x0 :: xs) = psD (OpR.only kd) L xs by rw [HPw.out, if_neg (by omega)])
          have HQ := hidden (RI.zero (OpR.only kd) L xs 1073741824 HFit.out)
          have HLn := hidden h2
          have HNm := hidden hnm
          clear h2 hnm q2
          go_wp2_with (first
            | (go_at_call 26; refine (HWd.out _).mono ?_; rintro e w5 ⟨⟨wa, wc, rfl, r5⟩, k5⟩; have aX := X4; clear aX; have K5 := hidden (X4.out.trans k5); have R5 := hidden r5; clear k5 r5)
            | (go_at_call 26; refine (HWd.out _).mono ?_; rintro e w4 ⟨⟨ua, uc, rfl, r4⟩, k4⟩; have X4 := hidden k4; have c4 : w4.cell? ⟨gl, 0, none⟩ = some (.int .i64 (kd : Int)) := (blk_cell (opb_kept HL3.out k4 (fun h => h))); clear k4 r4))
          have HL5 := hidden (opb_kept HL3.out K5.out (fun h => h))
          have HZ5 := hidden (opb_kept HZ.out K5.out (fun h => h))
          have HO5 := hidden (HO.out.same K5.out)
          have HS5 := hidden (HS.out.trans K5.out)
          clear HL3 HZ HO HS K5 X4 c4 c0 d3 d2
          go_loopw [48] (fun v wr => ∃ (k : Nat) (ok : OpR), v = .int .i64 k ∧ k ≤ m ∧ RI (OpR.only kd) L xs k ok 1073741824 ∧ OpB wr gl ok ∧ OpB wr w.heap.size OpR.zero ∧ OwnT 0 wr (.slice va n vc) (x0 :: xs) ∧ wr.ownsRow 0 3 1 (.slice wa m wc) m (IS (L.map cd)) ∧ Same w wr) (fun v _ => m - (intOf v).toNat)
          case atStart => exact ⟨0, OpR.only kd, rfl, Nat.zero_le _, HQ.out, HL5.out, HZ5.out, HO5.out, R5.out, HS5.out⟩
          case round =>
            obtain ⟨k, ok, rfl, hkm, hQ, hL, hZ, hO, hR, hS⟩ := hrel
            have HQ := hidden hQ
            have HL := hidden hL
            have HZ := hidden hZ
            have HO := hidden hO
            have HR := hidden hR
            have HS := hidden hS
            clear hQ hL hZ hO hR hS
            have HKp : Hid (∀ W, SameW wr W → OpB W gl ok ∧ OpB W w.heap.size OpR.zero ∧ OwnT 0 W (.slice va n vc) (x0 :: xs) ∧ W.ownsRow 0 3 1 (.slice wa m wc) m (IS (L.map cd)) ∧ Same w W) := hidden (fun W h => ⟨opb_kept HL.out h (fun h => h), opb_kept HZ.out h (fun h => h), HO.out.same h, own_kept HR.out h (fun _ _ h => h), HS.out.trans h⟩)
            by_cases g1 : k < m
            · obtain ⟨b, hb⟩ : ∃ b, L[k]? = some b := ⟨_, List.getElem?_eq_getElem (by rw [← HM.out]; exact g1)⟩
              obtain ⟨x, hxk⟩ : ∃ x, xs[k]? = some x := ⟨_, List.getElem?_eq_getElem (by rw [HLn.out]; exact g1)⟩
              have hbL := HFl.out b (List.mem_of_getElem? hb)
              have hxl : x.length ≤ 1073741824 := by have := HLx.out x (by simp [List.mem_of_getElem? hxk]); omega
              have HSet : Hid (∀ W j v oo, SameW wr W → ok.cs.setIfInBounds j v = oo.cs → OpB (W.setCell ⟨gl, j, none⟩ v) gl oo ∧ OpB (W.setCell ⟨gl, j, none⟩ v) w.heap.size OpR.zero ∧ OwnT 0 (W.setCell ⟨gl, j, none⟩ v) (.slice va n vc) (x0 :: xs) ∧ (W.setCell ⟨gl, j, none⟩ v).ownsRow 0 3 1 (.slice wa m wc) m (IS (L.map cd)) ∧ Same w (W.setCell ⟨gl, j, none⟩ v)) := hidden (fun W j v oo h e => by
                obtain ⟨p1, p2, p3, p4, p5⟩ := HKp.out W h
                have hk : Kept (fun q => q = gl) W (W.setCell ⟨gl, j, none⟩ v) := (Kept.refl (fun q => q = gl) W).setCell (p := ⟨gl, j, none⟩) rfl _
                exact ⟨opb_set p1 j v oo e, opb_kept p2 hk hglw, ⟨own_kept p3.own hk (fun q hq e => own_apart p3.own p1 (by decide) (by have e' : q = gl := e; rw [hq, e']))⟩, own_kept p4 hk (fun q hq e => own_apart p4 p1 (by decide) (by have e' : q = gl := e; rw [hq, e'])), p5.setNew (p := ⟨gl, j, none⟩) (by simp; omega) _⟩)
              obtain ⟨b1, ob1, he, hc⟩ := HO.out.row.at (by simp [TS])
              obtain ⟨rfl⟩ : va = some ⟨b1, ob1, none⟩ := by simpa using he
              have hX := hc (k + 1) (.string (BA x)) (by simp [TS, hxk])
              obtain ⟨b2, ob2, he2, hc2⟩ := (Row.own HR.out).at (by rw [IS_len, List.length_map, ← HM.out]; omega)
              obtain ⟨rfl⟩ : wa = some ⟨b2, ob2, none⟩ := by simpa using he2
              have hcC := hc2 k (.int .i64 (cd b)) (by unfold IS; rw [List.getElem?_map, List.getElem?_map, hb]; rfl)
              have q1 : (k : Int) < (m : Int) := by omega
              have q2 : (0 : Int) ≤ (k : Int) := Int.natCast_nonneg _
              have q3 : (k : Int) + 1 < (n : Int) := by rw [HNm.out]; omega
              have q4 : (0 : Int) ≤ (k : Int) + 1 := by omega
              have t1 : ((k : Int) + 1).toNat = k + 1 := by omega
              have a2 : IntKind.i64.wrap ((k : Int) + 1) = (k : Int) + 1 := by rw [IntKind.wrap_i64]; omega
              have HR1 := hidden (fun W => HRN.out x (by omega) W)
              have HU1 := hidden (fun W => HUQ.out x (by rw [BA_size]; omega) W)
              rw [BA_data] at HU1
              clear hc hc2 he he2
              rcases isL_cases hbL with rfl | rfl | rfl | rfl | rfl | rfl | rfl
              · have hcd : cd 80 = 5 := rfl
                rw [hcd] at hcC
                obtain ⟨z, ab, hZ⟩ : ∃ z ab, rnV (rdN x) = .tuple #[.int .i64 z, .bool ab] := ⟨_, _, rfl⟩
                rw [hZ] at HR1
                cases hr : unq x with
                | none =>
                  have HNe := hidden (HNo.out (by rw [HPs.out, HQ.out.noT hb hxk rfl hr]))
                  rw [hr] at HU1
                  simp only [uqV] at HU1
                  clear hb hxk hZ hr HSet
                  generalize BA x = yx at *
                  go_wp2_with (first
                    | (go_at_call 31; refine (HR1.out _).mono ?_; rintro e w6 ⟨rfl, rfl⟩)
                    | (go_at_call 13; refine (HU1.out _).mono ?_; rintro e w7 ⟨rfl, k7⟩; have K7 := hidden k7; clear k7)
                    | (refine wl_store 28 _ _ rfl rfl rfl w.heap.size rfl OpR.zero.cs rfl (st_op (HKp.out w7 K7.out).2.1) ?_))
                  have hlv := lv_op (opb_row (HKp.out w7 K7.out).2.1 OpR.zero)
                  have S9 := hidden ((HKp.out w7 K7.out).2.2.2.2.setRow (g := w.heap.size) (.inl (Nat.le_refl _)) OpR.zero.cs)
                  generalize w7.setRow w.heap.size OpR.zero.cs = W9 at *
                  exact bodyPost_ret (res_row2 Tryd.results17 rfl hlv rfl) rfl ⟨by rw [HNe.out]; rfl, S9.out⟩
                | some t =>
                  have HQ2 := hidden (HQ.out.txt hb hxk rfl hr hxl)
                  rw [hr] at HU1
                  simp only [uqV] at HU1
                  have HSe := hidden (fun W h => HSet.out W 1 (.string (BA t)) (ok.setT 80 t) h rfl)
                  clear hb hxk hZ hr HSet
                  generalize BA x = yx at *
                  generalize BA t = yt at *
                  go_wp2_with (first
                    | (go_at_call 31; refine (HR1.out _).mono ?_; rintro e w6 ⟨rfl, rfl⟩)
                    | (go_at_call 13; refine (HU1.out _).mono ?_; rintro e w7 ⟨rfl, k7⟩; have K7 := hidden k7; clear k7; have c7 : w7.cell? ⟨gl, 1, none⟩ = some (.string (BA ok.pa)) := (blk_cell (HKp.out w7 K7.out).1); have f7 : w7.frozen? ⟨gl, 1, none⟩ = false := blk_free (HKp.out w7 K7.out).1))
                  obtain ⟨p1, p2, p3, p4, p5⟩ := HSe.out w7 K7.out
                  have P1 := hidden p1; have P2 := hidden p2; have P3 := hidden p3; have P4 := hidden p4; have P5 := hidden p5
                  clear p1 p2 p3 p4 p5
                  go_roundw
                  case rel => exact ⟨k + 1, ok.setT 80 t, by go_num, by omega, HQ2.out, P1.out, P2.out, P3.out, P4.out, P5.out⟩
                  case measure => simp [intOf]; omega
              · have hcd : cd 81 = 6 := rfl
                rw [hcd] at hcC
                obtain ⟨z, ab, hZ⟩ : ∃ z ab, rnV (rdN x) = .tuple #[.int .i64 z, .bool ab] := ⟨_, _, rfl⟩
                rw [hZ] at HR1
                cases hr : unq x with
                | none =>
                  have HNe := hidden (HNo.out (by rw [HPs.out, HQ.out.noT hb hxk rfl hr]))
                  rw [hr] at HU1
                  simp only [uqV] at HU1
                  clear hb hxk hZ hr HSet
                  generalize BA x = yx at *
                  go_wp2_with (first
                    | (go_at_call 31; refine (HR1.out _).mono ?_; rintro e w6 ⟨rfl, rfl⟩)
                    | (go_at_call 13; refine (HU1.out _).mono ?_; rintro e w7 ⟨rfl, k7⟩; have K7 := hidden k7; clear k7)
                    | (refine wl_store 28 _ _ rfl rfl rfl w.heap.size rfl OpR.zero.cs rfl (st_op (HKp.out w7 K7.out).2.1) ?_))
                  have hlv := lv_op (opb_row (HKp.out w7 K7.out).2.1 OpR.zero)
                  have S9 := hidden ((HKp.out w7 K7.out).2.2.2.2.setRow (g := w.heap.size) (.inl (Nat.le_refl _)) OpR.zero.cs)
                  generalize w7.setRow w.heap.size OpR.zero.cs = W9 at *
                  exact bodyPost_ret (res_row2 Tryd.results17 rfl hlv rfl) rfl ⟨by rw [HNe.out]; rfl, S9.out⟩
                | some t =>
                  have HQ2 := hidden (HQ.out.txt hb hxk rfl hr hxl)
                  rw [hr] at HU1
                  simp only [uqV] at HU1
                  have HSe := hidden (fun W h => HSet.out W 2 (.string (BA t)) (ok.setT 81 t) h rfl)
                  clear hb hxk hZ hr HSet
                  generalize BA x = yx at *
                  generalize BA t = yt at *
                  go_wp2_with (first
                    | (go_at_call 31; refine (HR1.out _).mono ?_; rintro e w6 ⟨rfl, rfl⟩)
                    | (go_at_call 13; refine (HU1.out _).mono ?_; rintro e w7 ⟨rfl, k7⟩; have K7 := hidden k7; clear k7; have c7 : w7.cell? ⟨gl, 2, none⟩ = some (.string (BA ok.ot)) := (blk_cell (HKp.out w7 K7.out).1); have f7 : w7.frozen? ⟨gl, 2, none⟩ = false := blk_free (HKp.out w7 K7.out).1))
                  obtain ⟨p1, p2, p3, p4, p5⟩ := HSe.out w7 K7.out
                  have P1 := hidden p1; have P2 := hidden p2; have P3 := hidden p3; have P4 := hidden p4; have P5 := hidden p5
                  clear p1 p2 p3 p4 p5
                  go_roundw
                  case rel => exact ⟨k + 1, ok.setT 81 t, by go_num, by omega, HQ2.out, P1.out, P2.out, P3.out, P4.out, P5.out⟩
                  case measure => simp [intOf]; omega
              · have hcd : cd 68 = 7 := rfl
                rw [hcd] at hcC
                obtain ⟨z, ab, hZ⟩ : ∃ z ab, rnV (rdN x) = .tuple #[.int .i64 z, .bool ab] := ⟨_, _, rfl⟩
                rw [hZ] at HR1
                cases hr : unq x with
                | none =>
                  have HNe := hidden (HNo.out (by rw [HPs.out, HQ.out.noT hb hxk rfl hr]))
                  rw [hr] at HU1
                  simp only [uqV] at HU1
                  clear hb hxk hZ hr HSet
                  generalize BA x = yx at *
                  go_wp2_with (first
                    | (go_at_call 31; refine (HR1.out _).mono ?_; rintro e w6 ⟨rfl, rfl⟩)
                    | (go_at_call 13; refine (HU1.out _).mono ?_; rintro e w7 ⟨rfl, k7⟩; have K7 := hidden k7; clear k7)
                    | (refine wl_store 28 _ _ rfl rfl rfl w.heap.size rfl OpR.zero.cs rfl (st_op (HKp.out w7 K7.out).2.1) ?_))
                  have hlv := lv_op (opb_row (HKp.out w7 K7.out).2.1 OpR.zero)
                  have S9 := hidden ((HKp.out w7 K7.out).2.2.2.2.setRow (g := w.heap.size) (.inl (Nat.le_refl _)) OpR.zero.cs)
                  generalize w7.setRow w.heap.size OpR.zero.cs = W9 at *
                  exact bodyPost_ret (res_row2 Tryd.results17 rfl hlv rfl) rfl ⟨by rw [HNe.out]; rfl, S9.out⟩
                | some t =>
                  have HQ2 := hidden (HQ.out.txt hb hxk rfl hr hxl)
                  rw [hr] at HU1
                  simp only [uqV] at HU1
                  have HSe := hidden (fun W h => HSet.out W 7 (.string (BA t)) (ok.setT 68 t) h rfl)
                  clear hb hxk hZ hr HSet
                  generalize BA x = yx at *
                  generalize BA t = yt at *
                  go_wp2_with (first
                    | (go_at_call 31; refine (HR1.out _).mono ?_; rintro e w6 ⟨rfl, rfl⟩)
                    | (go_at_call 13; refine (HU1.out _).mono ?_; rintro e w7 ⟨rfl, k7⟩; have K7 := hidden k7; clear k7; have c7 : w7.cell? ⟨gl, 7, none⟩ = some (.string (BA ok.da)) := (blk_cell (HKp.out w7 K7.out).1); have f7 : w7.frozen? ⟨gl, 7, none⟩ = false := blk_free (HKp.out w7 K7.out).1))
                  obtain ⟨p1, p2, p3, p4, p5⟩ := HSe.out w7 K7.out
                  have P1 := hidden p1; have P2 := hidden p2; have P3 := hidden p3; have P4 := hidden p4; have P5 := hidden p5
                  clear p1 p2 p3 p4 p5
                  go_roundw
                  case rel => exact ⟨k + 1, ok.setT 68 t, by go_num, by omega, HQ2.out, P1.out, P2.out, P3.out, P4.out, P5.out⟩
                  case measure => simp [intOf]; omega
              · have hcd : cd 72 = 1 := rfl
                rw [hcd] at hcC
                obtain ⟨us, ub, hU⟩ := uq_form x
                rw [hU] at HU1
                cases hr : (rdN x).2 with
                | false =>
                  have HNe := hidden (HNo.out (by rw [HPs.out, HQ.out.noN hb hxk rfl hr]))
                  unfold rnV at HR1
                  rw [hr] at HR1
                  clear hb hxk hU hr HSet
                  generalize (rdN x).1 = z at *
                  generalize BA x = yx at *
                  go_wp2_with (first
                    | (go_at_call 31; refine (HR1.out _).mono ?_; rintro e w6 ⟨rfl, rfl⟩)
                    | (go_at_call 13; refine (HU1.out _).mono ?_; rintro e w7 ⟨rfl, k7⟩; have K7 := hidden k7; clear k7)
                    | (refine wl_store 28 _ _ rfl rfl rfl w.heap.size rfl OpR.zero.cs rfl (st_op (HKp.out w7 K7.out).2.1) ?_))
                  have hlv := lv_op (opb_row (HKp.out w7 K7.out).2.1 OpR.zero)
                  have S9 := hidden ((HKp.out w7 K7.out).2.2.2.2.setRow (g := w.heap.size) (.inl (Nat.le_refl _)) OpR.zero.cs)
                  generalize w7.setRow w.heap.size OpR.zero.cs = W9 at *
                  exact bodyPost_ret (res_row2 Tryd.results17 rfl hlv rfl) rfl ⟨by rw [HNe.out]; rfl, S9.out⟩
                | true =>
                  have HQ2 := hidden (HQ.out.num hb hxk rfl hr)
                  unfold rnV at HR1
                  rw [hr] at HR1
                  have HSe := hidden (fun W h => HSet.out W 3 (.int .i64 (rdN x).1) (ok.setN 72 (rdN x).1) h rfl)
                  clear hb hxk hU hr HSet
                  generalize (rdN x).1 = z at *
                  generalize BA x = yx at *
                  go_wp2_with (first
                    | (go_at_call 31; refine (HR1.out _).mono ?_; rintro e w6 ⟨rfl, rfl⟩)
                    | (go_at_call 13; refine (HU1.out _).mono ?_; rintro e w7 ⟨rfl, k7⟩; have K7 := hidden k7; clear k7; have c7 : w7.cell? ⟨gl, 3, none⟩ = some (.int .i64 ok.ha) := (blk_cell (HKp.out w7 K7.out).1); have f7 : w7.frozen? ⟨gl, 3, none⟩ = false := blk_free (HKp.out w7 K7.out).1))
                  obtain ⟨p1, p2, p3, p4, p5⟩ := HSe.out w7 K7.out
                  have P1 := hidden p1; have P2 := hidden p2; have P3 := hidden p3; have P4 := hidden p4; have P5 := hidden p5
                  clear p1 p2 p3 p4 p5
                  go_roundw
                  case rel => exact ⟨k + 1, ok.setN 72 z, by go_num, by omega, HQ2.out, P1.out, P2.out, P3.out, P4.out, P5.out⟩
                  case measure => simp [intOf]; omega
              · have hcd : cd 79 = 2 := rfl
                rw [hcd] at hcC
                obtain ⟨us, ub, hU⟩ := uq_form x
                rw [hU] at HU1
                cases hr : (rdN x).2 with
                | false =>
                  have HNe := hidden (HNo.out (by rw [HPs.out, HQ.out.noN hb hxk rfl hr]))
                  unfold rnV at HR1
                  rw [hr] at HR1
                  clear hb hxk hU hr HSet
                  generalize (rdN x).1 = z at *
                  generalize BA x = yx at *
                  go_wp2_with (first
                    | (go_at_call 31; refine (HR1.out _).mono ?_; rintro e w6 ⟨rfl, rfl⟩)
                    | (go_at_call 13; refine (HU1.out _).mono ?_; rintro e w7 ⟨rfl, k7⟩; have K7 := hidden k7; clear k7)
                    | (refine wl_store 28 _ _ rfl rfl rfl w.heap.size rfl OpR.zero.cs rfl (st_op (HKp.out w7 K7.out).2.1) ?_))
                  have hlv := lv_op (opb_row (HKp.out w7 K7.out).2.1 OpR.zero)
                  have S9 := hidden ((HKp.out w7 K7.out).2.2.2.2.setRow (g := w.heap.size) (.inl (Nat.le_refl _)) OpR.zero.cs)
                  generalize w7.setRow w.heap.size OpR.zero.cs = W9 at *
                  exact bodyPost_ret (res_row2 Tryd.results17 rfl hlv rfl) rfl ⟨by rw [HNe.out]; rfl, S9.out⟩
                | true =>
                  have HQ2 := hidden (HQ.out.num hb hxk rfl hr)
                  unfold rnV at HR1
                  rw [hr] at HR1
                  have HSe := hidden (fun W h => HSet.out W 4 (.int .i64 (rdN x).1) (ok.setN 79 (rdN x).1) h rfl)
                  clear hb hxk hU hr HSet
                  generalize (rdN x).1 = z at *
                  generalize BA x = yx at *
                  go_wp2_with (first
                    | (go_at_call 31; refine (HR1.out _).mono ?_; rintro e w6 ⟨rfl, rfl⟩)
                    | (go_at_call 13; refine (HU1.out _).mono ?_; rintro e w7 ⟨rfl, k7⟩; have K7 := hidden k7; clear k7; have c7 : w7.cell? ⟨gl, 4, none⟩ = some (.int .i64 ok.of) := (blk_cell (HKp.out w7 K7.out).1); have f7 : w7.frozen? ⟨gl, 4, none⟩ = false := blk_free (HKp.out w7 K7.out).1))
                  obtain ⟨p1, p2, p3, p4, p5⟩ := HSe.out w7 K7.out
                  have P1 := hidden p1; have P2 := hidden p2; have P3 := hidden p3; have P4 := hidden p4; have P5 := hidden p5
                  clear p1 p2 p3 p4 p5
                  go_roundw
                  case rel => exact ⟨k + 1, ok.setN 79 z, by go_num, by omega, HQ2.out, P1.out, P2.out, P3.out, P4.out, P5.out⟩
                  case measure => simp [intOf]; omega
              · have hcd : cd 78 = 3 := rfl
                rw [hcd] at hcC
                obtain ⟨us, ub, hU⟩ := uq_form x
                rw [hU] at HU1
                cases hr : (rdN x).2 with
                | false =>
                  have HNe := hidden (HNo.out (by rw [HPs.out, HQ.out.noN hb hxk rfl hr]))
                  unfold rnV at HR1
                  rw [hr] at HR1
                  clear hb hxk hU hr HSet
                  generalize (rdN x).1 = z at *
                  generalize BA x = yx at *
                  go_wp2_with (first
                    | (go_at_call 31; refine (HR1.out _).mono ?_; rintro e w6 ⟨rfl, rfl⟩)
                    | (go_at_call 13; refine (HU1.out _).mono ?_; rintro e w7 ⟨rfl, k7⟩; have K7 := hidden k7; clear k7)
                    | (refine wl_store 28 _ _ rfl rfl rfl w.heap.size rfl OpR.zero.cs rfl (st_op (HKp.out w7 K7.out).2.1) ?_))
                  have hlv := lv_op (opb_row (HKp.out w7 K7.out).2.1 OpR.zero)
                  have S9 := hidden ((HKp.out w7 K7.out).2.2.2.2.setRow (g := w.heap.size) (.inl (Nat.le_refl _)) OpR.zero.cs)
                  generalize w7.setRow w.heap.size OpR.zero.cs = W9 at *
                  exact bodyPost_ret (res_row2 Tryd.results17 rfl hlv rfl) rfl ⟨by rw [HNe.out]; rfl, S9.out⟩
                | true =>
                  have HQ2 := hidden (HQ.out.num hb hxk rfl hr)
                  unfold rnV at HR1
                  rw [hr] at HR1
                  have HSe := hidden (fun W h => HSet.out W 5 (.int .i64 (rdN x).1) (ok.setN 78 (rdN x).1) h rfl)
                  clear hb hxk hU hr HSet
                  generalize (rdN x).1 = z at *
                  generalize BA x = yx at *
                  go_wp2_with (first
                    | (go_at_call 31; refine (HR1.out _).mono ?_; rintro e w6 ⟨rfl, rfl⟩)
                    | (go_at_call 13; refine (HU1.out _).mono ?_; rintro e w7 ⟨rfl, k7⟩; have K7 := hidden k7; clear k7; have c7 : w7.cell? ⟨gl, 5, none⟩ = some (.int .i64 ok.nn) := (blk_cell (HKp.out w7 K7.out).1); have f7 : w7.frozen? ⟨gl, 5, none⟩ = false := blk_free (HKp.out w7 K7.out).1))
                  obtain ⟨p1, p2, p3, p4, p5⟩ := HSe.out w7 K7.out
                  have P1 := hidden p1; have P2 := hidden p2; have P3 := hidden p3; have P4 := hidden p4; have P5 := hidden p5
                  clear p1 p2 p3 p4 p5
                  go_roundw
                  case rel => exact ⟨k + 1, ok.setN 78 z, by go_num, by omega, HQ2.out, P1.out, P2.out, P3.out, P4.out, P5.out⟩
                  case measure => simp [intOf]; omega
              · have hcd : cd 70 = 4 := rfl
                rw [hcd] at hcC
                obtain ⟨us, ub, hU⟩ := uq_form x
                rw [hU] at HU1
                cases hr : (rdN x).2 with
                | false =>
                  have HNe := hidden (HNo.out (by rw [HPs.out, HQ.out.noN hb hxk rfl hr]))
                  unfold rnV at HR1
                  rw [hr] at HR1
                  clear hb hxk hU hr HSet
                  generalize (rdN x).1 = z at *
                  generalize BA x = yx at *
                  go_wp2_with (first
                    | (go_at_call 31; refine (HR1.out _).mono ?_; rintro e w6 ⟨rfl, rfl⟩)
                    | (go_at_call 13; refine (HU1.out _).mono ?_; rintro e w7 ⟨rfl, k7⟩; have K7 := hidden k7; clear k7)
                    | (refine wl_store 28 _ _ rfl rfl rfl w.heap.size rfl OpR.zero.cs rfl (st_op (HKp.out w7 K7.out).2.1) ?_))
                  have hlv := lv_op (opb_row (HKp.out w7 K7.out).2.1 OpR.zero)
                  have S9 := hidden ((HKp.out w7 K7.out).2.2.2.2.setRow (g := w.heap.size) (.inl (Nat.le_refl _)) OpR.zero.cs)
                  generalize w7.setRow w.heap.size OpR.zero.cs = W9 at *
                  exact bodyPost_ret (res_row2 Tryd.results17 rfl hlv rfl) rfl ⟨by rw [HNe.out]; rfl, S9.out⟩
                | true =>
                  have HQ2 := hidden (HQ.out.num hb hxk rfl hr)
                  unfold rnV at HR1
                  rw [hr] at HR1
                  have HSe := hidden (fun W h => HSet.out W 6 (.int .i64 (rdN x).1) (ok.setN 70 (rdN x).1) h rfl)
                  clear hb hxk hU hr HSet
                  generalize (rdN x).1 = z at *
                  generalize BA x = yx at *
                  go_wp2_with (first
                    | (go_at_call 31; refine (HR1.out _).mono ?_; rintro e w6 ⟨rfl, rfl⟩)
                    | (go_at_call 13; refine (HU1.out _).mono ?_; rintro e w7 ⟨rfl, k7⟩; have K7 := hidden k7; clear k7; have c7 : w7.cell? ⟨gl, 6, none⟩ = some (.int .i64 ok.fl) := (blk_cell (HKp.out w7 K7.out).1); have f7 : w7.frozen? ⟨gl, 6, none⟩ = false := blk_free (HKp.out w7 K7.out).1))
                  obtain ⟨p1, p2, p3, p4, p5⟩ := HSe.out w7 K7.out
                  have P1 := hidden p1; have P2 := hidden p2; have P3 := hidden p3; have P4 := hidden p4; have P5 := hidden p5
                  clear p1 p2 p3 p4 p5
                  go_roundw
                  case rel => exact ⟨k + 1, ok.setN 70 z, by go_num, by omega, HQ2.out, P1.out, P2.out, P3.out, P4.out, P5.out⟩
                  case measure => simp [intOf]; omega
            · have q1 : ¬ (k : Int) < (m : Int) := by omega
              have HPi := hidden (HYe.out ok (by rw [HPs.out, HQ.out.done (by rw [← HM.out]; omega)]))
              have HD1 := hidden (fun W => HDP.out ok (HQ.out.fit.ok (by decide)) W)
              cases hp : prt ok with
              | none =>
                have HNe := hidden (show piD P = none by rw [HPi.out, hp, if_neg (by simp)])
                rw [hp] at HD1
                simp only [poV] at HD1
                clear hp
                go_wp2_with (first
                  | (refine wl_load 28 _ rfl rfl gl rfl ok.cs (ld_op HL.out) ?_)
                  | (go_at_call 15; refine (HD1.out _).mono ?_; rintro e w7 ⟨rfl, k7⟩; have K7 := hidden k7; clear k7)
                  | (refine wl_store 28 _ _ rfl rfl rfl w.heap.size rfl OpR.zero.cs rfl (st_op (HKp.out w7 K7.out).2.1) ?_))
                have hlv := lv_op (opb_row (HKp.out w7 K7.out).2.1 OpR.zero)
                have S9 := hidden ((HKp.out w7 K7.out).2.2.2.2.setRow (g := w.heap.size) (.inl (Nat.le_refl _)) OpR.zero.cs)
                generalize w7.setRow w.heap.size OpR.zero.cs = W9 at *
                exact bodyPost_ret (res_row2 Tryd.results17 rfl hlv rfl) rfl ⟨by rw [HNe.out]; rfl, S9.out⟩
              | some l =>
                rw [hp] at HD1
                simp only [poV] at HD1
                by_cases hl : l = P
                · have HNe := hidden (show piD P = some ok by rw [HPi.out, hp, if_pos (by rw [hl])])
                  have e4 : (BA l).toList = y.toList := by rw [HY.out, hl]
                  generalize BA l = yl at *
                  have d4 : (yl.toList == y.toList) = true := by simpa using e4
                  have d5 : (yl.toList != y.toList) = false := by rw [bne, d4]; rfl
                  clear hp hl
                  go_wp2_with (first
                    | (refine wl_load 28 _ rfl rfl gl rfl ok.cs (ld_op (HKp.out w7 K7.out).1) ?_)
                    | (refine wl_load 28 _ rfl rfl gl rfl ok.cs (ld_op HL.out) ?_)
                    | (go_at_call 15; refine (HD1.out _).mono ?_; rintro e w7 ⟨rfl, k7⟩; have K7 := hidden k7; clear k7)
                    | (refine wl_store 28 _ _ rfl rfl rfl w.heap.size rfl ok.cs rfl (st_op (HKp.out w7 K7.out).2.1) ?_))
                  have hlv := lv_op (opb_row (HKp.out w7 K7.out).2.1 ok)
                  have S9 := hidden ((HKp.out w7 K7.out).2.2.2.2.setRow (g := w.heap.size) (.inl (Nat.le_refl _)) ok.cs)
                  generalize w7.setRow w.heap.size ok.cs = W9 at *
                  exact bodyPost_ret (res_row2 Tryd.results17 rfl hlv rfl) rfl ⟨by rw [HNe.out]; rfl, S9.out⟩
                · have HNe := hidden (show piD P = none by rw [HPi.out, hp, if_neg (by simpa using hl)])
                  have e4 : ¬ (BA l).toList = y.toList := by rw [HY.out, toList_BA, toList_BA]; exact hl
                  generalize BA l = yl at *
                  have d4 : (yl.toList == y.toList) = false := by simpa using e4
                  have d5 : (yl.toList != y.toList) = true := by rw [bne, d4]; rfl
                  clear hp hl
                  go_wp2_with (first
                    | (refine wl_load 28 _ rfl rfl gl rfl ok.cs (ld_op HL.out) ?_)
                    | (go_at_call 15; refine (HD1.out _).mono ?_; rintro e w7 ⟨rfl, k7⟩; have K7 := hidden k7; clear k7)
                    | (refine wl_store 28 _ _ rfl rfl rfl w.heap.size rfl OpR.zero.cs rfl (st_op (HKp.out w7 K7.out).2.1) ?_))
                  have hlv := lv_op (opb_row (HKp.out w7 K7.out).2.1 OpR.zero)
                  have S9 := hidden ((HKp.out w7 K7.out).2.2.2.2.setRow (g := w.heap.size) (.inl (Nat.le_refl _)) OpR.zero.cs)
                  generalize w7.setRow w.heap.size OpR.zero.cs = W9 at *
                  exact bodyPost_ret (res_row2 Tryd.results17 rfl hlv rfl) rfl ⟨by rw [HNe.out]; rfl, S9.out⟩
        · have hnm : ¬ n = m + 1 := by rw [HN.out]; omega
          have q2 : ¬ (n : Int) = 1 + (m : Int) := by omega
          have d2 : ((n : Int) == 1 + (m : Int)) = false := by simpa using q2
          have d3 : ((n : Int) != 1 + (m : Int)) = true := by rw [bne, d2]; rfl
          have HNe := hidden (HNo.out (by rw [HPw.out, if_pos (.inr h2)]))
          clear h2 hnm
          go_wp2_with (first
            | (go_at_call 26; refine (HWd.out _).mono ?_; rintro e w4 ⟨⟨ua, uc, rfl, r4⟩, k4⟩; have X4 := hidden k4; clear k4 r4)
            | (refine wl_store 28 _ _ rfl rfl rfl w.heap.size rfl OpR.zero.cs rfl (st_op (opb_kept HZ.out X4.out (fun h => h))) ?_))
          have hlv := lv_op (opb_row (opb_kept HZ.out X4.out (fun h => h)) OpR.zero)
          have S9 := hidden ((HS.out.trans X4.out).setRow (g := w.heap.size) (.inl (Nat.le_refl _)) OpR.zero.cs)
          generalize w4.setRow w.heap.size OpR.zero.cs = W9 at *
          exact bodyPost_ret (res_row2 Tryd.results17 rfl hlv rfl) rfl ⟨by rw [HNe.out]; rfl, S9.out⟩
end Go.Proofs.YtndfgpelioipcaaDoor
