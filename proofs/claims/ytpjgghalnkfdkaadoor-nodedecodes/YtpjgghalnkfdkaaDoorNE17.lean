/- node: the document's Decode. (Made by mkne17.py, out of NE14 in parts.) -/
import Derived.Test.YtpjgghalnkfdkaaDoorNE14
import Derived.Test.YtpjgghalnkfdkaaDoorNE16
import Derived.Test.YtpjgghalnkfdkaaDoorNE7
namespace Go.Proofs.YtpjgghalnkfdkaaDoor
open Go.RowKit
set_option linter.unusedVariables false
set_option linter.unusedSimpArgs false
theorem read_any (b : List UInt8) (ao : Option Addr) (s cap : Nat) (w : World) (hb : Bt w (.slice ao s cap) b) (h0 : 512 ≤ s) (h1 : s ≤ 4096) :
    Calls Tryd.prog 46 #[.slice ao s cap] w fun e w' => ∃ u, e = .returned u ∧ RDq (bLeaf b) (bCnt b) (b.drop 16) w u w' := by
  cases hlf : bLeaf b
  · exact rdInner _ b ao s cap w hb h0 h1 (by unfold bLeaf at hlf; simpa using hlf) rfl
  · exact rdLeaf _ b ao s cap w hb h0 h1 (by unfold bLeaf at hlf; simpa using hlf) rfl
set_option maxHeartbeats 2000000 in
set_option maxRecDepth 100000 in
theorem refDecode_size (sz : Int) (b : List UInt8) (v : Value) (w : World) (hj : ¬ JSize sz) :
    Calls Tryd.prog 19 #[.int .i64 sz, v] w fun e w' => ∃ u, e = .returned u ∧ DeQ sz b w u w' := by
  have he : Nd.dec sz b = (Nd.zero, 1) := by unfold Nd.dec; rw [if_neg hj]
  have HR := hidden (show ∀ (x : Unit) W, Same w W → ∃ u, Ending.returned (.tuple #[.agg #[.bool false, .slice none 0 0, .slice none 0 0, .slice none 0 0], .int .i64 1]) = .returned u ∧ DeQ sz b w u W from fun _ W k => ⟨_, rfl, ⟨_, by rw [he], by rw [he]; exact ndr_zero _, k⟩⟩)
  have HM := hidden (fun W => power_any sz W)
  rw [decide_eq_false hj] at HM
  have G0 := hidden (blk_new w (.cells #[.bool false, .slice none 0 0, .slice none 0 0, .slice none 0 0] 25))
  have K0 := hidden (same_alloc w (.cells #[.bool false, .slice none 0 0, .slice none 0 0, .slice none 0 0] 25))
  obtain ⟨x0, x1, x2, x3⟩ := cells4 G0.out
  obtain ⟨f0, f1, f2, f3⟩ := free4 G0.out
  clear hj he
  go_enter Tryd.func19, Tryd.ntmps19
  go_wp2_with (go_at_call 35; refine (HM.out _).mono ?_; rintro e w1' ⟨rfl, rfl⟩)
  exact bodyPost_ret (v := .tuple #[.agg #[.bool false, .slice none 0 0, .slice none 0 0, .slice none 0 0], .int .i64 1]) (by simp [results, Tryd.results19, go_sem, x0, x1, x2, x3]) rfl (HR.out () _ K0.out)
set_option maxHeartbeats 2000000 in
set_option maxRecDepth 100000 in
theorem refDecode_len (s : Nat) (b : List UInt8) (ao : Option Addr) (n cap : Nat) (w : World) (hb : Bt w (.slice ao n cap) b) (hj : JSize s) (hl : b.length ≠ s) :
    Calls Tryd.prog 19 #[.int .i64 (s : Nat), .slice ao n cap] w fun e w' => ∃ u, e = .returned u ∧ DeQ s b w u w' := by
  have he : Nd.dec s b = (Nd.zero, 90) := by unfold Nd.dec; rw [if_pos hj, if_neg (by omega)]
  have HR := hidden (show ∀ (x : Unit) W, Same w W → ∃ u, Ending.returned (.tuple #[.agg #[.bool false, .slice none 0 0, .slice none 0 0, .slice none 0 0], .int .i64 90]) = .returned u ∧ DeQ s b w u W from fun _ W k => ⟨_, rfl, ⟨_, by rw [he], by rw [he]; exact ndr_zero _, k⟩⟩)
  have HM := hidden (fun W => power_any (s : Int) W)
  rw [decide_eq_true hj] at HM
  have hn := hb.len.1
  have q1 : ((n : Int) != (s : Int)) = true := by simp; omega
  have q2 : ¬ (n : Int) = (s : Int) := by omega
  have q3 : ((n : Int) == (s : Int)) = false := by simp; omega
  have G0 := hidden (blk_new w (.cells #[.bool false, .slice none 0 0, .slice none 0 0, .slice none 0 0] 25))
  have K0 := hidden (same_alloc w (.cells #[.bool false, .slice none 0 0, .slice none 0 0, .slice none 0 0] 25))
  obtain ⟨x0, x1, x2, x3⟩ := cells4 G0.out
  obtain ⟨f0, f1, f2, f3⟩ := free4 G0.out
  clear hj he hb hl hn
  go_enter Tryd.func19, Tryd.ntmps19
  go_wp2_with (go_at_call 35; refine (HM.out _).mono ?_; rintro e w1' ⟨rfl, rfl⟩)
  exact bodyPost_ret (v := .tuple #[.agg #[.bool false, .slice none 0 0, .slice none 0 0, .slice none 0 0], .int .i64 90]) (by simp [results, Tryd.results19, go_sem, x0, x1, x2, x3]) rfl (HR.out () _ K0.out)
theorem dec_d {s : Nat} {b : List UInt8} (hj : JSize s) (hl : b.length = s) : Nd.dec s b = match decD b with | none => (Nd.zero, 90) | some n => (n, 0) := by
  unfold Nd.dec
  rw [if_pos hj, if_pos (by omega)]
  cases decD b <;> rfl
theorem decD_none {b : List UInt8} (h : pN (bLeaf b) (bCnt b) (b.drop 16) = none) : decD b = none := by unfold decD; rw [h]
theorem decD_some {b : List UInt8} {n : Nd} {r : List UInt8} (h : pN (bLeaf b) (bCnt b) (b.drop 16) = some (n, r)) : decD b = if n.chk = 0 ∧ n.size ≤ b.length ∧ n.enc b.length = b then some n else none := by
  unfold decD; rw [h]
theorem encE_zero {n : Nd} {s : Nat} (hj : JSize s) : n.encE s = 0 ↔ n.chk = 0 ∧ n.size ≤ s := by
  unfold Nd.encE
  by_cases hc : n.chk = 0
  · rw [if_pos hc, if_pos hj]
    by_cases hf : (s : Int) < (n.size : Int)
    · rw [if_pos hf]
      exact ⟨fun h => absurd h (by decide), fun h => by omega⟩
    · rw [if_neg hf]
      exact ⟨fun _ => ⟨hc, by omega⟩, fun _ => rfl⟩
  · rw [if_neg hc]
    exact ⟨fun h => absurd h hc, fun h => absurd h.1 hc⟩
set_option maxHeartbeats 8000000 in
set_option maxRecDepth 100000 in
theorem refDecode_fit (s : Nat) (b : List UInt8) (ao : Option Addr) (cap : Nat) (w : World) (hb : Bt w (.slice ao s cap) b) (hj : JSize s) :
    Calls Tryd.prog 19 #[.int .i64 (s : Nat), .slice ao s cap] w fun e w' => ∃ u, e = .returned u ∧ DeQ s b w u w' := by
  have hl : b.length = s := hb.len.1.symm
  have hs0 : 512 ≤ s := by have := hj.1; omega
  have hs1 : s ≤ 4096 := by have := hj.2.1; omega
  have hdec := dec_d hj hl
  have HM := hidden (fun W => power_any (s : Int) W)
  rw [decide_eq_true hj] at HM
  have G0 := hidden (blk_new w (.cells #[.bool false, .slice none 0 0, .slice none 0 0, .slice none 0 0] 25))
  have K0 := hidden (same_alloc w (.cells #[.bool false, .slice none 0 0, .slice none 0 0, .slice none 0 0] 25))
  have HRd := hidden (read_any b ao s cap _ (hb.same K0.out) hs0 hs1)
  have hcnt : bCnt b < 65536 := by
    have := num_lt ((b.drop 6).take 2)
    have hh : ((b.drop 6).take 2).length = 2 := by rw [List.length_take, List.length_drop]; omega
    rw [hh] at this
    exact this
  have HB := hidden hb
  have HJ := hidden hj
  have HDEC := hidden hdec
  have HS := hidden (show 512 ≤ s ∧ s ≤ 4096 ∧ b.length = s from ⟨hs0, hs1, hl⟩)
  have HCN := hidden hcnt
  have q1 : ((s : Int) != (s : Int)) = false := by simp
  clear hb hj hdec hl hs0 hs1 hcnt
  have tk : True := trivial
  go_enter Tryd.func19, Tryd.ntmps19
  go_upto_region 6 with (first
    | (go_at_call 35; refine (HM.out _).mono ?_; rintro e w1' ⟨rfl, rfl⟩)
    | (go_at_call 46; refine HRd.out.mono ?_; rintro e w4 ⟨u, rfl, hre⟩; obtain ⟨n, x, ok, rfl, hnd, hy, hn, hlf, hk1, hk2, hk3, k4⟩ := hre.out; clear hre; obtain ⟨a1, a2, a3, c1, c2, c3, rfl, r1, r2, r3⟩ := hnd w4 (Kept.refl _ _); have HN := hidden hnd; have HY := hidden hy; have HNO := hidden hn; have G1 := hidden G0.out; clear G0; have G0 := hidden (blk_alloc (blk_kept k4 (fun h => h) G1.out) (.cells #[.bool n.leaf, .slice a1 n.keys.length c1, .slice a2 n.vals.length c2, .slice a3 n.kids.length c3] 25)); have K1 := hidden K0.out; clear K0; have K0 := hidden ((K1.out.trans k4).alloc (.cells #[.bool n.leaf, .slice a1 n.keys.length c1, .slice a2 n.vals.length c2, .slice a3 n.kids.length c3] 25)); have N5 := hidden (blk_new w4 (.cells #[.bool n.leaf, .slice a1 n.keys.length c1, .slice a2 n.vals.length c2, .slice a3 n.kids.length c3] 25)); have R1 := hidden (r1.same (same_alloc w4 (.cells #[.bool n.leaf, .slice a1 n.keys.length c1, .slice a2 n.vals.length c2, .slice a3 n.kids.length c3] 25))); have R2 := hidden (r2.same (same_alloc w4 (.cells #[.bool n.leaf, .slice a1 n.keys.length c1, .slice a2 n.vals.length c2, .slice a3 n.kids.length c3] 25))); have R3 := hidden (r3.same (same_alloc w4 (.cells #[.bool n.leaf, .slice a1 n.keys.length c1, .slice a2 n.vals.length c2, .slice a3 n.kids.length c3] 25))); have SZ : Hid (w.heap.size < (w.alloc (.cells #[.bool false, .slice none 0 0, .slice none 0 0, .slice none 0 0] 25)).heap.size) := hidden (blk_lt G1.out); have K4 := hidden (same_alloc w4 (.cells #[.bool n.leaf, .slice a1 n.keys.length c1, .slice a2 n.vals.length c2, .slice a3 n.kids.length c3] 25)); have BD : Hid (n.keys.length ≤ bCnt b ∧ n.vals.length ≤ bCnt b ∧ n.kids.length ≤ bCnt b + 1) := hidden ⟨hk1, hk2, hk3⟩; have HLFN := hidden hlf; obtain ⟨n0, n1, n2, n3⟩ := cells4 N5.out; obtain ⟨x0, x1, x2, x3⟩ := cells4 G0.out; obtain ⟨f0, f1, f2, f3⟩ := free4 G0.out; clear hlf hnd hy hn r1 r2 r3 k4 G1 K1 hk1 hk2 hk3))
  obtain ⟨g6, hg6⟩ : ∃ g, g = w4.heap.size := ⟨_, rfl⟩
  rw [← hg6] at n0 n1 n2 n3 N5 ⊢
  generalize hW5 : w4.alloc (.cells #[.bool n.leaf, .slice a1 n.keys.length c1, .slice a2 n.vals.length c2, .slice a3 n.kids.length c3] 25) = W5 at n0 n1 n2 n3 x0 x1 x2 x3 f0 f1 f2 f3 G0 K0 N5 R1 R2 R3 K4 ⊢
  clear hW5 hg6 tk
  cases ok
  · have hd : Nd.dec s b = (Nd.zero, 90) := by rw [HDEC.out, decD_none (HNO.out rfl)]
    go_wp2
    have gf := fill4 (W := W5) (g := w.heap.size) G0.out (.bool false) (.slice none 0 0) (.slice none 0 0) (.slice none 0 0)
    have sf := same_fill4 (W := W5) K0.out (g := w.heap.size) (Nat.le_refl _) (.bool false) (.slice none 0 0) (.slice none 0 0) (.slice none 0 0)
    have kf := kept_fill4 (W := W5) (g := w.heap.size) (.bool false) (.slice none 0 0) (.slice none 0 0) (.slice none 0 0)
    generalize ((((W5.setCell ⟨w.heap.size, 0, none⟩ (.bool false)).setCell ⟨w.heap.size, 1, none⟩ (.slice none 0 0)).setCell ⟨w.heap.size, 2, none⟩ (.slice none 0 0)).setCell ⟨w.heap.size, 3, none⟩ (.slice none 0 0)) = WF at gf sf kf ⊢
    obtain ⟨p0, p1, p2, p3⟩ := cells4 gf
    exact bodyPost_ret (v := .tuple #[.agg #[.bool false, .slice none 0 0, .slice none 0 0, .slice none 0 0], .int .i64 90]) (by simp [results, Tryd.results19, go_sem, p0, p1, p2, p3]) rfl ⟨_, rfl, ⟨_, by rw [hd], by rw [hd]; exact ndr_zero _, sf⟩⟩
  · obtain ⟨r, hyes⟩ := HY.out rfl
    have hds := decD_some hyes
    rw [HS.out.2.2] at hds
    have hcn := HCN.out
    have hbdl := BD.out
    have hbd : n.Bd := ⟨by omega, by omega, by omega⟩
    obtain ⟨en, hen⟩ : ∃ en, n.encE (s : Int) = en := ⟨_, rfl⟩
    have hez := encE_zero (n := n) HJ.out
    rw [hen] at hez
    have HEn : Hid (Calls Tryd.prog 10 #[.int .i64 (s : Nat), .agg #[.bool n.leaf, .slice a1 n.keys.length c1, .slice a2 n.vals.length c2, .slice a3 n.kids.length c3]] W5 fun e w' => ∃ cv, e = .returned (.tuple #[cv, .int .i64 en]) ∧ Bt w' cv (n.encB s) ∧ Same W5 w') := hidden ((refEncode_any n a1 a2 a3 n.keys.length c1 n.vals.length c2 n.kids.length c3 (s : Int) W5 R1.out R2.out R3.out hbd (by omega)).mono (fun e w' ⟨u, h1, h2⟩ => by
      obtain ⟨cv, h3, h4, h5⟩ := h2.out
      rw [hen] at h3
      exact ⟨cv, by rw [h1, h3], h4, h5⟩))
    have hdec := HDEC.out
    by_cases hz : en = 0
    rotate_left
    · have hd : Nd.dec s b = (Nd.zero, 90) := by rw [hdec, hds, if_neg (fun h => hz (hez.2 ⟨h.1, h.2.1⟩))]
      have hz1 : (en == 0) = false := beq_eq_false_iff_ne.2 hz
      have hz2 : (en != 0) = true := by rw [bne_iff_ne]; exact hz
      clear hyes hds hez hen hdec
      go_wp2_with (go_at_call 10; refine HEn.out.mono ?_; rintro e w6 ⟨cv, rfl, hbc, k6⟩; have K6 := hidden (K0.out.trans k6); have G6 := hidden (blk_kept k6 (fun h => h) G0.out); obtain ⟨xx0, xx1, xx2, xx3⟩ := cells4 G6.out; obtain ⟨ff0, ff1, ff2, ff3⟩ := free4 G6.out; clear hbc k6)
      have gf := fill4 (W := w6) (g := w.heap.size) G6.out (.bool false) (.slice none 0 0) (.slice none 0 0) (.slice none 0 0)
      have sf := same_fill4 (W := w6) K6.out (g := w.heap.size) (Nat.le_refl _) (.bool false) (.slice none 0 0) (.slice none 0 0) (.slice none 0 0)
      have kf := kept_fill4 (W := w6) (g := w.heap.size) (.bool false) (.slice none 0 0) (.slice none 0 0) (.slice none 0 0)
      generalize ((((w6.setCell ⟨w.heap.size, 0, none⟩ (.bool false)).setCell ⟨w.heap.size, 1, none⟩ (.slice none 0 0)).setCell ⟨w.heap.size, 2, none⟩ (.slice none 0 0)).setCell ⟨w.heap.size, 3, none⟩ (.slice none 0 0)) = WF at gf sf kf ⊢
      obtain ⟨p0, p1, p2, p3⟩ := cells4 gf
      exact bodyPost_ret (v := .tuple #[.agg #[.bool false, .slice none 0 0, .slice none 0 0, .slice none 0 0], .int .i64 90]) (by simp [results, Tryd.results19, go_sem, p0, p1, p2, p3]) rfl ⟨_, rfl, ⟨_, by rw [hd], by rw [hd]; exact ndr_zero _, sf⟩⟩
    · subst hz
      obtain ⟨hck, hsz⟩ := hez.1 rfl
      have hB : n.encB (s : Int) = n.enc s := by unfold Nd.encB; rw [if_pos hen]; rfl
      rw [hB] at HEn
      have hel : (n.enc s).length = s := encS_len _ _ _ _ (by have := body_len (chk_fine hck); omega)
      have hdd : Nd.dec s b = if n.enc s = b then (n, 0) else (Nd.zero, 90) := by
        rw [hdec, hds]
        by_cases hq : n.enc s = b
        · rw [if_pos ⟨hck, hsz, hq⟩, if_pos hq]
        · rw [if_neg (fun h => hq h.2.2), if_neg hq]
      obtain ⟨EB, hEB⟩ : ∃ EB, n.enc s = EB := ⟨_, rfl⟩
      rw [hEB] at HEn hel hdd
      have HDD := hidden hdd
      have HELN := hidden hel
      have hsb := HS.out
      clear hyes hds hez hen hdec hck hsz hB hel hdd hEB hbd hbdl hcn
      go_wp2_with (go_at_call 10; refine HEn.out.mono ?_; rintro e w6 ⟨cv, rfl, hbc, k6⟩; have K6 := hidden (K0.out.trans k6); have K56 := hidden k6; have G6 := hidden (blk_kept k6 (fun h => h) G0.out); have N6 := hidden (blk_kept k6 (fun h => h) N5.out); have BC := hidden hbc; clear hbc k6)
      go_loopw [10] (fun i wr => ∃ k : Nat, k ≤ s ∧ i = .int .i64 k ∧ EB.take k = b.take k ∧ Same w6 wr) (fun i _ => s - (intOf i).toNat)
      case atStart => exact ⟨0, Nat.zero_le _, rfl, rfl, Kept.refl _ _⟩
      case round =>
        obtain ⟨k, hk, rfl, htk, hK⟩ := hrel
        have HK := hidden hK
        have HT := hidden htk
        have GR := hidden (blk_kept hK (fun h => h) G6.out)
        have NR := hidden (blk_kept hK (fun h => h) N6.out)
        have KR := hidden (K6.out.trans hK)
        obtain ⟨y0, y1, y2, y3⟩ := cells4 GR.out
        obtain ⟨z0, z1, z2, z3⟩ := free4 GR.out
        obtain ⟨v0, v1, v2, v3⟩ := cells4 NR.out
        clear hK htk
        by_cases h1 : k < s
        · have h1' : (k : Int) < (s : Int) := by omega
          obtain ⟨aoc, capc, hcv, _⟩ := BC.out.form
          subst hcv
          rw [HELN.out] at BC ⊢
          obtain ⟨b1, o1, rfl, hc1⟩ := BC.out.cell (by rw [HELN.out]; omega)
          obtain ⟨b2, o2, rfl, hc2⟩ := HB.out.cell (by omega)
          have q0 : (0 : Int) ≤ (k : Int) := by omega
          have qi : wrap64 ((k : Int) + 1) = ((k + 1 : Nat) : Int) := IntWalk.wrap64_in _ ⟨by omega, by omega⟩
          have hke : k < EB.length := by rw [HELN.out]; exact h1
          have hkb : k < b.length := by omega
          have e1 := Kept.cell HK.out (fun h => h) (hc1 k hke)
          have e2 := Kept.cell KR.out (fun h => h) (hc2 k hkb)
          unfold U8 at e1 e2
          by_cases hz : EB[k] = b[k]
          · have HTN : Hid (EB.take (k + 1) = b.take (k + 1)) := hidden (by rw [List.take_add_one, List.take_add_one, HT.out, List.getElem?_eq_getElem hke, List.getElem?_eq_getElem hkb, hz])
            rw [hz] at e1
            generalize ((b[k]).toNat : Int) = z at e1 e2
            clear hc1 hc2 hz
            go_wp2
            go_quiet (fail)
            go_wp2
            go_roundw
            case rel => exact ⟨k + 1, by omega, by go_num, HTN.out, HK.out.drewN _⟩
            case measure => simp [intOf]; omega
          · have hd : Nd.dec s b = (Nd.zero, 90) := by rw [HDD.out, if_neg (fun e => hz (by subst e; rfl))]
            have hzi : ((EB[k]).toNat : Int) ≠ ((b[k]).toNat : Int) := fun e => hz (UInt8.toNat_inj.1 (by omega))
            have hzb : (((EB[k]).toNat : Int) == ((b[k]).toNat : Int)) = false := by simpa using hzi
            generalize ((EB[k]).toNat : Int) = z1' at e1 hzi hzb
            generalize ((b[k]).toNat : Int) = z2' at e2 hzi hzb
            clear hc1 hc2 hz
            go_wp2
            go_quiet (fail)
            go_wp2
            have gf := fill4 (W := (wr.drewN nq)) (g := w.heap.size) (blk_kept ((Kept.refl (fun _ => False) wr).drewN nq) (fun h => h) GR.out) (.bool false) (.slice none 0 0) (.slice none 0 0) (.slice none 0 0)
            have sf := same_fill4 (W := (wr.drewN nq)) (KR.out.drewN nq) (g := w.heap.size) (Nat.le_refl _) (.bool false) (.slice none 0 0) (.slice none 0 0) (.slice none 0 0)
            have kf := kept_fill4 (W := (wr.drewN nq)) (g := w.heap.size) (.bool false) (.slice none 0 0) (.slice none 0 0) (.slice none 0 0)
            generalize (((((wr.drewN nq).setCell ⟨w.heap.size, 0, none⟩ (.bool false)).setCell ⟨w.heap.size, 1, none⟩ (.slice none 0 0)).setCell ⟨w.heap.size, 2, none⟩ (.slice none 0 0)).setCell ⟨w.heap.size, 3, none⟩ (.slice none 0 0)) = WF at gf sf kf ⊢
            obtain ⟨p0, p1, p2, p3⟩ := cells4 gf
            exact bodyPost_ret (v := .tuple #[.agg #[.bool false, .slice none 0 0, .slice none 0 0, .slice none 0 0], .int .i64 90]) (by simp [results, Tryd.results19, go_sem, p0, p1, p2, p3]) rfl ⟨_, rfl, ⟨_, by rw [hd], by rw [hd]; exact ndr_zero _, sf⟩⟩
        · obtain rfl : k = s := by omega
          have he : EB = b := by
            have := HT.out
            rw [List.take_of_length_le (by rw [HELN.out]; exact Nat.le_refl _), List.take_of_length_le (by omega)] at this
            exact this
          have hd : Nd.dec k b = (n, 0) := by rw [HDD.out, if_pos he]
          clear he
          go_wp2
          have gf := fill4 (W := wr) (g := w.heap.size) GR.out (.bool n.leaf) (.slice a1 n.keys.length c1) (.slice a2 n.vals.length c2) (.slice a3 n.kids.length c3)
          have sf := same_fill4 (W := wr) KR.out (g := w.heap.size) (Nat.le_refl _) (.bool n.leaf) (.slice a1 n.keys.length c1) (.slice a2 n.vals.length c2) (.slice a3 n.kids.length c3)
          have kf := kept_fill4 (W := wr) (g := w.heap.size) (.bool n.leaf) (.slice a1 n.keys.length c1) (.slice a2 n.vals.length c2) (.slice a3 n.kids.length c3)
          generalize ((((wr.setCell ⟨w.heap.size, 0, none⟩ (.bool n.leaf)).setCell ⟨w.heap.size, 1, none⟩ (.slice a1 n.keys.length c1)).setCell ⟨w.heap.size, 2, none⟩ (.slice a2 n.vals.length c2)).setCell ⟨w.heap.size, 3, none⟩ (.slice a3 n.kids.length c3)) = WF at gf sf kf ⊢
          obtain ⟨p0, p1, p2, p3⟩ := cells4 gf
          exact bodyPost_ret (v := .tuple #[.agg #[.bool n.leaf, .slice a1 n.keys.length c1, .slice a2 n.vals.length c2, .slice a3 n.kids.length c3], .int .i64 0]) (by simp [results, Tryd.results19, go_sem, p0, p1, p2, p3]) rfl ⟨_, rfl, ⟨_, by rw [hd], by rw [hd]; exact HN.out WF ((K4.out.mono (fun i _ h => h.elim)).trans ((K56.out.mono (fun i _ h => h.elim)).trans ((HK.out.mono (fun i _ h => h.elim)).trans (kf.mono (fun i _ e => Nat.lt_of_le_of_lt (Nat.le_of_eq e) SZ.out))))), sf⟩⟩
end Go.Proofs.YtpjgghalnkfdkaaDoor
