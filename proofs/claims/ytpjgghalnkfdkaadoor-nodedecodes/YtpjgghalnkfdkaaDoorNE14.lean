/- node: the program's Decode. (Made by mkne14.py.) -/
import Derived.Test.YtpjgghalnkfdkaaDoorNE13
import Derived.Test.YtpjgghalnkfdkaaDoorQuietS
import Derived.Deep.QuietTactic
namespace Go.Proofs.YtpjgghalnkfdkaaDoor
open Go.RowKit
set_option linter.unusedVariables false
set_option linter.unusedSimpArgs false
structure DeQ (sz : Int) (b : List UInt8) (w : World) (u : Value) (W : World) : Prop where
  out : ∃ x, u = .tuple #[x, .int .i64 (Nd.dec sz b).2] ∧ NdR W x (Nd.dec sz b).1 ∧ Same w W
theorem ndr_zero (W : World) : NdR W (.agg #[.bool false, .slice none 0 0, .slice none 0 0, .slice none 0 0]) Nd.zero := ⟨none, none, none, 0, 0, 0, rfl, Row.nil _, Row.nil _, Row.nil _⟩
theorem decP_fit {b : List UInt8} (h : ¬ 16 + bLen b ≤ b.length) : decP b = none := by unfold decP; rw [if_neg h]
theorem decP_no {b : List UInt8} (hn : ∀ m, pN (bLeaf b) (bCnt b) (bEnt b) ≠ some (m, [])) : decP b = none := by
  unfold decP
  split
  · split
    · rfl
    · rename_i n r h
      rw [if_neg]
      rintro ⟨rfl, _⟩
      exact hn n h
  · rfl
theorem decP_yes {b : List UInt8} {n : Nd} (h : 16 + bLen b ≤ b.length) (hn : pN (bLeaf b) (bCnt b) (bEnt b) = some (n, [])) : decP b = if n.chk = 0 ∧ encH n.kd n.keys.length (bEnt b) = b.take 16 ∧ (b.drop (16 + bLen b)).all (· == 0) = true then some n else none := by
  unfold decP
  rw [if_pos h, hn]
  simp
theorem dec_p {s : Nat} {b : List UInt8} (hj : JSize s) (hl : b.length = s) : Nd.dec s b = match decP b with | none => (Nd.zero, 90) | some n => (n, 0) := by
  have h1 := hj.1
  have h2 := hj.2.1
  unfold Nd.dec
  rw [if_pos hj, if_pos (by omega), dec_same b (by omega) (by omega)]
  cases decD b <;> rfl
set_option maxHeartbeats 2000000 in
set_option maxRecDepth 100000 in
theorem decode_size (sz : Int) (b : List UInt8) (v : Value) (w : World) (hj : ¬ JSize sz) :
    Calls Tryd.prog 18 #[.int .i64 sz, v] w fun e w' => ∃ u, e = .returned u ∧ DeQ sz b w u w' := by
  have he : Nd.dec sz b = (Nd.zero, 1) := by unfold Nd.dec; rw [if_neg hj]
  have HR := hidden (show ∀ (x : Unit) W, Same w W → ∃ u, Ending.returned (.tuple #[.agg #[.bool false, .slice none 0 0, .slice none 0 0, .slice none 0 0], .int .i64 1]) = .returned u ∧ DeQ sz b w u W from fun _ W k => ⟨_, rfl, ⟨_, by rw [he], by rw [he]; exact ndr_zero _, k⟩⟩)
  have HM := hidden (fun W => maySize_any sz W)
  rw [decide_eq_false hj] at HM
  have G0 := hidden (blk_new w (.cells #[.bool false, .slice none 0 0, .slice none 0 0, .slice none 0 0] 25))
  have K0 := hidden (same_alloc w (.cells #[.bool false, .slice none 0 0, .slice none 0 0, .slice none 0 0] 25))
  obtain ⟨x0, x1, x2, x3⟩ := cells4 G0.out
  obtain ⟨f0, f1, f2, f3⟩ := free4 G0.out
  clear hj he
  go_enter Tryd.func18, Tryd.ntmps18
  go_wp2_with (go_at_call 31; refine (HM.out _).mono ?_; rintro e w1' ⟨rfl, rfl⟩)
  exact bodyPost_ret (v := .tuple #[.agg #[.bool false, .slice none 0 0, .slice none 0 0, .slice none 0 0], .int .i64 1]) (by simp [results, Tryd.results18, go_sem, x0, x1, x2, x3]) rfl (HR.out () _ K0.out)
set_option maxHeartbeats 2000000 in
set_option maxRecDepth 100000 in
theorem decode_len (s : Nat) (b : List UInt8) (ao : Option Addr) (n cap : Nat) (w : World) (hb : Bt w (.slice ao n cap) b) (hj : JSize s) (hl : b.length ≠ s) :
    Calls Tryd.prog 18 #[.int .i64 (s : Nat), .slice ao n cap] w fun e w' => ∃ u, e = .returned u ∧ DeQ s b w u w' := by
  have he : Nd.dec s b = (Nd.zero, 90) := by unfold Nd.dec; rw [if_pos hj, if_neg (by omega)]
  have HR := hidden (show ∀ (x : Unit) W, Same w W → ∃ u, Ending.returned (.tuple #[.agg #[.bool false, .slice none 0 0, .slice none 0 0, .slice none 0 0], .int .i64 90]) = .returned u ∧ DeQ s b w u W from fun _ W k => ⟨_, rfl, ⟨_, by rw [he], by rw [he]; exact ndr_zero _, k⟩⟩)
  have HM := hidden (fun W => maySize_any (s : Int) W)
  rw [decide_eq_true hj] at HM
  have hn := hb.len.1
  have q1 : ((n : Int) != (s : Int)) = true := by simp; omega
  have q2 : ¬ (n : Int) = (s : Int) := by omega
  have q3 : ((n : Int) == (s : Int)) = false := by simp; omega
  have G0 := hidden (blk_new w (.cells #[.bool false, .slice none 0 0, .slice none 0 0, .slice none 0 0] 25))
  have K0 := hidden (same_alloc w (.cells #[.bool false, .slice none 0 0, .slice none 0 0, .slice none 0 0] 25))
  obtain ⟨x0, x1, x2, x3⟩ := cells4 G0.out
  obtain ⟨f0, f1, f2, f3⟩ := free4 G0.out
  clear hj he hb hl hn
  go_enter Tryd.func18, Tryd.ntmps18
  go_wp2_with (go_at_call 31; refine (HM.out _).mono ?_; rintro e w1' ⟨rfl, rfl⟩)
  exact bodyPost_ret (v := .tuple #[.agg #[.bool false, .slice none 0 0, .slice none 0 0, .slice none 0 0], .int .i64 90]) (by simp [results, Tryd.results18, go_sem, x0, x1, x2, x3]) rfl (HR.out () _ K0.out)
set_option maxHeartbeats 8000000 in
set_option maxRecDepth 100000 in
theorem decode_fit (s : Nat) (b : List UInt8) (ao : Option Addr) (cap : Nat) (w : World) (hb : Bt w (.slice ao s cap) b) (hj : JSize s) (hT : Tab w) :
    Calls Tryd.prog 18 #[.int .i64 (s : Nat), .slice ao s cap] w fun e w' => ∃ u, e = .returned u ∧ DeQ s b w u w' := by
  have hl : b.length = s := hb.len.1.symm
  have hs0 : 512 ≤ s := by have := hj.1; omega
  have hs1 : s ≤ 4096 := by have := hj.2.1; omega
  have hdec := dec_p hj hl
  have HM := hidden (fun W => maySize_any (s : Int) W)
  rw [decide_eq_true hj] at HM
  have G0 := hidden (blk_new w (.cells #[.bool false, .slice none 0 0, .slice none 0 0, .slice none 0 0] 25))
  have K0 := hidden (same_alloc w (.cells #[.bool false, .slice none 0 0, .slice none 0 0, .slice none 0 0] 25))
  obtain ⟨p16, hsl, hb16⟩ := hb.head (j := 16) (by omega) 16 rfl
  have htx := (hb16 _ K0.out).text
  have ht16 : (b.take 16).length = 16 := by rw [List.length_take]; omega
  have HH := hidden (fun W => readHead_any (b.take 16) W ht16)
  have e6 : ((b.take 16).drop 6).take 2 = (b.drop 6).take 2 := by rw [List.drop_take, List.take_take]; rfl
  have e8 : ((b.take 16).drop 8).take 4 = (b.drop 8).take 4 := by rw [List.drop_take, List.take_take]; rfl
  have e4 : (b.take 16).getD 4 0 = b.getD 4 0 := by simp [List.getD_eq_getElem?_getD]
  have HIF := hidden (fun kd ks n c h1 h2 h3 h4 => head_iff (b.take 16) ht16 kd ks n c h1 h2 h3 h4)
  unfold hdR U8 at HH
  rw [e6, e8, e4] at HH HIF
  have hlf1 : (((b.getD 4 0).toNat : Int) == 1) = bLeaf b := by
    unfold bLeaf
    generalize b.getD 4 0 = x
    rw [Bool.eq_iff_iff, beq_iff_eq, beq_iff_eq]
    exact ⟨fun h => UInt8.toNat_inj.1 (by show x.toNat = 1; omega), fun h => by rw [h]; rfl⟩
  have hcnt : bCnt b < 65536 := by
    have := num_lt ((b.drop 6).take 2)
    have hh : ((b.drop 6).take 2).length = 2 := by rw [List.length_take, List.length_drop]; omega
    rw [hh] at this
    exact this
  have hlen : bLen b < 4294967296 := by
    have := num_lt ((b.drop 8).take 4)
    have hh : ((b.drop 8).take 4).length = 4 := by rw [List.length_take, List.length_drop]; omega
    rw [hh] at this
    exact this
  have f6 : num ((b.drop 6).take 2) = bCnt b := rfl
  have f8 : num ((b.drop 8).take 4) = bLen b := rfl
  rw [f6, f8] at HH HIF
  clear e4 e6 e8 f6 f8 hj hb16 ht16
  obtain ⟨m0, hm0⟩ : ∃ m, (((b.take 16).getD 0 0).toNat : Int) = m := ⟨_, rfl⟩
  obtain ⟨m1, hm1⟩ : ∃ m, (((b.take 16).getD 1 0).toNat : Int) = m := ⟨_, rfl⟩
  obtain ⟨m2, hm2⟩ : ∃ m, (((b.take 16).getD 2 0).toNat : Int) = m := ⟨_, rfl⟩
  obtain ⟨m3, hm3⟩ : ∃ m, (((b.take 16).getD 3 0).toNat : Int) = m := ⟨_, rfl⟩
  obtain ⟨m4, hm4⟩ : ∃ m, ((b.getD 4 0).toNat : Int) = m := ⟨_, rfl⟩
  obtain ⟨m5, hm5⟩ : ∃ m, (((b.take 16).getD 5 0).toNat : Int) = m := ⟨_, rfl⟩
  obtain ⟨m8, hm8⟩ : ∃ m, num (((b.take 16).drop 12).take 4) = m := ⟨_, rfl⟩
  rw [hm0, hm1, hm2, hm3, hm4, hm5, hm8] at HH HIF
  rw [hm4] at hlf1
  have hlf2 : decide (m4 = 1) = bLeaf b := by rw [← hlf1]; rfl
  clear hm0 hm1 hm2 hm3 hm4 hm5 hm8
  have wl : IntKind.i64.wrap (bLen b : Int) = (bLen b : Int) := wrapN (by omega) (by omega)
  have wc : IntKind.i64.wrap (bCnt b : Int) = (bCnt b : Int) := wrapN (by omega) (by omega)
  have ws : IntKind.u32.wrap ((s : Int) - 16) = ((s - 16 : Nat) : Int) := by
    have : IntKind.u32.wrap ((s : Int) - 16) = (s : Int) - 16 := by simp [IntKind.wrap, IntKind.signed, IntKind.bits]; omega
    rw [this]; omega
  have HB0 := hidden hb
  have HT := hidden hT
  have HS := hidden (show 512 ≤ s ∧ s ≤ 4096 ∧ b.length = s from ⟨hs0, hs1, hl⟩)
  by_cases hfit : 16 + bLen b ≤ s
  rotate_left
  · have hd : Nd.dec s b = (Nd.zero, 90) := by rw [hdec, decP_fit (by omega)]
    have HR := hidden (show ∀ (x : Unit) W, Same w W → ∃ u, Ending.returned (.tuple #[.agg #[.bool false, .slice none 0 0, .slice none 0 0, .slice none 0 0], .int .i64 90]) = .returned u ∧ DeQ s b w u W from fun _ W k => ⟨_, rfl, ⟨_, by rw [hd], by rw [hd]; exact ndr_zero _, k⟩⟩)
    have hgt : ((s - 16 : Nat) : Int) < (bLen b : Int) := by omega
    clear hdec hd hb hT hfit hl
    obtain ⟨L, hL⟩ : ∃ L, bLen b = L := ⟨_, rfl⟩
    rw [hL] at HH hgt wl
    go_enter Tryd.func18, Tryd.ntmps18
    go_wp2_with (first
      | (go_at_call 31; refine (HM.out _).mono ?_; rintro e w1' ⟨rfl, rfl⟩)
      | (go_at_call 43; refine (HH.out _).mono ?_; rintro e w2 ⟨rfl, k2⟩; have G2 := blk_new w2 (.cells #[.int .u8 m0, .int .u8 m1, .int .u8 m2, .int .u8 m3, .int .u8 m4, .int .u8 m5, .int .u16 (bCnt b : Nat), .int .u32 (L : Nat), .int .u32 (m8 : Nat)] 62); obtain ⟨y0, y1, y2, y3, y4, y5, y6, y7, y8⟩ := cells9 G2; have G1 := hidden G0.out; clear G0; have G0 := hidden (blk_alloc (blk_kept k2 (fun h => h) G1.out) (.cells #[.int .u8 m0, .int .u8 m1, .int .u8 m2, .int .u8 m3, .int .u8 m4, .int .u8 m5, .int .u16 (bCnt b : Nat), .int .u32 (L : Nat), .int .u32 (m8 : Nat)] 62)); have K1 := hidden K0.out; clear K0; have K0 := hidden ((K1.out.trans k2).alloc (.cells #[.int .u8 m0, .int .u8 m1, .int .u8 m2, .int .u8 m3, .int .u8 m4, .int .u8 m5, .int .u16 (bCnt b : Nat), .int .u32 (L : Nat), .int .u32 (m8 : Nat)] 62)); clear G2 G1 K1 k2; obtain ⟨x0, x1, x2, x3⟩ := cells4 G0.out; obtain ⟨f0, f1, f2, f3⟩ := free4 G0.out))
    have gf := fill4 G0.out (.bool false) (.slice none 0 0) (.slice none 0 0) (.slice none 0 0)
    have sf := same_fill4 K0.out (g := w.heap.size) (Nat.le_refl _) (.bool false) (.slice none 0 0) (.slice none 0 0) (.slice none 0 0)
    have kf := kept_fill4 (W := (w2.alloc (.cells #[.int .u8 m0, .int .u8 m1, .int .u8 m2, .int .u8 m3, .int .u8 m4, .int .u8 m5, .int .u16 (bCnt b : Nat), .int .u32 (L : Nat), .int .u32 (m8 : Nat)] 62))) (g := w.heap.size) (.bool false) (.slice none 0 0) (.slice none 0 0) (.slice none 0 0)
    generalize (((((w2.alloc (.cells #[.int .u8 m0, .int .u8 m1, .int .u8 m2, .int .u8 m3, .int .u8 m4, .int .u8 m5, .int .u16 (bCnt b : Nat), .int .u32 (L : Nat), .int .u32 (m8 : Nat)] 62)).setCell ⟨w.heap.size, 0, none⟩ (.bool false)).setCell ⟨w.heap.size, 1, none⟩ (.slice none 0 0)).setCell ⟨w.heap.size, 2, none⟩ (.slice none 0 0)).setCell ⟨w.heap.size, 3, none⟩ (.slice none 0 0)) = WF at gf sf kf ⊢
    obtain ⟨p0, p1, p2, p3⟩ := cells4 gf
    exact bodyPost_ret (v := .tuple #[.agg #[.bool false, .slice none 0 0, .slice none 0 0, .slice none 0 0], .int .i64 90]) (by simp [results, Tryd.results18, go_sem, p0, p1, p2, p3]) rfl (HR.out () _ sf)
  · obtain ⟨pe, hsle, hbe⟩ := hb.sub (i := 16) (j := 16 + bLen b) (by omega) (by omega) 16 ((16 : Int) + (bLen b : Int)) rfl (by omega)
    rw [show 16 + bLen b - 16 = bLen b by omega] at hsle hbe
    have ee : (b.take (16 + bLen b)).drop 16 = bEnt b := by
      unfold bEnt
      rw [List.drop_take, show 16 + bLen b - 16 = bLen b by omega]
    rw [ee] at hbe
    obtain ⟨pz, hslz, hbz⟩ := hb.tail (i := 16 + bLen b) (by omega) ((16 : Int) + (bLen b : Int)) (by omega)
    have HBE := hidden hbe
    have HBZ := hidden hbz
    have hel : (bEnt b).length = bLen b := by unfold bEnt; rw [List.length_take, List.length_drop]; omega
    have HRE := hidden (fun W => readEntries_any (bLeaf b) (bCnt b) (bEnt b) W (by omega) hcnt)
    have hgt : ¬ ((s - 16 : Nat) : Int) < (bLen b : Int) := by omega
    have qe : IntKind.i64.wrap ((16 : Int) + (bLen b : Int)) = (16 : Int) + (bLen b : Int) := wrapN (by omega) (by omega)
    have hlenz : s - (16 + bLen b) = s - (16 + bLen b) := rfl
    have HDEC := hidden hdec
    have HFT := hidden hfit
    have HEL := hidden hel
    have HCN := hidden hcnt
    clear hdec hb hT hfit hl hbe hbz ee hel hcnt hlen
    obtain ⟨L, hL⟩ : ∃ L, bLen b = L := ⟨_, rfl⟩
    obtain ⟨C, hC⟩ : ∃ C, bCnt b = C := ⟨_, rfl⟩
    obtain ⟨ES, hES⟩ : ∃ ES, bEnt b = ES := ⟨_, rfl⟩
    obtain ⟨LF, hLF⟩ : ∃ LF, bLeaf b = LF := ⟨_, rfl⟩
    rw [hL] at HH HIF hgt wl hsle HBE hslz HBZ qe HFT HEL
    rw [hC] at HH HIF wc HRE HCN
    rw [hES] at HBE HRE HEL
    rw [hLF] at hlf1 hlf2 HRE
    have HL := hidden hL
    have HCC := hidden hC
    have HES := hidden hES
    have HLF := hidden hLF
    clear hL hC hES hLF hlenz
    go_enter Tryd.func18, Tryd.ntmps18
    go_wp2_with (first
      | (go_at_call 31; refine (HM.out _).mono ?_; rintro e w1' ⟨rfl, rfl⟩)
      | (go_at_call 43; refine (HH.out _).mono ?_; rintro e w2 ⟨rfl, k2⟩; have G2 := blk_new w2 (.cells #[.int .u8 m0, .int .u8 m1, .int .u8 m2, .int .u8 m3, .int .u8 m4, .int .u8 m5, .int .u16 (C : Nat), .int .u32 (L : Nat), .int .u32 (m8 : Nat)] 62); obtain ⟨y0, y1, y2, y3, y4, y5, y6, y7, y8⟩ := cells9 G2; have H2 := hidden G2; have G1 := hidden G0.out; clear G0; have G0 := hidden (blk_alloc (blk_kept k2 (fun h => h) G1.out) (.cells #[.int .u8 m0, .int .u8 m1, .int .u8 m2, .int .u8 m3, .int .u8 m4, .int .u8 m5, .int .u16 (C : Nat), .int .u32 (L : Nat), .int .u32 (m8 : Nat)] 62)); have K1 := hidden K0.out; clear K0; have K0 := hidden ((K1.out.trans k2).alloc (.cells #[.int .u8 m0, .int .u8 m1, .int .u8 m2, .int .u8 m3, .int .u8 m4, .int .u8 m5, .int .u16 (C : Nat), .int .u32 (L : Nat), .int .u32 (m8 : Nat)] 62)); have hte := (HBE.out _ K0.out).text; clear G2 G1 K1 k2)
      | (go_at_call 44; refine (HRE.out _).mono ?_; rintro e w4 ⟨u, rfl, hre⟩; obtain ⟨n, x, ok, rfl, hnd, hy, hn, hlf, hk1, hk2, hk3, k4⟩ := hre.out; clear hre; obtain ⟨a1, a2, a3, c1, c2, c3, rfl, r1, r2, r3⟩ := hnd w4 (Kept.refl _ _); have HN := hidden hnd; have HY := hidden hy; have HNO := hidden hn; have H3 := hidden (blk_alloc (blk_kept k4 (fun h => h) H2.out) (.cells #[.bool n.leaf, .slice a1 n.keys.length c1, .slice a2 n.vals.length c2, .slice a3 n.kids.length c3] 25)); have G1 := hidden G0.out; clear G0; have G0 := hidden (blk_alloc (blk_kept k4 (fun h => h) G1.out) (.cells #[.bool n.leaf, .slice a1 n.keys.length c1, .slice a2 n.vals.length c2, .slice a3 n.kids.length c3] 25)); have K1 := hidden K0.out; clear K0; have K0 := hidden ((K1.out.trans k4).alloc (.cells #[.bool n.leaf, .slice a1 n.keys.length c1, .slice a2 n.vals.length c2, .slice a3 n.kids.length c3] 25)); have N5 := hidden (blk_new w4 (.cells #[.bool n.leaf, .slice a1 n.keys.length c1, .slice a2 n.vals.length c2, .slice a3 n.kids.length c3] 25)); have R1 := hidden (r1.same (same_alloc w4 (.cells #[.bool n.leaf, .slice a1 n.keys.length c1, .slice a2 n.vals.length c2, .slice a3 n.kids.length c3] 25))); have R2 := hidden (r2.same (same_alloc w4 (.cells #[.bool n.leaf, .slice a1 n.keys.length c1, .slice a2 n.vals.length c2, .slice a3 n.kids.length c3] 25))); have R3 := hidden (r3.same (same_alloc w4 (.cells #[.bool n.leaf, .slice a1 n.keys.length c1, .slice a2 n.vals.length c2, .slice a3 n.kids.length c3] 25))); have SZ := hidden (show w.heap.size < (w2.alloc (.cells #[.int .u8 m0, .int .u8 m1, .int .u8 m2, .int .u8 m3, .int .u8 m4, .int .u8 m5, .int .u16 (C : Nat), .int .u32 (L : Nat), .int .u32 (m8 : Nat)] 62)).heap.size from blk_lt G1.out); have K4 := hidden (same_alloc w4 (.cells #[.bool n.leaf, .slice a1 n.keys.length c1, .slice a2 n.vals.length c2, .slice a3 n.kids.length c3] 25)); have HLFN := hidden hlf; clear hlf hnd hy hn r1 r2 r3 k4 G1 K1))
    obtain ⟨g9, hg9⟩ : ∃ g, g = w4.heap.size := ⟨_, rfl⟩
    obtain ⟨g6, hg6⟩ : ∃ g, g = w2.heap.size := ⟨_, rfl⟩
    rw [← hg9] at N5 ⊢
    rw [← hg6] at H3 ⊢
    generalize hW5 : w4.alloc (.cells #[.bool n.leaf, .slice a1 n.keys.length c1, .slice a2 n.vals.length c2, .slice a3 n.kids.length c3] 25) = W5 at H3 G0 K0 N5 R1 R2 R3 K4 ⊢
    clear hW5 hg9 hg6 y0 y1 y2 y3 y4 y5 y6 y7 y8 hte H2
    have l0 : ∀ V : Later W5, V.world.cell? ⟨g9, 0, none⟩ = some (.bool n.leaf) := fun V => blk_cell (blk_kept V.kept (fun h => h) N5.out)
    have l1 : ∀ V : Later W5, V.world.cell? ⟨g9, 1, none⟩ = some (.slice a1 n.keys.length c1) := fun V => blk_cell (blk_kept V.kept (fun h => h) N5.out)
    have l2 : ∀ V : Later W5, V.world.cell? ⟨g9, 2, none⟩ = some (.slice a2 n.vals.length c2) := fun V => blk_cell (blk_kept V.kept (fun h => h) N5.out)
    have l3 : ∀ V : Later W5, V.world.cell? ⟨g9, 3, none⟩ = some (.slice a3 n.kids.length c3) := fun V => blk_cell (blk_kept V.kept (fun h => h) N5.out)
    have l4 : ∀ V : Later W5, V.world.cell? ⟨g6, 0, none⟩ = some (.int .u8 m0) := fun V => blk_cell (blk_kept V.kept (fun h => h) H3.out)
    have l5 : ∀ V : Later W5, V.world.cell? ⟨g6, 1, none⟩ = some (.int .u8 m1) := fun V => blk_cell (blk_kept V.kept (fun h => h) H3.out)
    have l6 : ∀ V : Later W5, V.world.cell? ⟨g6, 2, none⟩ = some (.int .u8 m2) := fun V => blk_cell (blk_kept V.kept (fun h => h) H3.out)
    have l7 : ∀ V : Later W5, V.world.cell? ⟨g6, 3, none⟩ = some (.int .u8 m3) := fun V => blk_cell (blk_kept V.kept (fun h => h) H3.out)
    have l8 : ∀ V : Later W5, V.world.cell? ⟨g6, 4, none⟩ = some (.int .u8 m4) := fun V => blk_cell (blk_kept V.kept (fun h => h) H3.out)
    have l9 : ∀ V : Later W5, V.world.cell? ⟨g6, 5, none⟩ = some (.int .u8 m5) := fun V => blk_cell (blk_kept V.kept (fun h => h) H3.out)
    have l10 : ∀ V : Later W5, V.world.cell? ⟨g6, 6, none⟩ = some (.int .u16 (C : Nat)) := fun V => blk_cell (blk_kept V.kept (fun h => h) H3.out)
    have l11 : ∀ V : Later W5, V.world.cell? ⟨g6, 7, none⟩ = some (.int .u32 (L : Nat)) := fun V => blk_cell (blk_kept V.kept (fun h => h) H3.out)
    have l12 : ∀ V : Later W5, V.world.cell? ⟨g6, 8, none⟩ = some (.int .u32 (m8 : Nat)) := fun V => blk_cell (blk_kept V.kept (fun h => h) H3.out)
    have hcn := HCN.out
    have hs := HS.out
    have hft := HFT.out
    have hel := HEL.out
    have hbd : n.Bd := ⟨by omega, by omega, by omega⟩
    have HCk := hidden (fun W (k : Same W5 W) => check_any n a1 a2 a3 _ c1 _ c2 _ c3 W (R1.out.same k) (R2.out.same k) (R3.out.same k) hbd)
    have hkd : n.kd < 256 := by unfold Nd.kd; split <;> decide
    have HHd := hidden (fun W (k : Same W5 W) => headOf_any n a1 a2 a3 n.keys.length c1 n.vals.length c2 n.kids.length c3 ES W (by omega) (by omega) (HT.out.same (K0.out.trans k)))
    unfold hdV at HHd
    have hcl := crc_lt ((headB n.kd n.keys.length ES.length 0).take 12 ++ ES)
    have hst : (b.take 16 = headB n.kd n.keys.length ES.length (crc ((headB n.kd n.keys.length ES.length 0).take 12 ++ ES))) ↔ encH n.kd n.keys.length ES = b.take 16 := by
      unfold encH
      exact eq_comm
    have HEq : ∀ W, (Op.equalIn 10000 62 (.agg #[.int .u8 m0, .int .u8 m1, .int .u8 m2, .int .u8 m3, .int .u8 m4, .int .u8 m5, .int .u16 (C : Nat), .int .u32 (L : Nat), .int .u32 (m8 : Nat)]) (.agg #[.int .u8 68, .int .u8 78, .int .u8 79, .int .u8 68, .int .u8 n.kd, .int .u8 0, .int .u16 n.keys.length, .int .u32 ES.length, .int .u32 (crc ((headB n.kd n.keys.length ES.length 0).take 12 ++ ES) : Nat)])).run Tryd.prog W = .ok (decide (encH n.kd n.keys.length ES = b.take 16)) W := fun W => by
      have h := head_eq W m0 m1 m2 m3 m4 m5 (C : Nat) (L : Nat) (m8 : Nat) 68 78 79 68 (n.kd : Nat) 0 (n.keys.length : Nat) (ES.length : Nat) (crc ((headB n.kd n.keys.length ES.length 0).take 12 ++ ES) : Nat)
      unfold hd9 at h
      rw [h]
      congr 1
      exact decide_eq_decide.2 ((HIF.out n.kd n.keys.length ES.length _ hkd (by omega) (by omega) hcl).trans hst)
    obtain ⟨ZL, hZL⟩ : ∃ l, b.drop (16 + L) = l := ⟨_, rfl⟩
    have hzl : ZL.length ≤ 4096 := by rw [← hZL, List.length_drop]; omega
    have hbzl : ∀ W, Same w W → Bt W (.slice pz (s - (16 + L)) (cap - (16 + L))) ZL := fun W k => by rw [← hZL]; exact HBZ.out W k
    have HZr := hidden (fun W (k : Same W5 W) => zeros_any ZL _ W (hbzl W (K0.out.trans k)) hzl)
    have hza : decide (∀ x ∈ ZL, x = 0) = ZL.all (· == 0) := by
      rw [Bool.eq_iff_iff, decide_eq_true_iff, List.all_eq_true]
      simp
    rw [hza] at HZr
    clear hzl hbzl
    have hfit : 16 + bLen b ≤ b.length := by rw [HL.out]; omega
    have hdec := HDEC.out
    have hqq1 : ((.int .u8 0 : Value)) = .int .u8 0 := rfl
    clear hza hcl hkd hcn hs hft hel hbd hqq1
    cases ok
    · have hno := HNO.out rfl
      rw [← HLF.out, ← HCC.out, ← HES.out] at hno
      have hd : Nd.dec s b = (Nd.zero, 90) := by rw [hdec, decP_no hno]
      clear hdec hno hfit hst HEq
      refine region_later (by kernel_rfl) (by kernel_rfl) ?_
      repeat (go_big_quiet_step ((first | (go_at_call 13; exact later_calls _ (HCk.out _ (Later.kept _))) | (go_at_call 33; exact later_calls _ (HHd.out _ (Later.kept _))) | (go_at_call 45; exact later_calls _ (HZr.out _ (Later.kept _))))))
      refine wpQuiet_nil ?_
      rintro V ⟨LV, hE⟩
      have hV : Hid (Same W5 V) := hidden (by rw [hE]; exact LV.kept)
      clear hE LV l0 l1 l2 l3 l4 l5 l6 l7 l8 l9 l10 l11 l12
      have GV := hidden (blk_kept hV.out (fun h => h) G0.out)
      have KV := hidden (K0.out.trans hV.out)
      have NV := hidden (blk_kept hV.out (fun h => h) N5.out)
      obtain ⟨u0, u1, u2, u3⟩ := cells4 NV.out
      obtain ⟨x0, x1, x2, x3⟩ := cells4 GV.out
      obtain ⟨f0, f1, f2, f3⟩ := free4 GV.out
      go_wp2
      have gf := fill4 GV.out (.bool false) (.slice none 0 0) (.slice none 0 0) (.slice none 0 0)
      have sf := same_fill4 KV.out (g := w.heap.size) (Nat.le_refl _) (.bool false) (.slice none 0 0) (.slice none 0 0) (.slice none 0 0)
      have kf := kept_fill4 (W := V) (g := w.heap.size) (.bool false) (.slice none 0 0) (.slice none 0 0) (.slice none 0 0)
      generalize ((((V.setCell ⟨w.heap.size, 0, none⟩ (.bool false)).setCell ⟨w.heap.size, 1, none⟩ (.slice none 0 0)).setCell ⟨w.heap.size, 2, none⟩ (.slice none 0 0)).setCell ⟨w.heap.size, 3, none⟩ (.slice none 0 0)) = WF at gf sf kf ⊢
      obtain ⟨p0, p1, p2, p3⟩ := cells4 gf
      exact bodyPost_ret (v := .tuple #[.agg #[.bool false, .slice none 0 0, .slice none 0 0, .slice none 0 0], .int .i64 90]) (by simp [results, Tryd.results18, go_sem, p0, p1, p2, p3]) rfl ⟨_, rfl, ⟨_, by rw [hd], by rw [hd]; exact ndr_zero _, sf⟩⟩
    · have hyes := HY.out rfl
      have hlk := (pN_sound _ _ hyes).2.1
      rw [← HLF.out, ← HCC.out, ← HES.out] at hyes
      have hdp := decP_yes hfit hyes
      rw [HES.out, HL.out, hZL] at hdp
      rw [hdp] at hdec
      clear hdp hyes hfit hlk
      by_cases hc : n.chk = 0
      · rw [hc] at HCk
        by_cases hq : encH n.kd n.keys.length ES = b.take 16
        · rw [decide_eq_true hq] at HEq
          cases hz : ZL.all (· == 0)
          · have hd : Nd.dec s b = (Nd.zero, 90) := by rw [hdec, if_neg (by rw [hz]; simp)]
            rw [hz] at HZr
            clear hdec hst hq hc hz
            refine region_later (by kernel_rfl) (by kernel_rfl) ?_
            repeat (go_big_quiet_step ((first | (go_at_call 13; exact later_calls _ (HCk.out _ (Later.kept _))) | (go_at_call 33; exact later_calls _ (HHd.out _ (Later.kept _))) | (go_at_call 45; exact later_calls _ (HZr.out _ (Later.kept _))))))
            refine wpQuiet_nil ?_
            rintro V ⟨LV, hE⟩
            have hV : Hid (Same W5 V) := hidden (by rw [hE]; exact LV.kept)
            clear hE LV l0 l1 l2 l3 l4 l5 l6 l7 l8 l9 l10 l11 l12
            have GV := hidden (blk_kept hV.out (fun h => h) G0.out)
            have KV := hidden (K0.out.trans hV.out)
            have NV := hidden (blk_kept hV.out (fun h => h) N5.out)
            obtain ⟨u0, u1, u2, u3⟩ := cells4 NV.out
            obtain ⟨x0, x1, x2, x3⟩ := cells4 GV.out
            obtain ⟨f0, f1, f2, f3⟩ := free4 GV.out
            go_wp2
            have gf := fill4 GV.out (.bool false) (.slice none 0 0) (.slice none 0 0) (.slice none 0 0)
            have sf := same_fill4 KV.out (g := w.heap.size) (Nat.le_refl _) (.bool false) (.slice none 0 0) (.slice none 0 0) (.slice none 0 0)
            have kf := kept_fill4 (W := V) (g := w.heap.size) (.bool false) (.slice none 0 0) (.slice none 0 0) (.slice none 0 0)
            generalize ((((V.setCell ⟨w.heap.size, 0, none⟩ (.bool false)).setCell ⟨w.heap.size, 1, none⟩ (.slice none 0 0)).setCell ⟨w.heap.size, 2, none⟩ (.slice none 0 0)).setCell ⟨w.heap.size, 3, none⟩ (.slice none 0 0)) = WF at gf sf kf ⊢
            obtain ⟨p0, p1, p2, p3⟩ := cells4 gf
            exact bodyPost_ret (v := .tuple #[.agg #[.bool false, .slice none 0 0, .slice none 0 0, .slice none 0 0], .int .i64 90]) (by simp [results, Tryd.results18, go_sem, p0, p1, p2, p3]) rfl ⟨_, rfl, ⟨_, by rw [hd], by rw [hd]; exact ndr_zero _, sf⟩⟩
          · have hd : Nd.dec s b = (n, 0) := by rw [hdec, if_pos ⟨hc, hq, hz⟩]
            rw [hz] at HZr
            clear hdec hst hq hc hz
            refine region_later (by kernel_rfl) (by kernel_rfl) ?_
            repeat (go_big_quiet_step ((first | (go_at_call 13; exact later_calls _ (HCk.out _ (Later.kept _))) | (go_at_call 33; exact later_calls _ (HHd.out _ (Later.kept _))) | (go_at_call 45; exact later_calls _ (HZr.out _ (Later.kept _))))))
            refine wpQuiet_nil ?_
            rintro V ⟨LV, hE⟩
            have hV : Hid (Same W5 V) := hidden (by rw [hE]; exact LV.kept)
            clear hE LV l0 l1 l2 l3 l4 l5 l6 l7 l8 l9 l10 l11 l12
            have GV := hidden (blk_kept hV.out (fun h => h) G0.out)
            have KV := hidden (K0.out.trans hV.out)
            have NV := hidden (blk_kept hV.out (fun h => h) N5.out)
            obtain ⟨u0, u1, u2, u3⟩ := cells4 NV.out
            obtain ⟨x0, x1, x2, x3⟩ := cells4 GV.out
            obtain ⟨f0, f1, f2, f3⟩ := free4 GV.out
            go_wp2
            have gf := fill4 GV.out (.bool n.leaf) (.slice a1 n.keys.length c1) (.slice a2 n.vals.length c2) (.slice a3 n.kids.length c3)
            have sf := same_fill4 KV.out (g := w.heap.size) (Nat.le_refl _) (.bool n.leaf) (.slice a1 n.keys.length c1) (.slice a2 n.vals.length c2) (.slice a3 n.kids.length c3)
            have kf := kept_fill4 (W := V) (g := w.heap.size) (.bool n.leaf) (.slice a1 n.keys.length c1) (.slice a2 n.vals.length c2) (.slice a3 n.kids.length c3)
            generalize ((((V.setCell ⟨w.heap.size, 0, none⟩ (.bool n.leaf)).setCell ⟨w.heap.size, 1, none⟩ (.slice a1 n.keys.length c1)).setCell ⟨w.heap.size, 2, none⟩ (.slice a2 n.vals.length c2)).setCell ⟨w.heap.size, 3, none⟩ (.slice a3 n.kids.length c3)) = WF at gf sf kf ⊢
            obtain ⟨p0, p1, p2, p3⟩ := cells4 gf
            exact bodyPost_ret (v := .tuple #[.agg #[.bool n.leaf, .slice a1 n.keys.length c1, .slice a2 n.vals.length c2, .slice a3 n.kids.length c3], .int .i64 0]) (by simp [results, Tryd.results18, go_sem, p0, p1, p2, p3]) rfl ⟨_, rfl, ⟨_, by rw [hd], by rw [hd]; exact HN.out WF ((K4.out.mono (fun i _ h => h.elim)).trans ((hV.out.mono (fun i _ h => h.elim)).trans (kf.mono (fun i _ e => Nat.lt_of_le_of_lt (Nat.le_of_eq e) SZ.out)))), sf⟩⟩
        · rw [decide_eq_false hq] at HEq
          have hd : Nd.dec s b = (Nd.zero, 90) := by rw [hdec, if_neg (fun h => hq h.2.1)]
          clear hdec hst hq hc
          refine region_later (by kernel_rfl) (by kernel_rfl) ?_
          repeat (go_big_quiet_step ((first | (go_at_call 13; exact later_calls _ (HCk.out _ (Later.kept _))) | (go_at_call 33; exact later_calls _ (HHd.out _ (Later.kept _))) | (go_at_call 45; exact later_calls _ (HZr.out _ (Later.kept _))))))
          refine wpQuiet_nil ?_
          rintro V ⟨LV, hE⟩
          have hV : Hid (Same W5 V) := hidden (by rw [hE]; exact LV.kept)
          clear hE LV l0 l1 l2 l3 l4 l5 l6 l7 l8 l9 l10 l11 l12
          have GV := hidden (blk_kept hV.out (fun h => h) G0.out)
          have KV := hidden (K0.out.trans hV.out)
          have NV := hidden (blk_kept hV.out (fun h => h) N5.out)
          obtain ⟨u0, u1, u2, u3⟩ := cells4 NV.out
          obtain ⟨x0, x1, x2, x3⟩ := cells4 GV.out
          obtain ⟨f0, f1, f2, f3⟩ := free4 GV.out
          go_wp2
          have gf := fill4 GV.out (.bool false) (.slice none 0 0) (.slice none 0 0) (.slice none 0 0)
          have sf := same_fill4 KV.out (g := w.heap.size) (Nat.le_refl _) (.bool false) (.slice none 0 0) (.slice none 0 0) (.slice none 0 0)
          have kf := kept_fill4 (W := V) (g := w.heap.size) (.bool false) (.slice none 0 0) (.slice none 0 0) (.slice none 0 0)
          generalize ((((V.setCell ⟨w.heap.size, 0, none⟩ (.bool false)).setCell ⟨w.heap.size, 1, none⟩ (.slice none 0 0)).setCell ⟨w.heap.size, 2, none⟩ (.slice none 0 0)).setCell ⟨w.heap.size, 3, none⟩ (.slice none 0 0)) = WF at gf sf kf ⊢
          obtain ⟨p0, p1, p2, p3⟩ := cells4 gf
          exact bodyPost_ret (v := .tuple #[.agg #[.bool false, .slice none 0 0, .slice none 0 0, .slice none 0 0], .int .i64 90]) (by simp [results, Tryd.results18, go_sem, p0, p1, p2, p3]) rfl ⟨_, rfl, ⟨_, by rw [hd], by rw [hd]; exact ndr_zero _, sf⟩⟩
      · have hd : Nd.dec s b = (Nd.zero, 90) := by rw [hdec, if_neg (fun h => hc h.1)]
        have hz1 : (n.chk == 0) = false := beq_eq_false_iff_ne.2 hc
        have hz2 : (n.chk != 0) = true := by rw [bne_iff_ne]; exact hc
        generalize n.chk = ck at HCk hz1 hz2 hc
        clear hdec hst HEq
        refine region_later (by kernel_rfl) (by kernel_rfl) ?_
        repeat (go_big_quiet_step ((first | (go_at_call 13; exact later_calls _ (HCk.out _ (Later.kept _))) | (go_at_call 33; exact later_calls _ (HHd.out _ (Later.kept _))) | (go_at_call 45; exact later_calls _ (HZr.out _ (Later.kept _))))))
        refine wpQuiet_nil ?_
        rintro V ⟨LV, hE⟩
        have hV : Hid (Same W5 V) := hidden (by rw [hE]; exact LV.kept)
        clear hE LV l0 l1 l2 l3 l4 l5 l6 l7 l8 l9 l10 l11 l12
        have GV := hidden (blk_kept hV.out (fun h => h) G0.out)
        have KV := hidden (K0.out.trans hV.out)
        have NV := hidden (blk_kept hV.out (fun h => h) N5.out)
        obtain ⟨u0, u1, u2, u3⟩ := cells4 NV.out
        obtain ⟨x0, x1, x2, x3⟩ := cells4 GV.out
        obtain ⟨f0, f1, f2, f3⟩ := free4 GV.out
        go_wp2
        have gf := fill4 GV.out (.bool false) (.slice none 0 0) (.slice none 0 0) (.slice none 0 0)
        have sf := same_fill4 KV.out (g := w.heap.size) (Nat.le_refl _) (.bool false) (.slice none 0 0) (.slice none 0 0) (.slice none 0 0)
        have kf := kept_fill4 (W := V) (g := w.heap.size) (.bool false) (.slice none 0 0) (.slice none 0 0) (.slice none 0 0)
        generalize ((((V.setCell ⟨w.heap.size, 0, none⟩ (.bool false)).setCell ⟨w.heap.size, 1, none⟩ (.slice none 0 0)).setCell ⟨w.heap.size, 2, none⟩ (.slice none 0 0)).setCell ⟨w.heap.size, 3, none⟩ (.slice none 0 0)) = WF at gf sf kf ⊢
        obtain ⟨p0, p1, p2, p3⟩ := cells4 gf
        exact bodyPost_ret (v := .tuple #[.agg #[.bool false, .slice none 0 0, .slice none 0 0, .slice none 0 0], .int .i64 90]) (by simp [results, Tryd.results18, go_sem, p0, p1, p2, p3]) rfl ⟨_, rfl, ⟨_, by rw [hd], by rw [hd]; exact ndr_zero _, sf⟩⟩
end Go.Proofs.YtpjgghalnkfdkaaDoor
