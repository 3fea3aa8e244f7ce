/- node: the document's read of an inner node. (Made by mkne16.py out of NE15.) -/
import Derived.Test.YtpjgghalnkfdkaaDoorNE15
import Derived.Deep.CutRange
namespace Go.Proofs.YtpjgghalnkfdkaaDoor
open Go.RowKit
set_option linter.unusedVariables false
set_option linter.unusedSimpArgs false
theorem p1I_no {b : List UInt8} {i : Nat} (h : ¬ i + 1 + (b.getD i 0).toNat + 4 ≤ b.length) : p1 false (b.drop i) = none := by
  simp only [p1, Bool.false_eq_true, if_false, b0_at, List.length_drop]
  rw [if_neg (by omega)]
theorem p1I_yes {b : List UInt8} {i k : Nat} (hk : (b.getD i 0).toNat = k) (h : i + 1 + k + 4 ≤ b.length) : p1 false (b.drop i) = some (⟨⟨((b.take (i + 1 + k)).drop (i + 1)).toArray⟩, ⟨#[]⟩, (num ((b.take (i + 1 + k + 4)).drop (i + 1 + k)) : Nat)⟩, b.drop (i + 1 + k + 4)) := by
  simp only [p1, Bool.false_eq_true, if_false, b0_at, List.length_drop, hk]
  rw [if_pos (by omega), sub_at, sub_at, List.drop_drop, List.drop_drop, List.drop_drop]
  simp only [Nat.add_assoc]
/-- How far it has come. -/
def RdI (c : Nat) (b : List UInt8) (K : List ByteArray) (Z : List Int) (i : Nat) : Prop :=
  K.length ≤ c ∧ i ≤ b.length ∧ ∃ l, pE false K.length (b.drop 20) = some (l, b.drop i) ∧ K = l.map En.k ∧ Z = ((num ((b.take 20).drop 16) : Nat) : Int) :: l.map En.z
theorem RdI.zlen {c : Nat} {b : List UInt8} {K : List ByteArray} {Z : List Int} {i : Nat} (h : RdI c b K Z i) : Z.length = K.length + 1 := by
  obtain ⟨_, _, l, _, hK, hV⟩ := h
  rw [hK, hV]; simp
theorem pN_inner (c : Nat) (b : List UInt8) (h : 20 ≤ b.length) : pN false c (b.drop 16) = (pE false c (b.drop 20)).map fun q => (mkN false ((num ((b.take 20).drop 16) : Nat) : Int) q.1, q.2) := by
  simp only [pN, Bool.false_eq_true, if_false]
  rw [if_pos (by rw [List.length_drop]; omega), List.drop_drop, sub_at b 16 4]
theorem RdI.no {c : Nat} {b : List UInt8} {K : List ByteArray} {Z : List Int} {i : Nat} (h : RdI c b K Z i) (hb : 20 ≤ b.length) (hc : K.length < c) (h1 : p1 false (b.drop i) = none) : pN false c (b.drop 16) = none := by
  obtain ⟨_, _, l, hp, hK, hV⟩ := h
  have : pE false c (b.drop 20) = none := by
    refine pE_none (i := K.length + 1) (by omega) ?_
    simp only [pE, hp, h1]
  rw [pN_inner c b hb, this, Option.map_none]
theorem RdI.step {c : Nat} {b : List UInt8} {K : List ByteArray} {Z : List Int} {i j : Nat} {e : En} (h : RdI c b K Z i) (hc : K.length < c) (hj : j ≤ b.length) (h1 : p1 false (b.drop i) = some (e, b.drop j)) : RdI c b (K ++ [e.k]) (Z ++ [e.z]) j := by
  obtain ⟨_, _, l, hp, hK, hV⟩ := h
  refine ⟨by simp; omega, hj, l ++ [e], ?_, by rw [hK]; simp, by rw [hV]; simp⟩
  rw [List.length_append, List.length_singleton]
  simp only [pE, hp, h1]
theorem RdI.yes {c : Nat} {b : List UInt8} {K : List ByteArray} {Z : List Int} {i : Nat} (h : RdI c b K Z i) (hb : 20 ≤ b.length) (hc : c ≤ K.length) : pN false c (b.drop 16) = some (⟨false, K, [], Z⟩, b.drop i) := by
  obtain ⟨h0, _, l, hp, hK, hV⟩ := h
  have : K.length = c := by omega
  rw [this] at hp
  rw [pN_inner c b hb, hp, Option.map_some]
  simp only [mkN, Bool.false_eq_true, if_false, ← hK, ← hV]
theorem RdI.start (c : Nat) (b : List UInt8) (h : 20 ≤ b.length) : RdI c b [] [((num ((b.take 20).drop 16) : Nat) : Int)] 20 := ⟨Nat.zero_le _, h, [], rfl, rfl, rfl⟩
set_option maxHeartbeats 8000000 in
set_option maxRecDepth 100000 in
theorem rdInner (c : Nat) (b : List UInt8) (ao : Option Addr) (s cap : Nat) (w : World) (hb : Bt w (.slice ao s cap) b) (h0 : 512 ≤ s) (h1 : s ≤ 4096) (hlf : b.getD 4 0 ≠ 1) (hc : bCnt b = c) :
    Calls Tryd.prog 46 #[.slice ao s cap] w fun e w' => ∃ u, e = .returned u ∧ RDq false c (b.drop 16) w u w' := by
  have hl : b.length = s := hb.len.1.symm
  obtain ⟨p68, hsl68, hb68⟩ := hb.sub (i := 6) (j := 8) (by omega) (by omega) 6 8 rfl rfl
  have e26 : (8 - 6 : Nat) = 2 := rfl
  rw [e26] at hsl68 hb68
  have e68 : (b.take 8).drop 6 = (b.drop 6).take 2 := by rw [List.drop_take]
  rw [e68] at hb68
  have hcl : c < 65536 := by
    rw [← hc]
    have := num_lt ((b.drop 6).take 2)
    have hh : ((b.drop 6).take 2).length = 2 := by rw [List.length_take, List.length_drop]; omega
    rw [hh] at this
    exact this
  have HNum := hidden (fun W (k : Same w W) => number_any _ _ W (hb68 W k) (by rw [List.length_take]; omega))
  have ec : num ((b.drop 6).take 2) = c := hc
  rw [ec] at HNum
  obtain ⟨bb, off, rfl, hcs⟩ := hb.cell (by omega)
  have HB := hidden hb
  have HL := hidden hl
  have HCL := hidden hcl
  have HCE := hidden (show ∀ W, Same w W → ∀ j (h : j < b.length), W.cell? ⟨bb, off + j, none⟩ = some (.int .u8 ((b.getD j 0).toNat : Nat)) from fun W k j h => by
    rw [k.cell (fun h => h) (hcs j h)]
    simp [U8, List.getD_eq_getElem?_getD, h])
  obtain ⟨m4, hm4⟩ : ∃ m, (b.getD 4 0).toNat = m := ⟨_, rfl⟩
  have hm1 : m4 ≠ 1 := by
    intro e
    apply hlf
    apply UInt8.toNat_inj.1
    rw [hm4, e]; rfl
  have c4' : (w.alloc (.cells #[.bool false, .slice none 0 0, .slice none 0 0, .slice none 0 0] 25)).cell? ⟨bb, off + 4, none⟩ = some (.int .u8 (m4 : Nat)) := by
    have := HCE.out (w.alloc (.cells #[.bool false, .slice none 0 0, .slice none 0 0, .slice none 0 0] 25)) (same_alloc _ _) 4 (by omega)
    rw [hm4] at this
    exact this
  have qx1 : ((m4 : Int) == 1) = false := by simp; omega
  have qx2 : decide ((m4 : Int) = 1) = false := decide_eq_false (by omega)
  have qx3 : ¬ (m4 : Int) = 1 := by omega
  obtain ⟨pz, hslz, hbz⟩ := HB.out.sub (i := 16) (j := 20) (by omega) (by omega) 16 20 rfl rfl
  have e20 : (20 - 16 : Nat) = 4 := rfl
  rw [e20] at hslz hbz
  have HNz := hidden (fun W (k : Same w W) => number_any _ _ W (hbz W k) (by simp [List.length_drop, List.length_take]; omega))
  have q4 : (4 : Int) < (s : Int) := by omega
  have A2 := two_blk w (.cells #[.bool false, .slice none 0 0, .slice none 0 0, .slice none 0 0] 25) (.cells #[.bool false, .slice none 0 0, .slice none 0 0, .slice none 0 0] 25)
  have D2 : Hid (NdB w (w.heap.size + 2) false [] [] [] none none none 0 0 0 0 0 0 ((w.alloc (.cells #[.bool false, .slice none 0 0, .slice none 0 0, .slice none 0 0] 25)).alloc (.cells #[.bool false, .slice none 0 0, .slice none 0 0, .slice none 0 0] 25))) := hidden ⟨A2.2.1, A2.1, World.ownsRow_nil _ _ _ _, World.ownsRow_nil _ _ _ _, World.ownsRow_nil _ _ _ _, (fun k h => by simp [Value.ownBlock] at h), A2.2.2.1, by omega, by rw [A2.2.2.2]; omega⟩
  obtain ⟨x0, x1, x2, x3⟩ := cells4 D2.out.bx
  have HST := hidden (RdI.start c b (by omega))
  have HS := hidden (show 512 ≤ s ∧ s ≤ 4096 from ⟨h0, h1⟩)
  obtain ⟨z0, hz0⟩ : ∃ z, num ((b.take 20).drop 16) = z := ⟨_, rfl⟩
  rw [hz0] at HNz HST
  have HZ0 := hidden hz0
  clear hb hl hcs hb68 e68 A2 hc hcl ec hlf h0 h1 hm4 hm1 hz0 hbz
  obtain ⟨W2, hW2⟩ : ∃ W2, ((w.alloc (.cells #[.bool false, .slice none 0 0, .slice none 0 0, .slice none 0 0] 25)).alloc (.cells #[.bool false, .slice none 0 0, .slice none 0 0, .slice none 0 0] 25)) = W2 := ⟨_, rfl⟩
  have HN0 := HNz.out W2.drew (by rw [← hW2]; exact (((Kept.refl _ w).alloc _).alloc _).drew)
  have HW2 := hidden hW2
  clear hW2
  go_enter Tryd.func46, Tryd.ntmps46
  go_wp2
  rw [HW2.out] at D2 x0 x1 x2 x3 ⊢
  go_cut [] from 17 to 24 (fun wx => ∃ a3 c3, NdB w (w.heap.size + 2) false [] [] [(z0 : Int)] none none a3 0 0 0 0 1 c3 wx)
  case first =>
    obtain ⟨v0, v1, v2, v3⟩ := cells4 (D2.out.same (((Kept.refl _ W2).drew).alloc (.cells #[.int .i64 (z0 : Nat)] 3))).bx
    obtain ⟨vv0, vv1, vv2, vv3⟩ := cells4 (D2.out.same (((Kept.refl _ W2).alloc (.cells #[.int .i64 (z0 : Nat)] 3)).drew)).bx
    go_region_law (first
      | (refine step_call rfl 75 #[.slice pz 4 (cap - 16)] (fun u W => u = .int .i64 (z0 : Nat) ∧ W2.drew = W) (by go_simp; try rfl) (HN0.mono (fun e w' ⟨h1, h2⟩ => ⟨_, h1, rfl, h2⟩)) ?_; rintro u y3 ⟨rfl, rfl⟩)
      | (refine st_int rfl _ _ rfl (w.heap.size + 2) none 0 0 [] rfl (D2.out.same (by first | exact ((Kept.refl _ _).drew).alloc _ | exact ((Kept.refl _ _).alloc _).drew)).o3 W2.heap.size 1 (z0 : Int) rfl (by first | exact blk_new _ _ | exact blk_new W2 _) (by decide) (D2.out.same (by first | exact ((Kept.refl _ _).drew).alloc _ | exact ((Kept.refl _ _).alloc _).drew)).b1 ?_; intro a3' c3' y5 o5 g5 n5; obtain ⟨p1, p2, d5, kk5⟩ := (D2.out.same (by first | exact ((Kept.refl _ _).drew).alloc _ | exact ((Kept.refl _ _).alloc _).drew)).kid o5 g5 n5; have D5 := hidden d5; clear o5 g5 n5 d5 kk5))
    all_goals
      go_wp2_with fail
      go_meet
      case rel => exact ⟨a3', c3', D5.out⟩
  case rest =>
  clear D2 x0 x1 x2 x3 HN0
  obtain ⟨a3', c3', d2⟩ := hcut
  have D2 := hidden d2
  clear d2
  go_wp2
  go_loopw [5, 6] (fun x i wr => ∃ K Z j a1 k1 c1 a3 k3 c3, x = .int .i64 ((j : Nat) : Int) ∧ i = .int .i64 ((k1 : Nat) : Int) ∧ NdB w (w.heap.size + 2) false K [] Z a1 none a3 k1 c1 0 0 k3 c3 wr ∧ RdI c b K Z j) (fun _ i _ => c - (intOf i).toNat)
  case atStart => exact ⟨[], [(z0 : Int)], 20, none, 0, 0, a3', 1, c3', rfl, rfl, D2.out, HST.out⟩
  case round =>
    obtain ⟨K, Z, j, a1, k1, c1, a3, k3, c3, rfl, rfl, hd, hr⟩ := hrel
    clear D2 HST c4'
    have HD := hidden hd
    have HR := hidden hr
    clear hd hr
    obtain ⟨x0, x1, x2, x3⟩ := cells4 HD.out.bx
    obtain ⟨z0, z1, z2, z3⟩ := cells4 HD.out.rs
    obtain ⟨f0, f1, f2, f3⟩ := free4 HD.out.rs
    have LK := hidden HD.out.len
    have HNw := hidden (HNum.out wr HD.out.sm)
    have hkc : k1 ≤ c := by have := HR.out.1; rw [LK.out.1] at this; exact this
    have hjs : j ≤ s := by have := HR.out.2.1; rw [HL.out] at this; exact this
    have hs1 := HS.out.2
    have hs0 := HS.out.1
    have hcl := HCL.out
    have w2 : IntKind.i64.wrap ((j : Int) + 2) = (j : Int) + 2 := wrapN (by omega) (by omega)
    have w1 : IntKind.i64.wrap ((j : Int) + 1) = (j : Int) + 1 := wrapN (by omega) (by omega)
    have wk : IntKind.i64.wrap ((k1 : Int) + 1) = (k1 : Int) + 1 := wrapN (by omega) (by omega)
    by_cases h1 : k1 < c
    · have hl1 : (k1 : Int) < (c : Int) := by omega
      by_cases h2 : j + 2 ≤ s
      · have hgt2 : ¬ (s : Int) < (j : Int) + 2 := by omega
        obtain ⟨k, hk⟩ : ∃ k, (b.getD j 0).toNat = k := ⟨_, rfl⟩
        have hk256 : k < 256 := by rw [← hk]; exact UInt8.toNat_lt _
        have cj := HCE.out wr HD.out.sm j (by rw [HL.out]; omega)
        rw [hk] at cj
        have q0 : (0 : Int) ≤ (j : Int) := by omega
        have q1 : (j : Int) < (s : Int) := by omega
        have wk' : IntKind.i64.wrap (k : Int) = (k : Int) := wrapN (by omega) (by omega)
        have w3 : IntKind.i64.wrap ((j : Int) + 1 + (k : Int)) = (j : Int) + 1 + (k : Int) := wrapN (by omega) (by omega)
        have w4 : IntKind.i64.wrap ((j : Int) + 1 + (k : Int) + 4) = (j : Int) + 1 + (k : Int) + 4 := wrapN (by omega) (by omega)
        by_cases h3 : j + 1 + k + 4 ≤ s
        · have hgt3 : ¬ (s : Int) < (j : Int) + 1 + (k : Int) + 4 := by omega
          obtain ⟨pk, hslk, hbk⟩ := HB.out.sub (i := j + 1) (j := j + 1 + k) (by omega) (by omega) ((j : Int) + 1) ((j : Int) + 1 + (k : Int)) (by omega) (by omega)
          obtain ⟨pv, hslv, hbv⟩ := HB.out.sub (i := j + 1 + k) (j := j + 1 + k + 4) (by omega) (by omega) ((j : Int) + 1 + (k : Int)) ((j : Int) + 1 + (k : Int) + 4) (by omega) (by omega)
          rw [show j + 1 + k - (j + 1) = k by omega] at hslk hbk
          rw [show j + 1 + k + 4 - (j + 1 + k) = 4 by omega] at hslv hbv
          have HNX := hidden (HR.out.step (j := j + 1 + k + 4) (by rw [LK.out.1]; exact h1) (by rw [HL.out]; exact h3) (p1I_yes hk (by rw [HL.out]; exact h3)))
          have HTK := hidden (fun W q => (hbk W q).text)
          have HNV := hidden (fun W (q : Same w W) => number_any _ _ W (hbv W q) (by simp [List.length_drop, List.length_take]; omega))
          obtain ⟨kk, hkk⟩ : ∃ kk, (⟨((b.take (j + 1 + k)).drop (j + 1)).toArray⟩ : ByteArray) = kk := ⟨_, rfl⟩
          obtain ⟨zz, hvv⟩ : ∃ zz, num ((b.take (j + 1 + k + 4)).drop (j + 1 + k)) = zz := ⟨_, rfl⟩
          dsimp only at HNX
          rw [hkk] at HNX HTK
          rw [hvv] at HNX HNV
          clear hkk hvv hbk hbv hk
          have htk1 := HTK.out wr HD.out.sm
          have htk2 := HTK.out wr.drew HD.out.sm.drew
          have HK1 : Hid (k1 ≤ 65536 ∧ k3 ≤ 65537) := hidden (by have h9 := HR.out.zlen; rw [LK.out.1, LK.out.2.2] at h9; omega)
          go_wp2_with (go_at_call 75; refine HNw.out.mono ?_; rintro e y1 ⟨rfl, rfl⟩)
          go_cut [] from 108 to 121 (fun wx => ∃ a1' c1', NdB w (w.heap.size + 2) false (K ++ [kk]) [] Z a1' none a3 (k1 + 1) c1' 0 0 k3 c3 wx)
          case first =>
            obtain ⟨v0, v1, v2, v3⟩ := cells4 (HD.out.same (((Kept.refl _ wr).drew).alloc (.cells #[.string kk] 9))).bx
            obtain ⟨vv0, vv1, vv2, vv3⟩ := cells4 (HD.out.same (((Kept.refl _ wr).alloc (.cells #[.string kk] 9)).drew)).bx
            go_region_law (refine st_text rfl _ _ rfl (w.heap.size + 2) a1 k1 c1 K rfl (HD.out.same (by first | exact ((Kept.refl _ _).drew).alloc _ | exact ((Kept.refl _ _).alloc _).drew)).o1 wr.heap.size 1 kk rfl (by first | exact blk_new _ _ | exact blk_new wr _) (by have := HK1.out; omega) (HD.out.same (by first | exact ((Kept.refl _ _).drew).alloc _ | exact ((Kept.refl _ _).alloc _).drew)).b1 ?_; intro a1' c1' y5 o5 g5 n5; obtain ⟨p1, p2, d5, kk5⟩ := (HD.out.same (by first | exact ((Kept.refl _ _).drew).alloc _ | exact ((Kept.refl _ _).alloc _).drew)).key o5 g5 n5; have D5 := hidden d5; clear o5 g5 n5 d5 kk5)
            all_goals
              go_wp2_with fail
              go_meet
              case rel => exact ⟨a1', c1', D5.out⟩
          case rest =>
          obtain ⟨a1', c1', d5⟩ := hcut
          have D5 := hidden d5
          clear d5
          obtain ⟨y6, hy6⟩ : ∃ y, y = wc := ⟨_, rfl⟩
          subst hy6
          go_wp2
          obtain ⟨l0, l1, l2, l3⟩ := cells4 D5.out.bx
          go_cut [] from 122 to 138 (fun wx => ∃ a3' c3', NdB w (w.heap.size + 2) false (K ++ [kk]) [] (Z ++ [(zz : Int)]) a1' none a3' (k1 + 1) c1' 0 0 (k3 + 1) c3' wx)
          case first =>
            have HNd := HNV.out y6.drew D5.out.sm.drew
            obtain ⟨m0, m1, m2, m3⟩ := cells4 (D5.out.same (((Kept.refl _ y6).drew).alloc (.cells #[.int .i64 (zz : Nat)] 3))).bx
            obtain ⟨mm0, mm1, mm2, mm3⟩ := cells4 (D5.out.same (((Kept.refl _ y6).alloc (.cells #[.int .i64 (zz : Nat)] 3)).drew)).bx
            go_region_law (first
              | (refine step_call rfl 75 #[.slice pv 4 (cap - (j + 1 + k))] (fun u W => u = .int .i64 (zz : Nat) ∧ y6.drew = W) (by go_simp; try rfl) (HNd.mono (fun e w' ⟨h1, h2⟩ => ⟨_, h1, rfl, h2⟩)) ?_; rintro u y3 ⟨rfl, rfl⟩)
              | (refine st_int rfl _ _ rfl (w.heap.size + 2) a3 k3 c3 Z rfl (D5.out.same (by first | exact ((Kept.refl _ _).drew).alloc _ | exact ((Kept.refl _ _).alloc _).drew)).o3 y6.heap.size 1 (zz : Int) rfl (by first | exact blk_new _ _ | exact blk_new y6 _) (by have := HK1.out; omega) (D5.out.same (by first | exact ((Kept.refl _ _).drew).alloc _ | exact ((Kept.refl _ _).alloc _).drew)).b1 ?_; intro a3'' c3'' y8 o5 g5 n5; obtain ⟨p1, p2, d5, kk5⟩ := (D5.out.same (by first | exact ((Kept.refl _ _).drew).alloc _ | exact ((Kept.refl _ _).alloc _).drew)).kid o5 g5 n5; have D8 := hidden d5; clear o5 g5 n5 d5 kk5))
            all_goals
              go_wp2_with fail
              go_meet
              case rel => exact ⟨a3'', c3'', D8.out⟩
          case rest =>
          obtain ⟨a3'', c3'', d8⟩ := hcut
          have D8 := hidden d8
          clear d8
          go_wp2
          go_roundw
          case rel => exact ⟨K ++ [kk], Z ++ [(zz : Int)], j + 1 + k + 4, a1', k1 + 1, c1', a3'', k3 + 1, c3'', by go_num, by go_num, D8.out, HNX.out⟩
          case measure => simp [intOf]; omega
        · have hgt3 : (s : Int) < (j : Int) + 1 + (k : Int) + 4 := by omega
          have HNO := hidden (HR.out.no (by rw [HL.out]; omega) (by rw [LK.out.1]; exact h1) (p1I_no (by rw [hk, HL.out]; omega)))
          clear hk
          go_wp2_with (go_at_call 75; refine HNw.out.mono ?_; rintro e y1 ⟨rfl, rfl⟩)
          have gf := fill4 (W := wr) (g := w.heap.size) HD.out.rs (.bool false) (.slice a1 k1 c1) (.slice none 0 0) (.slice a3 k3 c3)
          have kf := kept_fill4 (W := wr) (g := w.heap.size) (.bool false) (.slice a1 k1 c1) (.slice none 0 0) (.slice a3 k3 c3)
          generalize ((((wr.setCell ⟨w.heap.size, 0, none⟩ (.bool false)).setCell ⟨w.heap.size, 1, none⟩ (.slice a1 k1 c1)).setCell ⟨w.heap.size, 2, none⟩ (.slice none 0 0)).setCell ⟨w.heap.size, 3, none⟩ (.slice a3 k3 c3)) = WF at gf kf ⊢
          obtain ⟨p0, p1, p2, p3⟩ := cells4 gf
          have FN := HD.out.fin kf
          exact bodyPost_ret (v := .tuple #[.agg #[.bool false, .slice a1 k1 c1, .slice none 0 0, .slice a3 k3 c3], .bool false]) (by simp [results, Tryd.results46, go_sem, p0, p1, p2, p3]) rfl ⟨_, rfl, ⟨_, _, _, rfl, FN.1, (fun h => by cases h), (fun _ => HNO.out), rfl, HR.out.1, Nat.zero_le _, (by have h8 := HR.out.1; have h9 := HR.out.zlen; show Z.length ≤ c + 1; omega), FN.2⟩⟩
      · have hgt2 : (s : Int) < (j : Int) + 2 := by omega
        have HNO := hidden (HR.out.no (by rw [HL.out]; omega) (by rw [LK.out.1]; exact h1) (p1I_no (by rw [HL.out]; omega)))
        go_wp2_with (go_at_call 75; refine HNw.out.mono ?_; rintro e y1 ⟨rfl, rfl⟩)
        have gf := fill4 (W := wr) (g := w.heap.size) HD.out.rs (.bool false) (.slice a1 k1 c1) (.slice none 0 0) (.slice a3 k3 c3)
        have kf := kept_fill4 (W := wr) (g := w.heap.size) (.bool false) (.slice a1 k1 c1) (.slice none 0 0) (.slice a3 k3 c3)
        generalize ((((wr.setCell ⟨w.heap.size, 0, none⟩ (.bool false)).setCell ⟨w.heap.size, 1, none⟩ (.slice a1 k1 c1)).setCell ⟨w.heap.size, 2, none⟩ (.slice none 0 0)).setCell ⟨w.heap.size, 3, none⟩ (.slice a3 k3 c3)) = WF at gf kf ⊢
        obtain ⟨p0, p1, p2, p3⟩ := cells4 gf
        have FN := HD.out.fin kf
        exact bodyPost_ret (v := .tuple #[.agg #[.bool false, .slice a1 k1 c1, .slice none 0 0, .slice a3 k3 c3], .bool false]) (by simp [results, Tryd.results46, go_sem, p0, p1, p2, p3]) rfl ⟨_, rfl, ⟨_, _, _, rfl, FN.1, (fun h => by cases h), (fun _ => HNO.out), rfl, HR.out.1, Nat.zero_le _, (by have h8 := HR.out.1; have h9 := HR.out.zlen; show Z.length ≤ c + 1; omega), FN.2⟩⟩
    · have hl1 : ¬ (k1 : Int) < (c : Int) := by omega
      have HYES := hidden (HR.out.yes (by rw [HL.out]; omega) (by rw [LK.out.1]; omega))
      go_wp2_with (go_at_call 75; refine HNw.out.mono ?_; rintro e y1 ⟨rfl, rfl⟩)
      have gf := fill4 (W := wr) (g := w.heap.size) HD.out.rs (.bool false) (.slice a1 k1 c1) (.slice none 0 0) (.slice a3 k3 c3)
      have kf := kept_fill4 (W := wr) (g := w.heap.size) (.bool false) (.slice a1 k1 c1) (.slice none 0 0) (.slice a3 k3 c3)
      generalize ((((wr.setCell ⟨w.heap.size, 0, none⟩ (.bool false)).setCell ⟨w.heap.size, 1, none⟩ (.slice a1 k1 c1)).setCell ⟨w.heap.size, 2, none⟩ (.slice none 0 0)).setCell ⟨w.heap.size, 3, none⟩ (.slice a3 k3 c3)) = WF at gf kf ⊢
      obtain ⟨p0, p1, p2, p3⟩ := cells4 gf
      have FN := HD.out.fin kf
      exact bodyPost_ret (v := .tuple #[.agg #[.bool false, .slice a1 k1 c1, .slice none 0 0, .slice a3 k3 c3], .bool true]) (by simp [results, Tryd.results46, go_sem, p0, p1, p2, p3]) rfl ⟨_, rfl, ⟨_, _, _, rfl, FN.1, (fun _ => ⟨_, HYES.out⟩), (fun h => by cases h), rfl, HR.out.1, Nat.zero_le _, (by have h8 := HR.out.1; have h9 := HR.out.zlen; show Z.length ≤ c + 1; omega), FN.2⟩⟩
end Go.Proofs.YtpjgghalnkfdkaaDoor
