/- node: the document's read of a leaf. (Made by mkne15.py.) -/
import Derived.Test.YtpjgghalnkfdkaaDoorNE11
namespace Go.Proofs.YtpjgghalnkfdkaaDoor
open Go.RowKit
set_option linter.unusedVariables false
set_option linter.unusedSimpArgs false
/-- What the document's read tells. -/
structure RDq (lf : Bool) (c : Nat) (s : List UInt8) (w : World) (u : Value) (W : World) : Prop where
  out : ∃ n v ok, u = .tuple #[v, .bool ok] ∧ (∀ W', Kept (fun i => i < w.heap.size) W W' → NdR W' v n) ∧ (ok = true → ∃ r, pN lf c s = some (n, r)) ∧ (ok = false → pN lf c s = none) ∧ n.leaf = lf ∧ n.keys.length ≤ c ∧ n.vals.length ≤ c ∧ n.kids.length ≤ c + 1 ∧ Same w W
theorem b0_at (b : List UInt8) (i : Nat) : b0 (b.drop i) = (b.getD i 0).toNat := by simp [b0, List.getD_eq_getElem?_getD]
theorem b1_at (b : List UInt8) (i : Nat) : b1 (b.drop i) = (b.getD (i + 1) 0).toNat := by simp [b1, List.getD_eq_getElem?_getD]
theorem sub_at (b : List UInt8) (i j : Nat) : (b.take (i + j)).drop i = (b.drop i).take j := by rw [List.drop_take, show i + j - i = j by omega]
theorem p1L_no {b : List UInt8} {i : Nat} (h : ¬ (i + 2 ≤ b.length ∧ i + 2 + (b.getD i 0).toNat + (b.getD (i + 1) 0).toNat ≤ b.length)) : p1 true (b.drop i) = none := by
  simp only [p1, if_true, b0_at, b1_at, List.length_drop]
  rw [if_neg (by omega)]
theorem p1L_yes {b : List UInt8} {i k v : Nat} (hk : (b.getD i 0).toNat = k) (hv : (b.getD (i + 1) 0).toNat = v) (h : i + 2 + k + v ≤ b.length) : p1 true (b.drop i) = some (⟨⟨((b.take (i + 2 + k)).drop (i + 2)).toArray⟩, ⟨((b.take (i + 2 + k + v)).drop (i + 2 + k)).toArray⟩, 0⟩, b.drop (i + 2 + k + v)) := by
  simp only [p1, if_true, b0_at, b1_at, List.length_drop, hk, hv]
  rw [if_pos (by omega), sub_at, sub_at, List.drop_drop, List.drop_drop, List.drop_drop]
  simp only [Nat.add_assoc]
/-- How far it has come. -/
def RdL (c : Nat) (b : List UInt8) (K V : List ByteArray) (i : Nat) : Prop :=
  K.length ≤ c ∧ i ≤ b.length ∧ ∃ l, pE true K.length (b.drop 16) = some (l, b.drop i) ∧ K = l.map En.k ∧ V = l.map En.v
theorem RdL.vlen {c : Nat} {b : List UInt8} {K V : List ByteArray} {i : Nat} (h : RdL c b K V i) : V.length = K.length := by
  obtain ⟨_, _, l, _, hK, hV⟩ := h
  rw [hK, hV]; simp
theorem RdL.no {c : Nat} {b : List UInt8} {K V : List ByteArray} {i : Nat} (h : RdL c b K V i) (hc : K.length < c) (h1 : p1 true (b.drop i) = none) : pN true c (b.drop 16) = none := by
  obtain ⟨_, _, l, hp, hK, hV⟩ := h
  have : pE true c (b.drop 16) = none := by
    refine pE_none (i := K.length + 1) (by omega) ?_
    simp only [pE, hp, h1]
  simp only [pN, if_true, this, Option.map_none]
theorem RdL.step {c : Nat} {b : List UInt8} {K V : List ByteArray} {i j : Nat} {e : En} (h : RdL c b K V i) (hc : K.length < c) (hj : j ≤ b.length) (h1 : p1 true (b.drop i) = some (e, b.drop j)) : RdL c b (K ++ [e.k]) (V ++ [e.v]) j := by
  obtain ⟨_, _, l, hp, hK, hV⟩ := h
  refine ⟨by simp; omega, hj, l ++ [e], ?_, by rw [hK]; simp, by rw [hV]; simp⟩
  rw [List.length_append, List.length_singleton]
  simp only [pE, hp, h1]
theorem RdL.yes {c : Nat} {b : List UInt8} {K V : List ByteArray} {i : Nat} (h : RdL c b K V i) (hc : c ≤ K.length) : pN true c (b.drop 16) = some (⟨true, K, V, []⟩, b.drop i) := by
  obtain ⟨h0, _, l, hp, hK, hV⟩ := h
  have : K.length = c := by omega
  rw [this] at hp
  simp only [pN, if_true, hp, Option.map_some, mkN, ← hK, ← hV]
theorem RdL.start (c : Nat) (b : List UInt8) (h : 16 ≤ b.length) : RdL c b [] [] 16 := ⟨Nat.zero_le _, h, [], rfl, rfl, rfl⟩
theorem two_blk (w : World) (o1 o2 : Obj) : ((w.alloc o1).alloc o2).heap[w.heap.size]? = some o1 ∧ ((w.alloc o1).alloc o2).heap[w.heap.size + 1]? = some o2 ∧ Same w ((w.alloc o1).alloc o2) ∧ ((w.alloc o1).alloc o2).heap.size = w.heap.size + 2 := by
  have h2 := blk_new (w.alloc o1) o2
  have e : (w.alloc o1).heap.size = w.heap.size + 1 := by simp
  rw [e] at h2
  exact ⟨blk_alloc (blk_new w o1) _, h2, ((Kept.refl _ w).alloc _).alloc _, by simp⟩
set_option maxHeartbeats 8000000 in
set_option maxRecDepth 100000 in
theorem rdLeaf (c : Nat) (b : List UInt8) (ao : Option Addr) (s cap : Nat) (w : World) (hb : Bt w (.slice ao s cap) b) (h0 : 512 ≤ s) (h1 : s ≤ 4096) (hlf : b.getD 4 0 = 1) (hc : bCnt b = c) :
    Calls Tryd.prog 46 #[.slice ao s cap] w fun e w' => ∃ u, e = .returned u ∧ RDq true c (b.drop 16) w u w' := by
  have hl : b.length = s := hb.len.1.symm
  obtain ⟨p68, hsl68, hb68⟩ := hb.sub (i := 6) (j := 8) (by omega) (by omega) 6 8 rfl rfl
  have e26 : (8 - 6 : Nat) = 2 := rfl
  rw [e26] at hsl68 hb68
  have e68 : (b.take 8).drop 6 = (b.drop 6).take 2 := by rw [List.drop_take]
  rw [e68] at hb68
  have hcl : c < 65536 := by
    rw [← hc]
    have := num_lt ((b.drop 6).take 2)
    have hh : ((b.drop 6).take 2).length = 2 := by rw [List.length_take, List.length_drop]; omega
    rw [hh] at this
    exact this
  have HNum := hidden (fun W (k : Same w W) => number_any _ _ W (hb68 W k) (by rw [List.length_take]; omega))
  have ec : num ((b.drop 6).take 2) = c := hc
  rw [ec] at HNum
  obtain ⟨bb, off, rfl, hcs⟩ := hb.cell (by omega)
  have HB := hidden hb
  have HL := hidden hl
  have HCL := hidden hcl
  have HCE := hidden (show ∀ W, Same w W → ∀ j (h : j < b.length), W.cell? ⟨bb, off + j, none⟩ = some (.int .u8 ((b.getD j 0).toNat : Nat)) from fun W k j h => by
    rw [k.cell (fun h => h) (hcs j h)]
    simp [U8, List.getD_eq_getElem?_getD, h])
  have c4 := HCE.out w (Kept.refl _ _) 4 (by omega)
  rw [hlf] at c4
  have c4' : ((w.alloc (.cells #[.bool false, .slice none 0 0, .slice none 0 0, .slice none 0 0] 25))).cell? ⟨bb, off + 4, none⟩ = some (.int .u8 1) := by
    have := HCE.out (w.alloc (.cells #[.bool false, .slice none 0 0, .slice none 0 0, .slice none 0 0] 25)) (same_alloc _ _) 4 (by omega)
    rw [hlf] at this
    exact this
  have q4 : (4 : Int) < (s : Int) := by omega
  have A2 := two_blk w (.cells #[.bool false, .slice none 0 0, .slice none 0 0, .slice none 0 0] 25) (.cells #[.bool true, .slice none 0 0, .slice none 0 0, .slice none 0 0] 25)
  have D2 : Hid (NdB w (w.heap.size + 2) true [] [] [] none none none 0 0 0 0 0 0 ((w.alloc (.cells #[.bool false, .slice none 0 0, .slice none 0 0, .slice none 0 0] 25)).alloc (.cells #[.bool true, .slice none 0 0, .slice none 0 0, .slice none 0 0] 25))) := hidden ⟨A2.2.1, A2.1, World.ownsRow_nil _ _ _ _, World.ownsRow_nil _ _ _ _, World.ownsRow_nil _ _ _ _, (fun k h => by simp [Value.ownBlock] at h), A2.2.2.1, by omega, by rw [A2.2.2.2]; omega⟩
  obtain ⟨x0, x1, x2, x3⟩ := cells4 D2.out.bx
  have HST := hidden (RdL.start c b (by omega))
  have HS := hidden (show 512 ≤ s ∧ s ≤ 4096 from ⟨h0, h1⟩)
  clear hb hl hcs hb68 e68 A2 hc hcl ec hlf c4 h0 h1
  go_enter Tryd.func46, Tryd.ntmps46
  go_wp2
  go_loopw [5, 6] (fun x i wr => ∃ K V j a1 k1 c1 a2 k2 c2, x = .int .i64 ((j : Nat) : Int) ∧ i = .int .i64 ((k1 : Nat) : Int) ∧ NdB w (w.heap.size + 2) true K V [] a1 a2 none k1 c1 k2 c2 0 0 wr ∧ RdL c b K V j) (fun _ i _ => c - (intOf i).toNat)
  case atStart => exact ⟨[], [], 16, none, 0, 0, none, 0, 0, rfl, rfl, D2.out, HST.out⟩
  case round =>
    obtain ⟨K, V, j, a1, k1, c1, a2, k2, c2, rfl, rfl, hd, hr⟩ := hrel
    clear D2 HST x0 x1 x2 x3 c4'
    have HD := hidden hd
    have HR := hidden hr
    clear hd hr
    obtain ⟨x0, x1, x2, x3⟩ := cells4 HD.out.bx
    obtain ⟨z0, z1, z2, z3⟩ := cells4 HD.out.rs
    obtain ⟨f0, f1, f2, f3⟩ := free4 HD.out.rs
    have LK := hidden HD.out.len
    have HNw := hidden (HNum.out wr HD.out.sm)
    have hkc : k1 ≤ c := by have := HR.out.1; rw [LK.out.1] at this; exact this
    have hjs : j ≤ s := by have := HR.out.2.1; rw [HL.out] at this; exact this
    have hs1 := HS.out.2
    have hcl := HCL.out
    have w2 : IntKind.i64.wrap ((j : Int) + 2) = (j : Int) + 2 := wrapN (by omega) (by omega)
    have w1 : IntKind.i64.wrap ((j : Int) + 1) = (j : Int) + 1 := wrapN (by omega) (by omega)
    have wk : IntKind.i64.wrap ((k1 : Int) + 1) = (k1 : Int) + 1 := wrapN (by omega) (by omega)
    by_cases h1 : k1 < c
    · have hl1 : (k1 : Int) < (c : Int) := by omega
      by_cases h2 : j + 2 ≤ s
      · have hgt2 : ¬ (s : Int) < (j : Int) + 2 := by omega
        obtain ⟨k, hk⟩ : ∃ k, (b.getD j 0).toNat = k := ⟨_, rfl⟩
        obtain ⟨v, hv⟩ : ∃ v, (b.getD (j + 1) 0).toNat = v := ⟨_, rfl⟩
        have hk256 : k < 256 := by rw [← hk]; exact UInt8.toNat_lt _
        have hv256 : v < 256 := by rw [← hv]; exact UInt8.toNat_lt _
        have cj := HCE.out wr HD.out.sm j (by rw [HL.out]; omega)
        have cj1 := HCE.out wr HD.out.sm (j + 1) (by rw [HL.out]; omega)
        rw [hk] at cj
        rw [hv] at cj1
        have q0 : (0 : Int) ≤ (j : Int) := by omega
        have q1 : (j : Int) < (s : Int) := by omega
        have q2 : (0 : Int) ≤ (j : Int) + 1 := by omega
        have q3 : (j : Int) + 1 < (s : Int) := by omega
        have q5 : ((j : Int) + 1).toNat = j + 1 := by omega
        have wk' : IntKind.i64.wrap (k : Int) = (k : Int) := wrapN (by omega) (by omega)
        have wv' : IntKind.i64.wrap (v : Int) = (v : Int) := wrapN (by omega) (by omega)
        have w3 : IntKind.i64.wrap ((j : Int) + 2 + (k : Int)) = (j : Int) + 2 + (k : Int) := wrapN (by omega) (by omega)
        have w4 : IntKind.i64.wrap ((j : Int) + 2 + (k : Int) + (v : Int)) = (j : Int) + 2 + (k : Int) + (v : Int) := wrapN (by omega) (by omega)
        by_cases h3 : j + 2 + k + v ≤ s
        · have hgt3 : ¬ (s : Int) < (j : Int) + 2 + (k : Int) + (v : Int) := by omega
          obtain ⟨pk, hslk, hbk⟩ := HB.out.sub (i := j + 2) (j := j + 2 + k) (by omega) (by omega) ((j : Int) + 2) ((j : Int) + 2 + (k : Int)) (by omega) (by omega)
          obtain ⟨pv, hslv, hbv⟩ := HB.out.sub (i := j + 2 + k) (j := j + 2 + k + v) (by omega) (by omega) ((j : Int) + 2 + (k : Int)) ((j : Int) + 2 + (k : Int) + (v : Int)) (by omega) (by omega)
          rw [show j + 2 + k - (j + 2) = k by omega] at hslk hbk
          rw [show j + 2 + k + v - (j + 2 + k) = v by omega] at hslv hbv
          have HNX := hidden (HR.out.step (j := j + 2 + k + v) (by rw [LK.out.1]; exact h1) (by rw [HL.out]; exact h3) (p1L_yes hk hv (by rw [HL.out]; exact h3)))
          have HTK := hidden (fun W q => (hbk W q).text)
          have HTV := hidden (fun W q => (hbv W q).text)
          obtain ⟨kk, hkk⟩ : ∃ kk, (⟨((b.take (j + 2 + k)).drop (j + 2)).toArray⟩ : ByteArray) = kk := ⟨_, rfl⟩
          obtain ⟨vv, hvv⟩ : ∃ vv, (⟨((b.take (j + 2 + k + v)).drop (j + 2 + k)).toArray⟩ : ByteArray) = vv := ⟨_, rfl⟩
          dsimp only at HNX
          rw [hkk] at HNX HTK
          rw [hvv] at HNX HTV
          clear hkk hvv hbk hbv hk hv
          have htk1 := HTK.out wr HD.out.sm
          have htk2 := HTK.out wr.drew HD.out.sm.drew
          obtain ⟨v0, v1, v2, v3⟩ := cells4 (HD.out.same (((Kept.refl _ wr).drew).alloc (.cells #[.string kk] 9))).bx
          obtain ⟨vv0, vv1, vv2, vv3⟩ := cells4 (HD.out.same (((Kept.refl _ wr).alloc (.cells #[.string kk] 9)).drew)).bx
          have HK1 : Hid (k1 ≤ 65536 ∧ k2 ≤ 65536) := hidden (by have h9 := HR.out.vlen; rw [LK.out.1, LK.out.2.1] at h9; omega)
          go_wp2_with (go_at_call 75; refine HNw.out.mono ?_; rintro e y1 ⟨rfl, rfl⟩)
          go_region_law (refine st_text rfl _ _ rfl (w.heap.size + 2) a1 k1 c1 K rfl (HD.out.same (by first | exact ((Kept.refl _ _).drew).alloc _ | exact ((Kept.refl _ _).alloc _).drew)).o1 wr.heap.size 1 kk rfl (by first | exact blk_new _ _ | exact blk_new wr _) (by have := HK1.out; omega) (HD.out.same (by first | exact ((Kept.refl _ _).drew).alloc _ | exact ((Kept.refl _ _).alloc _).drew)).b1 ?_; intro a1' c1' y5 o5 g5 n5; obtain ⟨p1, p2, d5, kk5⟩ := (HD.out.same (by first | exact ((Kept.refl _ _).drew).alloc _ | exact ((Kept.refl _ _).alloc _).drew)).key o5 g5 n5; have D5 := hidden d5; clear o5 g5 n5 d5 kk5)
          all_goals
            go_wp2
            obtain ⟨y6, hy6⟩ : ∃ y6, y5.setCell ⟨w.heap.size + 1, 1, none⟩ (.slice a1' (k1 + 1) c1') = y6 := ⟨_, rfl⟩
            rw [hy6] at D5 ⊢
            clear hy6
            obtain ⟨l0, l1, l2, l3⟩ := cells4 D5.out.bx
            have htv1 := HTV.out y6 D5.out.sm
            have htv2 := HTV.out y6.drew D5.out.sm.drew
            obtain ⟨m0, m1, m2, m3⟩ := cells4 (D5.out.same (((Kept.refl _ y6).drew).alloc (.cells #[.string vv] 9))).bx
            obtain ⟨mm0, mm1, mm2, mm3⟩ := cells4 (D5.out.same (((Kept.refl _ y6).alloc (.cells #[.string vv] 9)).drew)).bx
            go_region_law (refine st_text rfl _ _ rfl (w.heap.size + 2) a2 k2 c2 V rfl (D5.out.same (by first | exact ((Kept.refl _ _).drew).alloc _ | exact ((Kept.refl _ _).alloc _).drew)).o2 y6.heap.size 1 vv rfl (by first | exact blk_new _ _ | exact blk_new y6 _) (by have := HK1.out; omega) (D5.out.same (by first | exact ((Kept.refl _ _).drew).alloc _ | exact ((Kept.refl _ _).alloc _).drew)).b1 ?_; intro a2' c2' y8 o5 g5 n5; obtain ⟨p1, p2, d5, kk5⟩ := (D5.out.same (by first | exact ((Kept.refl _ _).drew).alloc _ | exact ((Kept.refl _ _).alloc _).drew)).val o5 g5 n5; have D8 := hidden d5; clear o5 g5 n5 d5 kk5)
            all_goals
              go_wp2
              go_roundw
              case rel => exact ⟨K ++ [kk], V ++ [vv], j + 2 + k + v, a1', k1 + 1, c1', a2', k2 + 1, c2', by go_num, by go_num, D8.out, HNX.out⟩
              case measure => simp [intOf]; omega
        · have hgt3 : (s : Int) < (j : Int) + 2 + (k : Int) + (v : Int) := by omega
          have HNO := hidden (HR.out.no (by rw [LK.out.1]; exact h1) (p1L_no (by rw [hk, hv, HL.out]; omega)))
          clear hk hv
          go_wp2_with (go_at_call 75; refine HNw.out.mono ?_; rintro e y1 ⟨rfl, rfl⟩)
          have gf := fill4 (W := wr) (g := w.heap.size) HD.out.rs (.bool true) (.slice a1 k1 c1) (.slice a2 k2 c2) (.slice none 0 0)
          have kf := kept_fill4 (W := wr) (g := w.heap.size) (.bool true) (.slice a1 k1 c1) (.slice a2 k2 c2) (.slice none 0 0)
          generalize ((((wr.setCell ⟨w.heap.size, 0, none⟩ (.bool true)).setCell ⟨w.heap.size, 1, none⟩ (.slice a1 k1 c1)).setCell ⟨w.heap.size, 2, none⟩ (.slice a2 k2 c2)).setCell ⟨w.heap.size, 3, none⟩ (.slice none 0 0)) = WF at gf kf ⊢
          obtain ⟨p0, p1, p2, p3⟩ := cells4 gf
          have FN := HD.out.fin kf
          exact bodyPost_ret (v := .tuple #[.agg #[.bool true, .slice a1 k1 c1, .slice a2 k2 c2, .slice none 0 0], .bool false]) (by simp [results, Tryd.results46, go_sem, p0, p1, p2, p3]) rfl ⟨_, rfl, ⟨_, _, _, rfl, FN.1, (fun h => by cases h), (fun _ => HNO.out), rfl, HR.out.1, (by have h8 := HR.out.1; have h9 := HR.out.vlen; rw [← h9] at h8; exact h8), Nat.zero_le _, FN.2⟩⟩
      · have hgt2 : (s : Int) < (j : Int) + 2 := by omega
        have HNO := hidden (HR.out.no (by rw [LK.out.1]; exact h1) (p1L_no (by rw [HL.out]; omega)))
        go_wp2_with (go_at_call 75; refine HNw.out.mono ?_; rintro e y1 ⟨rfl, rfl⟩)
        have gf := fill4 (W := wr) (g := w.heap.size) HD.out.rs (.bool true) (.slice a1 k1 c1) (.slice a2 k2 c2) (.slice none 0 0)
        have kf := kept_fill4 (W := wr) (g := w.heap.size) (.bool true) (.slice a1 k1 c1) (.slice a2 k2 c2) (.slice none 0 0)
        generalize ((((wr.setCell ⟨w.heap.size, 0, none⟩ (.bool true)).setCell ⟨w.heap.size, 1, none⟩ (.slice a1 k1 c1)).setCell ⟨w.heap.size, 2, none⟩ (.slice a2 k2 c2)).setCell ⟨w.heap.size, 3, none⟩ (.slice none 0 0)) = WF at gf kf ⊢
        obtain ⟨p0, p1, p2, p3⟩ := cells4 gf
        have FN := HD.out.fin kf
        exact bodyPost_ret (v := .tuple #[.agg #[.bool true, .slice a1 k1 c1, .slice a2 k2 c2, .slice none 0 0], .bool false]) (by simp [results, Tryd.results46, go_sem, p0, p1, p2, p3]) rfl ⟨_, rfl, ⟨_, _, _, rfl, FN.1, (fun h => by cases h), (fun _ => HNO.out), rfl, HR.out.1, (by have h8 := HR.out.1; have h9 := HR.out.vlen; rw [← h9] at h8; exact h8), Nat.zero_le _, FN.2⟩⟩
    · have hl1 : ¬ (k1 : Int) < (c : Int) := by omega
      have HYES := hidden (HR.out.yes (by rw [LK.out.1]; omega))
      go_wp2_with (go_at_call 75; refine HNw.out.mono ?_; rintro e y1 ⟨rfl, rfl⟩)
      have gf := fill4 (W := wr) (g := w.heap.size) HD.out.rs (.bool true) (.slice a1 k1 c1) (.slice a2 k2 c2) (.slice none 0 0)
      have kf := kept_fill4 (W := wr) (g := w.heap.size) (.bool true) (.slice a1 k1 c1) (.slice a2 k2 c2) (.slice none 0 0)
      generalize ((((wr.setCell ⟨w.heap.size, 0, none⟩ (.bool true)).setCell ⟨w.heap.size, 1, none⟩ (.slice a1 k1 c1)).setCell ⟨w.heap.size, 2, none⟩ (.slice a2 k2 c2)).setCell ⟨w.heap.size, 3, none⟩ (.slice none 0 0)) = WF at gf kf ⊢
      obtain ⟨p0, p1, p2, p3⟩ := cells4 gf
      have FN := HD.out.fin kf
      exact bodyPost_ret (v := .tuple #[.agg #[.bool true, .slice a1 k1 c1, .slice a2 k2 c2, .slice none 0 0], .bool true]) (by simp [results, Tryd.results46, go_sem, p0, p1, p2, p3]) rfl ⟨_, rfl, ⟨_, _, _, rfl, FN.1, (fun _ => ⟨_, HYES.out⟩), (fun h => by cases h), rfl, HR.out.1, (by have h8 := HR.out.1; have h9 := HR.out.vlen; rw [← h9] at h8; exact h8), Nat.zero_le _, FN.2⟩⟩
end Go.Proofs.YtpjgghalnkfdkaaDoor
