/- The document's Sum, walked. -/
import Derived.Test.YtbankcgkbiflhaaDoorDB
import Derived.Test.YtbankcgkbiflhaaDoorAppS
import Derived.Test.YtbankcgkbiflhaaDoorShS
namespace Go.Proofs.YtbankcgkbiflhaaDoor
open Go.RowKit
set_option linter.unusedVariables false

/-- A row of bytes of one's own gives its cells. -/
theorem own_at {w : World} {base : Nat} {a : Option Addr} {n cap : Nat} {l : List UInt8} (h : w.ownsRow base 5 1 (.slice a n cap) n (l.map U8)) (hp : 0 < l.length) : ∃ b, a = some ⟨b, 0, none⟩ ∧ base ≤ b ∧ n = l.length ∧ n ≤ cap ∧ ∀ j x, l[j]? = some x → w.cell? ⟨b, j, none⟩ = some (U8 x) := by
  obtain ⟨h1, h2⟩ := h
  rw [List.length_map, Nat.mul_one] at h1
  rcases h2 with ⟨hv, hn⟩ | ⟨g, cap', cur, hv, hb, hh, hc, hm, hz, ht⟩
  · omega
  · obtain ⟨rfl, rfl⟩ : a = some ⟨g, 0, none⟩ ∧ cap = cap' := by simpa using hv
    refine ⟨g, rfl, hb, h1.symm, hc, fun j x hx => ?_⟩
    have hj := (List.getElem?_eq_some_iff.1 hx).1
    rw [blk_cell hh]
    have e : (cur.toList.take (n * 1))[j]? = some (U8 x) := by rw [ht, List.getElem?_map, hx]; rfl
    rw [List.getElem?_take, if_pos (by omega)] at e
    rw [← Array.getElem?_toList]
    exact e
theorem be8_take (N j : Nat) (h : j < 8) : (be8 N).take (j + 1) = (be8 N).take j ++ [UInt8.ofNat (N / 2 ^ (56 - 8 * j) % 256)] := by
  rw [List.take_succ_eq_append_getElem (by rw [be8_len]; exact h)]
  congr 2
  simp [be8]
theorem pad_form (n : Nat) (h : n ≤ 1152921504606846976) : padL n = (128 :: List.replicate (63 - (n + 8) % 64) 0) ++ (be8 (8 * n)).take 8 := by
  unfold padL
  rw [List.take_of_length_le (by rw [be8_len]; omega), Nat.mod_eq_of_lt (a := 8 * n) (by omega)]
theorem drop_take_at (P : List UInt8) (k : Nat) (h : 64 * k + 64 ≤ P.length) : ((P.drop (64 * k)).take 64).length = 64 ∧ ∀ i, i < 64 → ((P.drop (64 * k)).take 64).getD i 0 = P.getD (64 * k + i) 0 := by
  refine ⟨by simp; omega, fun i hi => ?_⟩
  rw [List.getD_eq_getElem?_getD, List.getD_eq_getElem?_getD, List.getElem?_take, if_pos hi, List.getElem?_drop]
theorem still_val {P : Program} {ops : Array Oper} {o : Oper} {a : Act} {w : World} {Q : Act → Prop} {rest : List Oper}
    (hg : o.guard = none) (v : Value) (hr : (execOp a.eval o).run P w = .ok (.value v) w) (h : wpStill P ops w Q rest (a.put o.dst v)) : wpStill P ops w Q (o :: rest) a := wpStill_step fun K hK => by
  have hw : Region.wanted o (yielded ops a.tmps) = true := by simp [Region.wanted, hg]
  rw [if_pos hw]
  unfold Oper.still
  rw [hr]
  exact ⟨rfl, hK _ h⟩
theorem y_slice {P : Program} {o : Oper} {a : Act} {W : World} {ty : TypeId} {x lo hi : Operand} {vx vl vh v : Value} (ho : o.op = .slice ty x (some lo) (some hi) none) (hx : a.eval x = vx) (hl : a.eval lo = vl) (hh : a.eval hi = vh) (hr : (Instr.sliceAt ty vx (some vl) (some vh) none).run P W = .ok v W) : (execOp a.eval o).run P W = .ok (.value v) W := by
  unfold execOp
  simp only [ho, hx, hl, hh, hr, Option.map_some, Option.map_none, Sem.run_bind, Sem.run_pure, Result.andThen_ok]
set_option maxRecDepth 100000 in
theorem run_sub (bp np cp kk : Nat) (h1 : kk + 64 ≤ np) (h2 : np ≤ cp) (W : World) : (Instr.sliceAt 22 (.slice (some ⟨bp, 0, none⟩) np cp) (some (.int .i64 (kk : Int))) (some (.int .i64 ((kk : Int) + 64))) none).run Tryd.prog W = .ok (.slice (some ⟨bp, kk, none⟩) 64 (cp - kk)) W := by
  obtain ⟨i0, hi, hz0, hz1, hz2⟩ := info_parts info5
  rw [run_sliceAt_slice (h := Tryd.underlying22), run_slice_lh (ht := Tryd.underlying22) (h0 := by omega) (h1 := by omega) (h2 := by omega)]
  have hs : (sizeOf (Tryd.prog.elem 22)).run Tryd.prog W = .ok 1 W := by
    have e : Tryd.prog.elem 22 = 5 := by kernel_rfl
    rw [e]
    simp [sizeOf, typeInfo, hi, hz1]
  rw [hs]
  have hne : ¬ cp = kk := by omega
  simp [sliced, Addr.add_mid, hne]
  omega
/-- The document's row of bytes, beside the result's block. -/
structure RowS (w : World) (r : Nat) (W : World) (v : Value) (L : List UInt8) : Prop where
  own : W.ownsRow (r + 1) 5 1 v L.length (L.map U8)
  res : W.heap[r]? = some (.cells (row32 [] 0) 24 (0, 0))
  same : Same w W
theorem RowS.form {w : World} {r : Nat} {W : World} {v : Value} {L : List UInt8} (h : RowS w r W v L) : ∃ a c, v = .slice a L.length c := own_form h.own
theorem RowS.push {w : World} {r : Nat} {W w' : World} {a a' : Option Addr} {c cap x : Nat} {L : List UInt8} {o : Obj} (hr : w.heap.size ≤ r) (hx : x < 256) (h : RowS w r W (.slice a L.length c) L)
    (ho : w'.ownsRow (r + 1) 5 1 (.slice a' (L.length + 1) cap) (L.length + 1) (L.map U8 ++ [.int .u8 (x : Int)])) (hg : (W.alloc o).grownBy w' (Value.slice a L.length c).ownBlock) : RowS w r w' (.slice a' (L.length + 1) cap) (L ++ [UInt8.ofNat x]) := by
  have hb : ∀ k, (Value.slice a L.length c).ownBlock = some k → r + 1 ≤ k := fun k hk => (h.own.lt k hk).1
  refine ⟨?_, ?_, (h.same.alloc o).grown hg (fun k hk hl => by have := hb k hk; omega)⟩
  · rw [List.length_append, List.map_append]
    have e : [UInt8.ofNat x].map U8 = [Value.int .u8 (x : Int)] := by simp [U8, Nat.mod_eq_of_lt hx]
    rw [e]
    exact ho
  · refine (hg.block r (by have := blk_lt h.res; simp; omega) (fun e => ?_)).trans (blk_alloc h.res o)
    have := hb r e.symm
    omega
set_option maxHeartbeats 4000000 in
set_option maxRecDepth 100000 in
theorem sumD_any (v : Value) (l : List UInt8) (w : World) (hb : Byt w v l) (hl : l.length ≤ 140737488355000) : Calls Tryd.prog 12 #[v] w fun e w' => e = .returned (.agg ((shaL l).map U8).toArray) ∧ Same w w' := by
  obtain ⟨i0, hi, hz0, hz1, hz2⟩ := info_parts info5
  have HBy := hidden hb
  obtain ⟨va, vc, rfl, hvc, hv0, hvb⟩ := hb
  have HLies : Hid (∀ W, Same w W → Lies W va l.length (l.map U8)) := hidden (fun W k hp => by
    obtain ⟨b, off, rfl, hc⟩ := hvb hp
    refine ⟨_, rfl, fun j u hu => ?_⟩
    rw [List.getElem?_map, Option.map_eq_some_iff] at hu
    obtain ⟨x, hx, rfl⟩ := hu
    rw [Addr.add_mid]
    exact k.cell (p := ⟨b, off + j, none⟩) (fun h => h) (hc j x hx))
  have H1c : Hid (∀ m : List UInt8, ∀ u ∈ m.map U8, u.oneCell' = true) := hidden (fun m u hu => by obtain ⟨b, _, rfl⟩ := List.mem_map.1 hu; exact U8_one b)
  obtain ⟨r, hr⟩ : ∃ r, w.heap.size = r := ⟨_, rfl⟩
  have HR0 : Hid (∀ X Y : Obj, ((w.alloc X).alloc Y).heap[r]? = some X) := hidden (fun X Y => by rw [← hr]; exact blk_alloc (blk_new w X) Y)
  have HOw : Hid (∀ X : Obj, ((w.alloc X).alloc (.cells #[] 5)).ownsRow (r + 1) 5 1 (.slice (some ⟨r + 1, 0, none⟩) 0 0) 0 (([] : List UInt8).map U8)) := hidden (fun X => by
    have := World.ownsRow_made (base := r + 1) (e := 5) (size := 1) (w.alloc X) #[] 0 (by simp [hr]) (by decide) rfl
    simpa [hr] using this)
  have HK2 : Hid (∀ X Y : Obj, Same w ((w.alloc X).alloc Y)) := hidden (fun _ _ => (same_alloc _ _).alloc _)
  have Hm1 : Hid (0 + l.length ≤ maxLen) := hidden (by unfold maxLen; omega)
  have Hm2 : Hid ((0 + l.length) * 1 ≤ 140737488355328) := hidden (by omega)
  have hbase2 : Hid (∀ X Y : Obj, r + 1 ≤ ((w.alloc X).alloc Y).heap.size) := hidden (fun X Y => by simp [hr])
  clear hvb hv0
  have tok1 : True := trivial
  go_enter Tryd.func12, Tryd.ntmps12
  go_wp2_with (first
    | (have _t := tok1; refine wpList_append_any rfl _ _ 22 rfl (r + 1) 5 i0 (.int .u8 0) 1 1 Tryd.underlying22 hi hz0 hz1 hz2 rfl (by decide) _ 0 0 _ rfl (HOw.out _) va l.length vc (l.map U8) rfl (by rw [List.length_map, Nat.mul_one]) (HLies.out _ (HK2.out _ _)) (H1c.out l) Hm1.out Hm2.out (hbase2.out _ _) ?_; intro a1 c1 w1 ho1 hg1; clear tok1; rw [Nat.zero_add, List.map_nil, List.nil_append] at ho1; have HW1 : Hid (RowS w r w1 (.slice a1 l.length c1) l) := hidden ⟨ho1, (hg1.block r (by simp [hr]; omega) (by simp [Value.ownBlock])).trans (HR0.out (.cells (row32 [] 0) 24) _), (HK2.out _ _).grown hg1 (fun k hk hl => by simp [Value.ownBlock] at hk; omega)⟩; clear ho1 hg1; have tok2 : True := trivial)
    | (have _t := tok2; refine wpList_append_any rfl _ _ 22 rfl (r + 1) 5 i0 (.int .u8 0) 1 1 Tryd.underlying22 hi hz0 hz1 hz2 rfl (by decide) _ _ _ _ rfl (HW1.out.own.alloc _) (some ⟨w1.heap.size, 0, none⟩) 1 1 [.int .u8 128] rfl rfl (lies_of (World.news_of_block (heap_alloc_new w1 _))) (fun u hu => by simp at hu; subst hu; rfl) (by unfold maxLen; omega) (by omega) (by have := HW1.out.same.size; simp; omega) ?_; intro a2 c2 w2 ho2 hg2; clear tok2; have HW2 := hidden (RowS.push (x := 128) (by omega) (by decide) HW1.out ho2 hg2); clear ho2 hg2))
  obtain ⟨z, hz⟩ : ∃ z, z = 63 - (l.length + 8) % 64 := ⟨_, rfl⟩
  have hzb : z ≤ 63 := by omega
  have hz56 : ∀ k, k ≤ z → ((l.length + 1 + k) % 64 = 56 ↔ k = z) := fun k hk => by omega
  have Hz56 := hidden hz56
  have Hz := hidden hz
  clear hz hz56
  go_loopw [3] (fun x wr => ∃ (k : Nat) (a : Option Addr) (c : Nat), k ≤ z ∧ x = .slice a (l.length + 1 + k) c ∧ RowS w r wr (.slice a (l.length + 1 + k) c) (l ++ 128 :: List.replicate k 0)) (fun x _ => l.length + 65 - lenOfV x)
  case atStart => exact ⟨0, a2, c2, by omega, rfl, HW2.out⟩
  case round =>
    obtain ⟨k, a3, c3, hk, rfl, hrow⟩ := hrel
    have hLn : (l ++ 128 :: List.replicate k (0 : UInt8)).length = l.length + 1 + k := by simp; omega
    by_cases hkz : k = z
    · have h56 : (l.length + 1 + k) % 64 = 56 := (Hz56.out k hk).2 hkz
      obtain ⟨n, hn⟩ : ∃ n, n = l.length + 1 + k := ⟨_, rfl⟩
      have hrow' : RowS w r wr (.slice a3 n c3) (l ++ 128 :: List.replicate z 0) := by rw [hn, ← hkz]; exact hrow
      obtain ⟨PL, hPL⟩ : ∃ PL, PL = l ++ 128 :: List.replicate z (0 : UInt8) := ⟨_, rfl⟩
      rw [← hPL] at hrow'
      have HRw := hidden hrow'
      have hPLn : PL.length = n := by rw [hPL, hn, hkz]; simp; omega
      obtain ⟨N, hN⟩ : ∃ N, N = 8 * l.length := ⟨_, rfl⟩
      have HPP : Hid (PL ++ (be8 N).take 8 = l ++ padL l.length) := hidden (by rw [pad_form l.length (by omega), hPL, hN, ← Hz.out]; simp)
      rw [← hn] at h56 ⊢
      have d1 : (n : Int) % 64 = 56 := by omega
      have d2 : (n : Int).tmod 64 = 56 := by rw [Int.tmod_eq_emod_of_nonneg (by omega)]; omega
      have e3 : (l.length : Int) * 8 = (N : Int) := by omega
      have e4 : IntKind.u64.wrap (l.length : Int) = (l.length : Int) := by rw [IntKind.wrap_u64]; omega
      have e5 : IntKind.u64.wrap (N : Int) = (N : Int) := by rw [IntKind.wrap_u64]; omega
      have hnb : n ≤ 140737488355100 := by omega
      have HPLn := hidden hPLn
      have Hn56 := hidden h56
      have Hnl := hidden (show n = l.length + 1 + z by omega)
      clear hrow hrow' hPL hN hn h56 hLn hkz hk hPLn
      obtain ⟨w5, hw5⟩ : ∃ w5, wr = w5 := ⟨_, rfl⟩
      rw [hw5] at HRw ⊢
      clear hw5
      go_wp2
      go_loopw [3, 5] (fun x y wr => ∃ (j : Nat) (a : Option Addr) (c : Nat), j ≤ 8 ∧ x = .slice a (n + j) c ∧ y = .int .i64 (7 - (j : Int)) ∧ RowS w r wr (.slice a (n + j) c) (PL ++ (be8 N).take j)) (fun _ y _ => (intOf y + 1).toNat)
      case atStart => exact ⟨0, a3, c3, by omega, rfl, rfl, by simpa using HRw.out⟩
      case round =>
        obtain ⟨j, a4, c4, hj, rfl, rfl, hrow⟩ := hrel
        have HRw := hidden hrow
        by_cases hj8 : j < 8
        · obtain ⟨d, hd⟩ : ∃ d, d = 56 - 8 * j := ⟨_, rfl⟩
          obtain ⟨xb, hxb⟩ : ∃ xb, xb = N / 2 ^ d % 256 := ⟨_, rfl⟩
          have q1 : (N : Int) / 2 ^ d % 256 = (xb : Int) := by rw [hxb]; simp
          have hx8 : xb < 256 := by rw [hxb]; exact Nat.mod_lt _ (by decide)
          obtain ⟨LL, hLL⟩ : ∃ LL, LL = PL ++ (be8 N).take j := ⟨_, rfl⟩
          have hLLn : LL.length = n + j := by rw [hLL, List.length_append, HPLn.out, List.length_take, be8_len]; omega
          have HNx : Hid (LL ++ [UInt8.ofNat xb] = PL ++ (be8 N).take (j + 1)) := hidden (by rw [be8_take N j hj8, hLL, hxb, hd, List.append_assoc])
          rw [← hLL] at HRw
          obtain ⟨m, hm⟩ : ∃ m, m = n + j := ⟨_, rfl⟩
          rw [← hm] at HRw hLLn ⊢
          obtain ⟨i7, hi7⟩ : ∃ i7 : Nat, (i7 : Int) = 7 - (j : Int) := ⟨7 - j, by omega⟩
          rw [← hi7]
          have q2 : 8 * (i7 : Int) = (d : Int) := by omega
          have q3 : IntKind.i64.wrap (d : Int) = (d : Int) := by rw [IntKind.wrap_i64]; omega
          have q4 : (0 : Int) ≤ (i7 : Int) := by omega
          have q5 : (d : Int) < 64 := by omega
          have HLLn := hidden hLLn
          have Hm := hidden hm
          have Hi7 := hidden hi7
          have hmb : m ≤ 140737488355200 := by omega
          clear hrow hd hxb hLL hm hi7 hLLn
          go_wp2_with (first
            | (refine wpList_append_any rfl _ _ 22 rfl (r + 1) 5 i0 (.int .u8 0) 1 1 Tryd.underlying22 hi hz0 hz1 hz2 rfl (by decide) _ _ _ _ rfl (show _ from (HLLn.out ▸ HRw.out.own).alloc _) (some ⟨wr.heap.size, 0, none⟩) 1 1 [.int .u8 (xb : Int)] rfl rfl (lies_of (World.news_of_block (heap_alloc_new wr _))) (fun u hu => by simp at hu; subst hu; rfl) (by unfold maxLen; omega) (by omega) (by have := HRw.out.same.size; simp; omega) ?_; intro a6 c6 w6 ho6 hg6; have HW6 : Hid (RowS w r w6 (.slice a6 (m + 1) c6) (LL ++ [UInt8.ofNat xb])) := hidden (by have hh := HLLn.out; subst hh; exact RowS.push (x := xb) (by omega) hx8 HRw.out ho6 hg6); clear ho6 hg6))
          go_roundw
          case rel =>
            have h1 := Hm.out
            have h2 := Hi7.out
            refine ⟨j + 1, a6, c6, by omega, by rw [show n + (j + 1) = m + 1 by omega], ?_, ?_⟩
            · exact congrArg (Value.int .i64) (by omega)
            · rw [show n + (j + 1) = m + 1 by omega, ← HNx.out]
              exact HW6.out
          case measure => simp [intOf] <;> omega
        · have h8 : j = 8 := by omega
          rw [h8, HPP.out] at HRw
          have q4 : ¬ (0 : Int) ≤ 7 - (j : Int) := by omega
          obtain ⟨P, hP⟩ : ∃ P, P = l ++ padL l.length := ⟨_, rfl⟩
          have HE : Hid (shaL l = (runN P (P.length / 64)).out) := hidden (by rw [hP, List.length_append]; rfl)
          have hPn : P.length = n + 8 := by
            have := Hnl.out
            rw [hP, List.length_append, padL_len]
            have := Hz.out
            omega
          rw [← hP] at HRw
          rw [h8]
          obtain ⟨Q, hQ⟩ : ∃ Q, 64 * Q = n + 8 := ⟨(n + 8) / 64, by have := Hn56.out; omega⟩
          rw [show P.length / 64 = Q by omega] at HE
          obtain ⟨st, hst⟩ : ∃ st, st = runN P Q := ⟨_, rfl⟩
          rw [← hst] at HE
          have Hst := hidden hst
          have Hok : Hid st.Ok := hidden (hst ▸ runN_ok _ _)
          obtain ⟨L', hL'⟩ : ∃ L', L' = shaL l := ⟨_, rfl⟩
          rw [← hL'] at HE
          have HL' := hidden hL'
          have Hll : Hid (L'.length = 32) := hidden (by rw [HE.out]; exact out_len _)
          obtain ⟨np, hnp⟩ : ∃ np, np = n + 8 := ⟨_, rfl⟩
          rw [← hnp] at HRw hPn hQ ⊢
          have hown : wr.ownsRow (r + 1) 5 1 (.slice a4 np c4) np (P.map U8) := by have := HRw.out.own; rwa [hPn] at this
          obtain ⟨bp, rfl, hbp, -, hcp, hcells⟩ := own_at hown (by omega)
          have HCs := hidden hcells
          have HPn := hidden hPn
          have HQ := hidden hQ
          have Hbp := hidden hbp
          have hnpb : np ≤ 140737488355300 := by omega
          have hbl : bp < wr.heap.size := World.block_lt_of_cell? wr ⟨bp, 0, none⟩ (hcells 0 _ (List.getElem?_eq_getElem (by omega)))
          have Hbl := hidden hbl
          have HRs := hidden HRw.out.res
          have HSm := hidden HRw.out.same
          clear hrow hP hst hL' hown hcells hPn hQ hbp hbl h8 hnp HRw hj8 hj
          obtain ⟨w7, hw7⟩ : ∃ w7, wr = w7 := ⟨_, rfl⟩
          rw [hw7] at HCs Hbl HRs HSm ⊢
          clear hw7
          go_wp2
          change Code.wp _ _ _ _ (w7.alloc (.cells H0.cells 52))
          have HG := hidden (blk_new w7 (.cells H0.cells 52))
          have HRs8 := hidden (blk_alloc HRs.out (.cells H0.cells 52))
          have HS8 := hidden (HSm.out.alloc (.cells H0.cells 52))
          have HC8 : Hid (∀ j x, P[j]? = some x → (w7.alloc (.cells H0.cells 52)).cell? ⟨bp, j, none⟩ = some (U8 x)) := hidden (fun j x hx => Kept.cell (same_alloc w7 (.cells H0.cells 52)) (p := ⟨bp, j, none⟩) (fun h => h) (HCs.out j x hx))
          obtain ⟨gh, hgh⟩ : ∃ gh, w7.heap.size = gh := ⟨_, rfl⟩
          have hbg := Hbl.out
          have hrg := blk_lt HRs.out
          rw [hgh] at HG hbg hrg ⊢
          generalize w7.alloc (.cells H0.cells 52) = W8 at *
          clear hgh
          go_loopw [7] (fun x wr => ∃ k : Nat, k ≤ Q ∧ x = .int .i64 ((64 * k : Nat) : Int) ∧ wr.heap[gh]? = some (.cells (runN P k).cells 52 (0, 0)) ∧ Kept (fun k => k = gh) W8 wr) (fun x _ => 64 * Q - (intOf x).toNat)
          case atStart => exact ⟨0, by omega, rfl, HG.out, Kept.refl _ _⟩
          case round =>
            obtain ⟨k, hk, rfl, hbh, hK⟩ := hrel
            have Hbh := hidden hbh
            have HK := hidden hK
            have hQ := HQ.out
            obtain ⟨kk, hkk⟩ : ∃ kk, kk = 64 * k := ⟨_, rfl⟩
            by_cases hkq : k < Q
            · obtain ⟨hbl1, hbl2⟩ := drop_take_at P k (by rw [HPn.out]; omega)
              have HNx : Hid (runN P (k + 1) = blkS (runN P k) ((P.drop (64 * k)).take 64)) := hidden rfl
              obtain ⟨B, hB⟩ : ∃ B, B = (P.drop (64 * k)).take 64 := ⟨_, rfl⟩
              rw [← hB] at HNx hbl1 hbl2
              have Hok1 := hidden (runN_ok P k)
              have HBc : Hid (∀ W, Same wr W → ∀ i, i < 64 → W.cell? ⟨bp, kk + i, none⟩ = some (.int .u8 ((B.getD i 0).toNat : Nat))) := hidden (fun W kp i hi => by
                have hx : P[64 * k + i]? = some (P.getD (64 * k + i) 0) := by
                  have : 64 * k + i < P.length := by rw [HPn.out]; omega
                  rw [List.getD_eq_getElem?_getD, List.getElem?_eq_getElem this]
                  rfl
                have h1 := Kept.cell hK (p := ⟨bp, 64 * k + i, none⟩) (show ¬ bp = gh by omega) (HC8.out _ _ hx)
                rw [hkk, hbl2 i hi]
                exact Kept.cell kp (p := ⟨bp, 64 * k + i, none⟩) (fun h => h) h1)
              have HBl := hidden (fun cap W h => blockD_any (runN P k) Hok1.out B hbl1 bp kk cap W h)
              have Hld := hidden (ld_row (P := Tryd.prog) (w := wr.drew) (ty := 52) hbh Tryd.underlying52 rfl 8 i8w rfl)
              rw [← hkk]
              obtain ⟨q, hq⟩ : ∃ q, q = runN P k := ⟨_, rfl⟩
              rw [← hq] at HNx HBl Hld Hbh
              have d0 : (kk : Int) < (np : Int) := by omega
              have d1 : (kk : Int) + 64 ≤ (np : Int) := by omega
              have d2 : kk + 64 ≤ np := by omega
              have d3 : (kk : Int) + 64 ≤ (c4 : Int) := by omega
              have d5 : ¬ c4 = kk := by omega
              have d6 : ¬ c4 - kk = 0 := by omega
              have d7 : ((kk : Int) + 64).toNat - kk = 64 := by omega
              have d8 : IntKind.i64.wrap ((kk : Int) + 64) = (kk : Int) + 64 := by rw [IntKind.wrap_i64]; omega
              have Hkk := hidden hkk
              clear hbh hK hbl1 hbl2 hB hq hkk
              go_wp2
              refine wp_region_still_tail 6 (by kernel_rfl) (by kernel_rfl) ?_
              change wpStill Tryd.prog _ wr.drew (fun a' => wpList Tryd.prog _ _ _ a' wr.drew) _ _
              simp only [List.take_succ_cons, List.take_zero, List.drop_succ_cons, List.drop_zero]
              repeat (first | (refine still_load rfl 52 _ rfl _ rfl _ Hld.out ?_) | (refine still_val rfl _ (y_slice rfl rfl rfl rfl (run_sub bp np c4 kk d2 hcp _)) ?_) | still_step)
              refine wpStill_nil ?_
              go_wp2_with (first
                | (go_at_call 26; refine (HBl.out _ _ (HBc.out _ (Kept.refl _ _).drew)).mono ?_; rintro e w9 ⟨rfl, k9⟩; have Hb9 := hidden (blk_kept k9 (fun h => h) (show wr.drew.heap[gh]? = _ from Hbh.out)); have K9 := hidden (HK.out.drew.trans (k9.mono (fun _ _ h => h.elim))); clear k9)
                | (refine wl_store 52 _ _ rfl rfl rfl _ rfl _ rfl (st_row (cs := (blkS q B).cells) Hb9.out 8 i8w rfl rfl (by simp [S8.cells, Value.oneCell'])) ?_))
              go_roundw
              case rel =>
                have h1 := Hkk.out
                refine ⟨k + 1, by omega, congrArg (Value.int .i64) (by omega), ?_, K9.out.setRow (Or.inr rfl) _⟩
                rw [HNx.out]
                exact setRow_heap _ gh _ _ _ _ Hb9.out
              case measure => have h1 := Hkk.out; simp [intOf]; omega
            · have hkQ : k = Q := by omega
              rw [hkQ, ← Hst.out] at Hbh
              have d0 : ¬ (kk : Int) < (np : Int) := by omega
              rw [← hkk]
              have HR9 := hidden (blk_kept hK (show ¬ r = gh by omega) HRs8.out)
              have HS9 := hidden (HS8.out.trans' hK (fun i hi (e : i = gh) => by omega))
              clear hbh hK hkQ hkq hk hkk
              obtain ⟨w9, hw9⟩ : ∃ w9, wr = w9 := ⟨_, rfl⟩
              rw [hw9] at Hbh HR9 HS9 ⊢
              clear hw9
              go_wp2
              change Code.wp _ _ _ _ (w9.alloc (.cells (row32 L' 0) 24))
              have HG6 := hidden (blk_new w9 (.cells (row32 L' 0) 24))
              have HR6 := hidden (blk_alloc HR9.out (.cells (row32 L' 0) 24))
              have HH6 := hidden (blk_alloc Hbh.out (.cells (row32 L' 0) 24))
              have HK6 := hidden (HS9.out.alloc (.cells (row32 L' 0) 24))
              have hr6 := blk_lt HR9.out
              have hh6 := blk_lt Hbh.out
              obtain ⟨gs, hgs⟩ : ∃ gs, w9.heap.size = gs := ⟨_, rfl⟩
              rw [hgs] at HG6 hr6 hh6 ⊢
              generalize w9.alloc (.cells (row32 L' 0) 24) = W6 at *
              clear HR9 HS9 Hbh hgs
              go_loopw [9] (fun x wr => ∃ i : Nat, i ≤ 32 ∧ x = .int .i64 i ∧ wr.heap[gs]? = some (.cells (row32 L' i) 24 (0, 0)) ∧ Kept (fun k => k = gs) W6 wr) (fun x _ => 32 - (intOf x).toNat)
              case atStart => exact ⟨0, by omega, rfl, HG6.out, Kept.refl _ _⟩
              case round =>
                obtain ⟨i, hi32, rfl, hg, hK⟩ := hrel
                have Hg := hidden hg
                have HKp := hidden hK
                by_cases hlt : i < 32
                · obtain ⟨i4, hi4⟩ : ∃ i4, i4 = i / 4 := ⟨_, rfl⟩
                  obtain ⟨j4, hj4⟩ : ∃ j4, j4 = i % 4 := ⟨_, rfl⟩
                  obtain ⟨d, hd⟩ : ∃ d, d = 24 - 8 * j4 := ⟨_, rfl⟩
                  have cx : wr.cell? ⟨gh, i4, none⟩ = some (.int .u32 (st.list.getD i4 0 : Nat)) := (blk_cell (blk_kept hK (show ¬ gh = gs by omega) HH6.out)).trans (cells_at st i4 (by omega))
                  have hxl := list_lt st Hok.out i4
                  have HX : Hid (L'.getD i 0 = UInt8.ofNat (st.list.getD i4 0 / 2 ^ d % 256)) := hidden (by
                    rw [HE.out, hd, show i = 4 * i4 + j4 by omega]
                    exact out_at st i4 j4 (by omega) (by omega))
                  generalize st.list.getD i4 0 = x at *
                  obtain ⟨old, hold⟩ := row32_at L' Hll.out i i (by omega) hlt
                  have HPut := hidden (row32_put L' Hll.out i hlt)
                  have cw : wr.cell? ⟨gs, i, none⟩ = some (U8 old) := (blk_cell hg).trans hold
                  have fw : wr.frozen? ⟨gs, i, none⟩ = false := blk_free hg
                  have k1 : (i : Int) < 32 := by omega
                  have e1 : (i : Int) / 4 = (i4 : Int) := by omega
                  have e1' : (i : Int).tdiv 4 = (i4 : Int) := by rw [Int.tdiv_eq_ediv_of_nonneg (by omega)]; omega
                  have e2 : (i : Int) % 4 = (j4 : Int) := by omega
                  have e2' : (i : Int).tmod 4 = (j4 : Int) := by rw [Int.tmod_eq_emod_of_nonneg (by omega)]; omega
                  have e3 : (24 : Int) - 8 * (j4 : Int) = (d : Int) := by omega
                  have e4 : IntKind.i64.wrap (i : Int) = (i : Int) := by rw [IntKind.wrap_i64]; omega
                  have e5 : IntKind.i64.wrap (i4 : Int) = (i4 : Int) := by rw [IntKind.wrap_i64]; omega
                  have e6 : IntKind.i64.wrap (j4 : Int) = (j4 : Int) := by rw [IntKind.wrap_i64]; omega
                  have e7 : IntKind.i64.wrap (d : Int) = (d : Int) := by rw [IntKind.wrap_i64]; omega
                  have k2 : (i4 : Int) < 8 := by omega
                  have k3 : (d : Int) < 32 := by omega
                  have k4 : (j4 : Int) < 4 := by omega
                  clear hg hK hi4 hj4 hd hold
                  go_wp2
                  go_roundw
                  case rel =>
                    refine ⟨i + 1, by omega, by go_num, ?_, HKp.out.setCell (p := ⟨gs, i, none⟩) rfl _⟩
                    rw [byte_int, ← HX.out, ← HPut.out]
                    exact blk_set Hg.out _
                  case measure => simp [intOf]; omega
                · have k1 : ¬ (i : Int) < 32 := by omega
                  have h32 : i = 32 := by omega
                  rw [h32, row32_full L' Hll.out] at Hg
                  have hz1' : (L'.map U8).toArray.size = 32 := by simp [Hll.out]
                  have h1c : (L'.map U8).toArray.all (·.oneCell') = true := by rw [← row32_full L' Hll.out]; exact row32_one _ _
                  have Hrr := hidden (blk_kept hK (show ¬ r = gs by omega) HR6.out)
                  have HSe := hidden (HK6.out.trans' hK (fun i hi (e : i = gs) => by omega))
                  have Hld2 := hidden (ld_row (P := Tryd.prog) (ty := 24) Hg.out Tryd.underlying24 rfl 32 i24 hz1')
                  have Hst2 := hidden (st_row (P := Tryd.prog) (ty := 24) Hrr.out 32 i24 rfl hz1' h1c)
                  have Hv := hidden (lv_row (setRow_heap wr r _ (L'.map U8).toArray _ _ Hrr.out) (P := Tryd.prog) (ty := 24) Tryd.underlying24 rfl 32 i24 hz1')
                  clear h32 hz1' h1c hg hK
                  go_wp2_with (first
                    | (refine wl_load 24 _ rfl rfl _ rfl _ Hld2.out ?_)
                    | (refine wl_store 24 _ _ rfl rfl rfl _ rfl _ rfl Hst2.out ?_))
                  exact bodyPost_ret (res_row Tryd.results12 rfl Hv.out) rfl ⟨by rw [HL'.out], HSe.out.setRow (Or.inl (by omega)) _⟩
    · have hne : (l.length + 1 + k) % 64 ≠ 56 := fun e => hkz ((Hz56.out k hk).1 e)
      have hrow' : RowS w r wr (.slice a3 (l ++ 128 :: List.replicate k (0 : UInt8)).length c3) (l ++ 128 :: List.replicate k 0) := by rw [hLn]; exact hrow
      have HRw := hidden hrow'
      obtain ⟨n, hn⟩ : ∃ n, n = l.length + 1 + k := ⟨_, rfl⟩
      obtain ⟨LL, hLL⟩ : ∃ LL, LL = l ++ 128 :: List.replicate k (0 : UInt8) := ⟨_, rfl⟩
      have HnL : Hid (LL ++ [UInt8.ofNat 0] = l ++ 128 :: List.replicate (k + 1) 0) := hidden (by rw [hLL, List.replicate_succ', List.append_assoc]; rfl)
      rw [← hLL] at HRw hLn
      rw [← hn] at hLn hne ⊢
      rw [hLn] at HRw
      obtain ⟨n6, hn6⟩ : ∃ n6, n6 = n % 64 := ⟨_, rfl⟩
      have d1 : (n : Int) % 64 = (n6 : Int) := by omega
      have d2 : (n : Int).tmod 64 = (n6 : Int) := by rw [Int.tmod_eq_emod_of_nonneg (by omega)]; omega
      have d3 : ¬ (n6 : Int) = 56 := by omega
      have HLn := hidden hLn
      have Hn := hidden hn
      have hnb : n ≤ 140737488355100 := by omega
      clear hrow hrow' hLL hn hn6 hne hLn
      go_wp2_with (first
        | (refine wpList_append_any rfl _ _ 22 rfl (r + 1) 5 i0 (.int .u8 0) 1 1 Tryd.underlying22 hi hz0 hz1 hz2 rfl (by decide) _ _ _ _ rfl (show _ from (HLn.out ▸ HRw.out.own).alloc _) (some ⟨wr.heap.size, 0, none⟩) 1 1 [.int .u8 0] rfl rfl (lies_of (World.news_of_block (heap_alloc_new wr _))) (fun u hu => by simp at hu; subst hu; rfl) (by unfold maxLen; omega) (by omega) (by have := HRw.out.same.size; simp; omega) ?_; intro a4 c4 w4 ho4 hg4; have HW4 : Hid (RowS w r w4 (.slice a4 (n + 1) c4) (LL ++ [UInt8.ofNat 0])) := hidden (by have hh := HLn.out; subst hh; exact RowS.push (x := 0) (by omega) (by decide) HRw.out ho4 hg4); clear ho4 hg4))
      go_roundw
      case rel =>
        have := Hn.out
        refine ⟨k + 1, a4, c4, by omega, by rw [show l.length + 1 + (k + 1) = n + 1 by omega], ?_⟩
        rw [show l.length + 1 + (k + 1) = n + 1 by omega, ← HnL.out]
        exact HW4.out
      case measure => have := Hn.out; simp [lenOfV]; omega
end Go.Proofs.YtbankcgkbiflhaaDoor
