/- journal: the document's Scan, walked. -/
import Derived.Test.YtljbmpnpbjnbkaaDoorJR5
import Derived.Test.YtljbmpnpbjnbkaaDoorJ7
/- journal: the records of a stream, pure; the document's Scan and the program's recordsOf, walked. -/
namespace Go.Proofs.YtljbmpnpbjnbkaaDoor
open Go.RowKit
set_option linter.unusedVariables false
set_option linter.unusedSimpArgs false
/-- The records of a stream that are whole. -/
def recJ : Nat → List UInt8 → List (List UInt8)
  | 0, _ => []
  | f + 1, s => if s.length < 4 then [] else if 65536 < num (s.take 4) ∨ s.length - 4 < num (s.take 4) then [] else (s.drop 4).take (num (s.take 4)) :: recJ f (s.drop (4 + num (s.take 4)))
def recs (s : List UInt8) : List (List UInt8) := recJ (s.length + 1) s
theorem recJ_more : ∀ (f g : Nat) (s : List UInt8), s.length < f → s.length < g → recJ f s = recJ g s
  | 0, _, _, h, _ => absurd h (Nat.not_lt_zero _)
  | _, 0, _, _, h => absurd h (Nat.not_lt_zero _)
  | f + 1, g + 1, s, h1, h2 => by
    unfold recJ
    split
    · rfl
    · split
      · rfl
      · rw [recJ_more f g _ (by rw [List.length_drop]; omega) (by rw [List.length_drop]; omega)]
theorem recs_end {s : List UInt8} (h : s.length < 4 ∨ 65536 < num (s.take 4) ∨ s.length - 4 < num (s.take 4)) : recs s = [] := by
  unfold recs recJ
  rcases h with h | h
  · rw [if_pos h]
  · by_cases g : s.length < 4
    · rw [if_pos g]
    · rw [if_neg g, if_pos h]
theorem recs_cons {s : List UInt8} (h1 : ¬ s.length < 4) (h2 : ¬ 65536 < num (s.take 4)) (h3 : ¬ s.length - 4 < num (s.take 4)) : recs s = (s.drop 4).take (num (s.take 4)) :: recs (s.drop (4 + num (s.take 4))) := by
  unfold recs
  conv => lhs; unfold recJ
  rw [if_neg h1, if_neg (fun h => h.elim h2 h3), recJ_more _ ((s.drop (4 + num (s.take 4))).length + 1) _ (by rw [List.length_drop]; omega) (by omega)]
/-- Texts as values. -/
def TJ (l : List (List UInt8)) : List Value := l.map fun r => .string ⟨r.toArray⟩
theorem TJ_one (l : List (List UInt8)) : ∀ u ∈ TJ l, u.oneCell' = true := fun u hu => by
  obtain ⟨r, _, rfl⟩ := List.mem_map.1 hu
  rfl
theorem infoSt : (Tryd.prog.info? 9).map (fun i => (i.zero, i.size, i.bytes)) = some (some (.string ⟨#[]⟩), 1, 16) := by kernel_rfl
def slcLen : Value → Nat
  | .slice _ n _ => n
  | _ => 0
theorem rtake_st (s : List UInt8) (n : Nat) (h : n ≤ s.length) : rtake (⟨s.toArray⟩, 0) n = (⟨(s.take n).toArray⟩, (⟨(s.drop n).toArray⟩, 0)) := by
  have e1 : (⟨s.toArray⟩ : ByteArray).extract 0 n = ⟨(s.take n).toArray⟩ := by
    apply ByteArray.ext
    apply Array.ext'
    rw [ext_list, ba_list, List.drop_zero, List.toList_toArray]
  have e2 : (⟨s.toArray⟩ : ByteArray).extract n (⟨s.toArray⟩ : ByteArray).size = ⟨(s.drop n).toArray⟩ := by
    apply ByteArray.ext
    apply Array.ext'
    rw [ext_list, ba_list, ba_size, List.take_length, List.toList_toArray]
  unfold rtake
  rw [if_pos rfl, if_neg (by rw [ba_size]; omega)]
  simp only
  rw [e1, e2]
theorem rraw_st (s : List UInt8) (n : Nat) (h : n ≤ s.length) : rraw (⟨s.toArray⟩, 0) (n : Int) = (⟨(s.take n).toArray⟩, (⟨(s.drop n).toArray⟩, 0)) := by
  unfold rraw
  rw [if_neg (by omega), Int.toNat_natCast, rtake_st s n h]
theorem num4_lt (s : List UInt8) : num (s.take 4) < 4294967296 := by
  have h := num_lt (s.take 4)
  have hl : (s.take 4).length ≤ 4 := by simp; omega
  exact Nat.lt_of_lt_of_le h (Nat.pow_le_pow_right (n := 256) (by decide) hl)
set_option maxHeartbeats 1000000 in
set_option maxRecDepth 100000 in
/-- The program's reading of records. -/
theorem recordsOf_any (s : List UInt8) (hs : s.length ≤ 16777216) (w : World) : Calls Tryd.prog 43 #[.string ⟨s.toArray⟩] w fun e w' => (∃ v, e = .returned v ∧ w'.ownsRow w.heap.size 9 1 v (recs s).length (TJ (recs s))) ∧ Same w w' := by
  obtain ⟨i0, hi0, hz0, hz1, hz2⟩ := info_parts infoSt
  have HNR := hidden (newReader ⟨s.toArray⟩)
  have HU := hidden (fun (st : RSt) (W : World) (h : Rd w.heap.size st W) => rU32 h)
  have HLf := hidden (fun (st : RSt) (W : World) (h : Rd w.heap.size st W) => rLeft h)
  have HRw := hidden (fun (st : RSt) (W : World) (n : Int) (h : Rd w.heap.size st W) hn => rRaw h n hn)
  have HSz := hidden (show (⟨s.toArray⟩ : ByteArray).size ≤ 281474976710656 by rw [ba_size]; omega)
  have HRd : Hid (Rd w.heap.size (⟨s.toArray⟩, 0) (w.alloc (.cells #[.string ⟨s.toArray⟩, .int .i64 0] 99))) := hidden ⟨blk_new _ _, HSz.out⟩
  have HS0 := hidden (same_alloc w (.cells #[.string ⟨s.toArray⟩, .int .i64 0] 99))
  obtain ⟨y, hy⟩ : ∃ y : ByteArray, y = ⟨s.toArray⟩ := ⟨_, rfl⟩
  rw [← hy] at HNR HRd HS0 ⊢
  have HY := hidden hy
  clear hy HSz
  go_enter Tryd.func43, Tryd.ntmps43
  go_wp2_with (go_at_call 55; refine (HNR.out _).mono ?_; rintro e w1 ⟨rfl, rfl⟩)
  go_loopw [3] (fun v wr => ∃ (k c : Nat) (ao : Option Addr) (done : List (List UInt8)) (r : List UInt8), v = .slice ao k c ∧ k = done.length ∧ k + r.length ≤ s.length ∧ recs s = done ++ recs r ∧ Rd w.heap.size (⟨r.toArray⟩, 0) wr ∧ wr.ownsRow (w.heap.size + 1) 9 1 (.slice ao k c) k (TJ done) ∧ Same w wr) (fun v _ => s.length + 1 - slcLen v)
  case atStart => exact ⟨0, 0, none, [], s, rfl, rfl, by simp, rfl, by rw [← HY.out]; exact HRd.out, World.ownsRow_nil _ _ _ _, HS0.out⟩
  case round =>
    obtain ⟨k, c, ao, done, r, rfl, hk, hkr, hW, hR, hO, hS⟩ := hrel
    have HK := hidden hk
    have HW := hidden hW
    have HR := hidden hR
    have HO := hidden hO
    have HS := hidden hS
    have hlf := HLf.out _ wr hR
    rw [show (((⟨r.toArray⟩ : ByteArray), (0 : Int)).1.size : Int) = (r.length : Int) by rw [ba_size]] at hlf
    have HL1 := hidden hlf
    clear hk hW hR hO hS hlf
    by_cases g0 : r.length < 4
    · have q0 : ¬ (4 : Int) ≤ (r.length : Int) := by omega
      have HE := hidden (show recs s = done by rw [HW.out, recs_end (.inl g0), List.append_nil])
      go_wp2_with (go_at_call 56; refine (HL1.out).mono ?_; rintro e w2 ⟨rfl, rfl⟩)
      go_returns
      refine ⟨⟨_, rfl, ?_⟩, HS.out⟩
      rw [HE.out, ← HK.out]
      exact own_mono HO.out (by omega)
    · have q0 : (4 : Int) ≤ (r.length : Int) := by omega
      have hu := HU.out _ wr HR.out
      rw [rtake_num r (by omega), rtake_st r 4 (by omega)] at hu
      simp only at hu
      have HU1 := hidden hu
      have hN := num4_lt r
      have hdl : (r.drop 4).length = r.length - 4 := by rw [List.length_drop]
      have HL2 := hidden (fun W (h : Rd w.heap.size (⟨(r.drop 4).toArray⟩, 0) W) => HLf.out _ W h)
      rw [show (((⟨(r.drop 4).toArray⟩ : ByteArray), (0 : Int)).1.size : Int) = ((r.length - 4 : Nat) : Int) by rw [ba_size, hdl]] at HL2
      have HEnd := hidden (fun h => show recs s = done by rw [HW.out, recs_end (s := r) h, List.append_nil])
      have HCon := hidden (fun h2 h3 => recs_cons (s := r) g0 h2 h3)
      have HRw1 := hidden (fun (h : num (r.take 4) ≤ r.length - 4) W (hr : Rd w.heap.size (⟨(r.drop 4).toArray⟩, 0) W) => by
        have := HRw.out _ W (num (r.take 4) : Int) hr (by omega)
        rw [rraw_st (r.drop 4) (num (r.take 4)) (by omega)] at this
        exact this)
      have HTk := hidden (fun (h : num (r.take 4) ≤ r.length - 4) => show ((r.drop 4).take (num (r.take 4))).length = num (r.take 4) by rw [List.length_take]; omega)
      have HDr := hidden (show (r.drop 4).drop (num (r.take 4)) = r.drop (4 + num (r.take 4)) by rw [List.drop_drop])
      have HDl := hidden (show (r.drop (4 + num (r.take 4))).length = r.length - (4 + num (r.take 4)) by rw [List.length_drop])
      clear hu hdl
      obtain ⟨N, hNN⟩ : ∃ N, N = num (r.take 4) := ⟨_, rfl⟩
      rw [← hNN] at HU1 hN HEnd HCon HRw1 HTk HDr HDl
      clear hNN
      have a1 : IntKind.i64.wrap (N : Int) = (N : Int) := by rw [IntKind.wrap_i64]; omega
      have hbase : w.heap.size + 1 ≤ wr.heap.size := by have := blk_lt HR.out.blk; omega
      by_cases g1 : 65536 < N
      · have q1 : (65536 : Int) < (N : Int) := by omega
        have HE := hidden (HEnd.out (.inr (.inl g1)))
        go_wp2_with (first
          | (go_at_call 56; refine (HL1.out).mono ?_; rintro e w2 ⟨rfl, rfl⟩)
          | (go_at_call 57; refine (HU1.out).mono ?_; rintro e w3 ⟨rfl, _, k3⟩; have K3 := hidden k3; clear k3))
        go_returns
        refine ⟨⟨_, rfl, ?_⟩, HS.out.trans' K3.out (fun i hi e => by have e' : i = w.heap.size := e; omega)⟩
        rw [HE.out, ← HK.out]
        exact own_mono (own_kept HO.out K3.out (fun q hq e => by have e' : q = w.heap.size := e; have := (HO.out.lt q hq).1; omega)) (by omega)
      · have q1 : ¬ (65536 : Int) < (N : Int) := by omega
        have d1 : decide ((65536 : Int) < (N : Int)) = false := decide_eq_false q1
        by_cases g2 : r.length - 4 < N
        · have q2 : ((r.length - 4 : Nat) : Int) < (N : Int) := by omega
          have d2 : decide (((r.length - 4 : Nat) : Int) < (N : Int)) = true := decide_eq_true q2
          have HE := hidden (HEnd.out (.inr (.inr g2)))
          generalize hm : r.length - 4 = m4 at *
          go_wp2_with (first
            | (go_at_call 56; have _q := K3; refine (HL2.out _ K3.out.1).mono ?_; rintro e w4 ⟨rfl, rfl⟩)
            | (go_at_call 56; refine (HL1.out).mono ?_; rintro e w2 ⟨rfl, rfl⟩)
            | (go_at_call 57; refine (HU1.out).mono ?_; rintro e w3 ⟨rfl, r3, k3⟩; have K3 := hidden (And.intro r3 k3); clear r3 k3))
          go_returns
          refine ⟨⟨_, rfl, ?_⟩, HS.out.trans' K3.out.2 (fun i hi e => by have e' : i = w.heap.size := e; omega)⟩
          rw [HE.out, ← HK.out]
          exact own_mono (own_kept HO.out K3.out.2 (fun q hq e => by have e' : q = w.heap.size := e; have := (HO.out.lt q hq).1; omega)) (by omega)
        · have q2 : ¬ ((r.length - 4 : Nat) : Int) < (N : Int) := by omega
          have d2 : decide (((r.length - 4 : Nat) : Int) < (N : Int)) = false := decide_eq_false q2
          have hC := HCon.out g1 g2
          have HRw2 := hidden (HRw1.out (by omega))
          have hdl := HDl.out
          rw [HDr.out] at HRw2
          have hkk : k ≤ 16777216 := by omega
          have hk1 : k + 1 + (r.drop (4 + N)).length ≤ s.length := by rw [hdl]; omega
          obtain ⟨X, hX⟩ : ∃ X, X = (r.drop 4).take N := ⟨_, rfl⟩
          rw [← hX] at hC HRw2
          obtain ⟨r2, hr2⟩ : ∃ r2, r2 = r.drop (4 + N) := ⟨_, rfl⟩
          rw [← hr2] at hC HRw2 hk1
          have HC := hidden hC
          have hks : k < s.length := by omega
          clear hC hX hr2 hdl g1 g2
          generalize hm : r.length - 4 = m4 at *
          clear hm
          go_wp2_with (first
            | (go_at_call 56; have _q := K3; refine (HL2.out _ K3.out.1).mono ?_; rintro e w4 ⟨rfl, rfl⟩)
            | (go_at_call 56; refine (HL1.out).mono ?_; rintro e w2 ⟨rfl, rfl⟩)
            | (go_at_call 57; refine (HU1.out).mono ?_; rintro e w3 ⟨rfl, r3, k3⟩; have K3 := hidden (And.intro r3 k3); clear r3 k3)
            | (go_at_call 58; refine (HRw2.out _ K3.out.1).mono ?_; rintro e w5 ⟨rfl, r5, k5⟩; have R5 := hidden r5; have K5 := hidden (K3.out.2.trans k5); have O5 := hidden (own_kept HO.out K5.out (fun q hq e => by have e' : q = w.heap.size := e; have := (HO.out.lt q hq).1; omega)); have S5 := hidden (HS.out.trans' K5.out (fun i hi e => by have e' : i = w.heap.size := e; omega)); have hb5 := K5.out.size; clear r5 k5)
            | (at_builtin; go_must (refine wpList_append_any (by rfl) _ _ 47 (by rfl) (w.heap.size + 1) 9 i0 _ 1 16 Tryd.underlying47 hi0 hz0 hz1 hz2 rfl (by decide) _ _ _ _ (by rfl) (O5.out.alloc _) (some ⟨w5.heap.size, 0, none⟩) 1 1 (TJ [X]) (by rfl) (by rfl) (lies_of (World.news_of_block (heap_alloc_new w5 _))) (TJ_one _) (by unfold maxLen; omega) (by omega) (by simp; omega) ?_; intro a6 c6 w6 hown hgrow; have S6 := hidden (Kept.grown (S5.out.alloc _) hgrow (fun q hq hl => by have := (O5.out.lt q hq).1; omega)); have R6 := hidden ((R5.out.kept (same_alloc w5 (.cells (TJ [X]).toArray 9)) (fun h => h)).kept (S := fun q => (Value.slice ao k c).ownBlock = some q) ((Kept.refl _ _).grown hgrow (fun q e _ => e)) (fun e => by have := (O5.out.lt _ e).1; omega)); have O6 := hidden hown; clear hown hgrow)))
          go_roundw
          case rel => exact ⟨k + 1, c6, a6, done ++ [X], r2, rfl, by rw [HK.out]; simp, hk1, by rw [HW.out, HC.out]; simp, R6.out, by have h := O6.out; simpa [TJ] using h, S6.out⟩
          case measure => simp [slcLen]; omega
end Go.Proofs.YtljbmpnpbjnbkaaDoor
namespace Go.Proofs.YtljbmpnpbjnbkaaDoor
open Go.RowKit
set_option linter.unusedVariables false
set_option linter.unusedSimpArgs false
theorem rtJ_len {n gen i : Nat} {b r : List UInt8} (h : rtJ n gen i b = some r) : r.length ≤ n - 24 := by
  unfold rtJ at h
  split at h
  · rename_i g
    obtain rfl := Option.some.inj h
    unfold roomJ
    rw [List.length_drop, List.length_take]
    omega
  · cases h
theorem flat_len (B : Nat) : ∀ L : List (List UInt8), (∀ r ∈ L, r.length ≤ B) → L.flatten.length ≤ B * L.length
  | [], _ => by simp
  | r :: L, h => by
    have h1 := flat_len B L (fun x hx => h x (by simp [hx]))
    have h2 := h r (by simp)
    rw [List.flatten_cons, List.length_append, List.length_cons, Nat.mul_succ]
    omega
theorem rooms_flat {n gen : Nat} (h2 : n ≤ 4096) (img : List UInt8) (c : Nat) (hc : c ≤ 4096) (i : Nat) : ((roomsJ n gen img c 0).take i).flatten.length ≤ 16777216 := by
  have h1 := flat_len 4072 ((roomsJ n gen img c 0).take i) (fun r hr => by
    obtain ⟨k, hk⟩ := List.mem_iff_getElem?.1 (List.mem_of_mem_take hr)
    have := rtJ_len (roomsJ_at n gen img c 0 k r hk)
    omega)
  have h3 := roomsJ_len n gen img c 0
  have h4 : ((roomsJ n gen img c 0).take i).length ≤ 4096 := by rw [List.length_take]; omega
  have h5 : 4072 * ((roomsJ n gen img c 0).take i).length ≤ 4072 * 4096 := Nat.mul_le_mul_left _ h4
  omega
/-- What Scan tells. -/
def scanJ (n gen : Nat) (img : List UInt8) (c : Nat) : List (List UInt8) := recs (roomsJ n gen img c 0).flatten
set_option maxHeartbeats 1000000 in
set_option maxRecDepth 100000 in
theorem scanD_any (n gen c L : Nat) (ad : Addr) (cap : Nat) (img : List UInt8) (w : World) (hb : Bt w (.slice (some ad) L cap) img) (hM : MayJ n L) (hL : L = n * c) (h1 : 512 ≤ n) (h2 : n ≤ 4096) (hc : c ≤ 4096) (hg : gen < 18446744073709551616) :
    Calls Tryd.prog 21 #[.int .i64 n, .int .u64 gen, .slice (some ad) L cap] w fun e w' => (∃ v, e = .returned (.tuple #[v, .int .i64 0]) ∧ w'.ownsRow w.heap.size 9 1 v (scanJ n gen img c).length (TJ (scanJ n gen img c))) ∧ Same w w' := by
  obtain ⟨i0, hi0, hz0, hz1, hz2⟩ := info_parts infoSt
  have hLb : L ≤ 16777216 := by rw [hL]; exact Nat.mul_le_mul h2 hc
  have HSec := hidden (sectorsD_any n gen c L ad cap img w hb hM hL h1 h2 hc hg)
  have HR := hidden (fun place p1 cp b W hb hp => rightD_any n gen place p1 cp b W hb h1 h2 hg hp)
  have HB := hidden hb
  have HL := hidden hL
  have hrl := roomsJ_len n gen img c 0
  have hfl := rooms_flat (gen := gen) h2 img c hc
  have hat := fun k r h => roomsJ_at n gen img c 0 k r h
  unfold scanJ
  obtain ⟨R0, hR0⟩ : ∃ R0, R0 = roomsJ n gen img c 0 := ⟨_, rfl⟩
  rw [← hR0] at hrl hfl hat HSec ⊢
  have HFl := hidden hfl
  have HAt := hidden hat
  obtain ⟨m, hm⟩ : ∃ m, m = R0.length := ⟨_, rfl⟩
  rw [← hm] at hrl HSec
  have HM := hidden hm
  clear hb hL hR0 hM hfl hat hm
  go_enter Tryd.func21, Tryd.ntmps21
  go_wp2_with (go_at_call 23; refine (HSec.out).mono ?_; rintro e w1 ⟨rfl, k1⟩; have K1 := hidden k1; clear k1)
  go_loopw [10, 11] (fun u v wr => ∃ i : Nat, v = .int .i64 i ∧ i ≤ m ∧ Gr w wr u (R0.take i).flatten) (fun _ v _ => m - (intOf v).toNat)
  case atStart => exact ⟨0, rfl, Nat.zero_le _, ⟨by simpa using OwnM.nil w1 5 1, fun k hk => by simp [Value.ownBlock] at hk, K1.out⟩⟩
  case round =>
    obtain ⟨i, rfl, hi, hG⟩ := hrel
    have HG := hidden hG
    clear hG
    by_cases g1 : i < m
    · obtain ⟨r, hr⟩ : ∃ r, R0[i]? = some r := ⟨_, List.getElem?_eq_getElem (by rw [← HM.out]; exact g1)⟩
      have hrt := HAt.out i r hr
      rw [Nat.zero_add] at hrt
      have hrl2 := rtJ_len hrt
      have HF2 := hidden (show (R0.take (i + 1)).flatten = (R0.take i).flatten ++ r by rw [List.take_add_one, hr]; simp)
      have hfb := HFl.out i
      obtain ⟨p, hp⟩ : ∃ p, p = i * n := ⟨_, rfl⟩
      obtain ⟨q, hq⟩ : ∃ q, q = (i + 1) * n := ⟨_, rfl⟩
      have hqp : q = p + n := by rw [hq, hp, Nat.succ_mul]
      have hqb : q ≤ L := by rw [hq, HL.out, Nat.mul_comm n c]; exact Nat.mul_le_mul_right _ (by omega)
      have e1 : ((i : Int) + 1) * (n : Int) = (q : Int) := by rw [hq]; push_cast; rfl
      have e2 : (i : Int) * (n : Int) = (p : Int) := by rw [hp]; push_cast; rfl
      have a0 : IntKind.i64.wrap ((i : Int) + 1) = (i : Int) + 1 := by rw [IntKind.wrap_i64]; omega
      have a1 : IntKind.i64.wrap (((i : Int) + 1) * (n : Int)) = (q : Int) := by rw [e1, IntKind.wrap_i64]; omega
      have a2 : IntKind.i64.wrap ((i : Int) * (n : Int)) = (p : Int) := by rw [e2, IntKind.wrap_i64]; omega
      have hsec : (img.take q).drop p = secP n i img := by unfold secP; rw [hq, hp]
      clear hq hp e1 e2
      have q1 : (i : Int) < (m : Int) := by omega
      obtain ⟨p1, r1, t1⟩ := HB.out.subS (i := p) (j := q) (by omega) (by omega) (p : Int) (q : Int) rfl rfl
      rw [hsec, show q - p = n by omega] at t1
      rw [show q - p = n by omega] at r1
      have HRi := hidden (fun W (k : Same w W) => HR.out i p1 (cap - p) (secP n i img) W (t1 W k) (by omega))
      rw [hrt] at HRi
      have hl2 : (R0.take i).flatten.length + r.length ≤ 1099511627776 := by omega
      clear hsec t1 hqp hqb hr hrt hrl2 hfb
      go_wp2_with (first
        | (go_at_call 44; refine (HRi.out _ HG.out.same).mono ?_; rintro e w2 ⟨⟨u, rfl, hu⟩, k2⟩; have B2 := hidden (hu r rfl); have G2 := hidden (HG.out.on k2); clear k2 hu)
        | (at_builtin; go_must (refine wl_app rfl _ _ rfl _ _ _ _ rfl G2.out rfl B2.out hl2 ?_; intro v3 w3 g3 _ _; have G3 := hidden g3; clear g3)))
      go_roundw
      case rel => exact ⟨i + 1, by go_num, by omega, by rw [HF2.out]; exact G3.out⟩
      case measure => simp [intOf]; omega
    · have q1 : ¬ (i : Int) < (m : Int) := by omega
      have ht : R0.take i = R0 := List.take_of_length_le (by rw [← HM.out]; omega)
      have hfb := HFl.out i
      have hbt := HG.out.bt
      have HS1 := hidden HG.out.same
      have hsz1 := HG.out.same.size
      rw [ht] at hfb hbt
      obtain ⟨S0, hS0⟩ : ∃ S0, S0 = R0.flatten := ⟨_, rfl⟩
      rw [← hS0] at hbt hfb
      have HS0 := hidden hS0
      obtain ⟨ao, gcap, hform, _⟩ := hbt.form
      subst hform
      obtain ⟨W1, hW1⟩ : ∃ W1, W1 = wr := ⟨_, rfl⟩
      rw [← hW1] at hbt HS1 hsz1 ⊢
      have HBt := hidden hbt
      clear hW1 ht hbt HG hS0
      go_wp2
      go_loopw [10, 14] (fun u v wr => ∃ (k cp : Nat) (vo : Option Addr) (done : List (List UInt8)) (r : List UInt8) (so : Option Addr) (sc : Nat), u = .slice so r.length sc ∧ v = .slice vo k cp ∧ k = done.length ∧ k + r.length ≤ S0.length ∧ recs S0 = done ++ recs r ∧ Bt W1 (.slice so r.length sc) r ∧ wr.ownsRow W1.heap.size 9 1 (.slice vo k cp) k (TJ done) ∧ Same W1 wr) (fun _ v _ => S0.length + 1 - slcLen v)
      case atStart => exact ⟨0, 0, none, [], S0, ao, gcap, rfl, rfl, rfl, by simp, rfl, HBt.out, World.ownsRow_nil _ _ _ _, Kept.refl _ _⟩
      case round =>
        obtain ⟨k, cp, vo, done, r, so, sc, rfl, rfl, hk, hkr, hW, hB, hO, hS⟩ := hrel
        have HK := hidden hk
        have HW := hidden hW
        have HB1 := hidden hB
        have HO := hidden hO
        have HS := hidden hS
        have HEnd := hidden (fun h => show recs S0 = done by rw [HW.out, recs_end (s := r) h, List.append_nil])
        have HCon := hidden (fun h1 h2 h3 => recs_cons (s := r) h1 h2 h3)
        have hN := num4_lt r
        obtain ⟨rl, hrl3⟩ : ∃ rl, rl = r.length := ⟨_, rfl⟩
        have HRl := hidden hrl3
        rw [← hrl3] at HB1 hkr HEnd HCon ⊢
        clear hk hW hB hO hS hrl3
        by_cases g0 : rl < 4
        · have q0 : ¬ (4 : Int) ≤ (rl : Int) := by omega
          have HE := hidden (HEnd.out (.inl g0))
          go_wp2
          go_returns
          refine ⟨⟨_, rfl, ?_⟩, HS1.out.trans HS.out⟩
          rw [← HS0.out, HE.out, ← HK.out]
          exact own_mono HO.out hsz1
        · have q0 : (4 : Int) ≤ (rl : Int) := by omega
          obtain ⟨p4, r4, t4⟩ := HB1.out.head (j := 4) (by omega) 4 rfl
          have HNu := hidden (fun W (kk : Same W1 W) => number_any (.slice p4 4 sc) (r.take 4) W (t4 W kk) (by rw [List.length_take]; omega))
          clear t4
          have HSb := hidden (fun (h : ¬ rl - 4 < num (r.take 4)) => HB1.out.sub (i := 4) (j := 4 + num (r.take 4)) (by omega) (by omega) 4 (4 + (num (r.take 4) : Int)) rfl (by omega))
          have HTl := hidden (fun (h : ¬ rl - 4 < num (r.take 4)) => HB1.out.tail (i := 4 + num (r.take 4)) (by omega) (4 + (num (r.take 4) : Int)) (by omega))
          have HTk := hidden (show (r.take (4 + num (r.take 4))).drop 4 = (r.drop 4).take (num (r.take 4)) by rw [List.take_drop, Nat.add_comm])
          have HDl := hidden (show (r.drop (4 + num (r.take 4))).length = rl - (4 + num (r.take 4)) by rw [List.length_drop, HRl.out])
          obtain ⟨N, hNN⟩ : ∃ N, N = num (r.take 4) := ⟨_, rfl⟩
          rw [← hNN] at HNu hN HEnd HCon HSb HTl HTk HDl
          clear hNN
          have a1 : IntKind.i64.wrap (N : Int) = (N : Int) := by rw [IntKind.wrap_i64]; omega
          have a2 : IntKind.i64.wrap ((rl : Int) - 4) = (rl : Int) - 4 := by rw [IntKind.wrap_i64]; omega
          have a3 : IntKind.i64.wrap (4 + (N : Int)) = 4 + (N : Int) := by rw [IntKind.wrap_i64]; omega
          by_cases g1 : 65536 < N
          · have q1 : (65536 : Int) < (N : Int) := by omega
            have d1 : decide ((65536 : Int) < (N : Int)) = true := decide_eq_true q1
            have HE := hidden (HEnd.out (.inr (.inl g1)))
            go_wp2_with (go_at_call 45; refine (HNu.out _ HS.out).mono ?_; rintro e w2 ⟨rfl, rfl⟩)
            go_returns
            refine ⟨⟨_, rfl, ?_⟩, HS1.out.trans HS.out⟩
            rw [← HS0.out, HE.out, ← HK.out]
            exact own_mono HO.out hsz1
          · have q1 : ¬ (65536 : Int) < (N : Int) := by omega
            have d1 : decide ((65536 : Int) < (N : Int)) = false := decide_eq_false q1
            by_cases g2 : rl - 4 < N
            · have q2 : (rl : Int) - 4 < (N : Int) := by omega
              have d2 : decide ((rl : Int) - 4 < (N : Int)) = true := decide_eq_true q2
              have HE := hidden (HEnd.out (.inr (.inr g2)))
              go_wp2_with (go_at_call 45; refine (HNu.out _ HS.out).mono ?_; rintro e w2 ⟨rfl, rfl⟩)
              go_returns
              refine ⟨⟨_, rfl, ?_⟩, HS1.out.trans HS.out⟩
              rw [← HS0.out, HE.out, ← HK.out]
              exact own_mono HO.out hsz1
            · have q2 : ¬ (rl : Int) - 4 < (N : Int) := by omega
              have d2 : decide ((rl : Int) - 4 < (N : Int)) = false := decide_eq_false q2
              have hC := HCon.out g0 g1 g2
              obtain ⟨p5, r5, t5⟩ := HSb.out g2
              obtain ⟨p6, r6, t6⟩ := HTl.out g2
              have htx := (t5 wr HS.out).text
              rw [HTk.out] at htx
              have hb6 := t6 W1 (Kept.refl _ _)
              have hdl := HDl.out
              obtain ⟨X, hX⟩ : ∃ X, X = (r.drop 4).take N := ⟨_, rfl⟩
              rw [← hX] at hC htx
              obtain ⟨r2, hr2⟩ : ∃ r2, r2 = r.drop (4 + N) := ⟨_, rfl⟩
              rw [← hr2] at hC hdl hb6
              have hks : k < S0.length := by omega
              have hk1 : k + 1 + r2.length ≤ S0.length := by omega
              rw [← hdl] at r6 hb6
              have HB6 := hidden hb6
              have HC := hidden hC
              have HHS := HS.out.size
              clear hC hX hr2 g1 g2 t5 t6 hb6 hdl
              generalize 4 + N - 4 = n4 at *
              go_wp2_with (first
                | (go_at_call 45; refine (HNu.out _ HS.out).mono ?_; rintro e w2 ⟨rfl, rfl⟩)
                | (at_builtin; go_must (refine wpList_append_any (by rfl) _ _ 47 (by rfl) W1.heap.size 9 i0 _ 1 16 Tryd.underlying47 hi0 hz0 hz1 hz2 rfl (by decide) _ _ _ _ (by rfl) (HO.out.alloc _) (some ⟨wr.heap.size, 0, none⟩) 1 1 (TJ [X]) (by rfl) (by rfl) (lies_of (World.news_of_block (heap_alloc_new wr _))) (TJ_one _) (by unfold maxLen; omega) (by omega) (by simp; omega) ?_; intro a7 c7 w7 hown hgrow; have S7 := hidden (same_grown (m := 0) (HS.out.alloc _) (HO.out.alloc _) hgrow); have O7 := hidden hown; clear hown hgrow)))
              go_roundw
              case rel => exact ⟨k + 1, c7, a7, done ++ [X], r2, _, _, rfl, rfl, by rw [HK.out]; simp, hk1, by rw [HW.out, HC.out]; simp, HB6.out, by have h := O7.out; simpa [TJ] using h, S7.out⟩
              case measure => simp [slcLen]; omega
end Go.Proofs.YtljbmpnpbjnbkaaDoor
