/- journal: the records of a stream, pure; the document's Scan and the program's recordsOf, walked. -/
import Derived.Test.YtljbmpnpbjnbkaaDoorJR5
import Derived.Test.YtljbmpnpbjnbkaaDoorJ7
namespace Go.Proofs.YtljbmpnpbjnbkaaDoor
open Go.RowKit
set_option linter.unusedVariables false
set_option linter.unusedSimpArgs false
/-- The records of a stream that are whole. -/
def recJ : Nat → List UInt8 → List (List UInt8)
  | 0, _ => []
  | f + 1, s => if s.length < 4 then [] else if 65536 < num (s.take 4) ∨ s.length - 4 < num (s.take 4) then [] else (s.drop 4).take (num (s.take 4)) :: recJ f (s.drop (4 + num (s.take 4)))
def recs (s : List UInt8) : List (List UInt8) := recJ (s.length + 1) s
theorem recJ_more : ∀ (f g : Nat) (s : List UInt8), s.length < f → s.length < g → recJ f s = recJ g s
  | 0, _, _, h, _ => absurd h (Nat.not_lt_zero _)
  | _, 0, _, _, h => absurd h (Nat.not_lt_zero _)
  | f + 1, g + 1, s, h1, h2 => by
    unfold recJ
    split
    · rfl
    · split
      · rfl
      · rw [recJ_more f g _ (by rw [List.length_drop]; omega) (by rw [List.length_drop]; omega)]
theorem recs_end {s : List UInt8} (h : s.length < 4 ∨ 65536 < num (s.take 4) ∨ s.length - 4 < num (s.take 4)) : recs s = [] := by
  unfold recs recJ
  rcases h with h | h
  · rw [if_pos h]
  · by_cases g : s.length < 4
    · rw [if_pos g]
    · rw [if_neg g, if_pos h]
theorem recs_cons {s : List UInt8} (h1 : ¬ s.length < 4) (h2 : ¬ 65536 < num (s.take 4)) (h3 : ¬ s.length - 4 < num (s.take 4)) : recs s = (s.drop 4).take (num (s.take 4)) :: recs (s.drop (4 + num (s.take 4))) := by
  unfold recs
  conv => lhs; unfold recJ
  rw [if_neg h1, if_neg (fun h => h.elim h2 h3), recJ_more _ ((s.drop (4 + num (s.take 4))).length + 1) _ (by rw [List.length_drop]; omega) (by omega)]
/-- Texts as values. -/
def TJ (l : List (List UInt8)) : List Value := l.map fun r => .string ⟨r.toArray⟩
theorem TJ_one (l : List (List UInt8)) : ∀ u ∈ TJ l, u.oneCell' = true := fun u hu => by
  obtain ⟨r, _, rfl⟩ := List.mem_map.1 hu
  rfl
theorem infoSt : (Tryd.prog.info? 9).map (fun i => (i.zero, i.size, i.bytes)) = some (some (.string ⟨#[]⟩), 1, 16) := by kernel_rfl
def slcLen : Value → Nat
  | .slice _ n _ => n
  | _ => 0
theorem rtake_st (s : List UInt8) (n : Nat) (h : n ≤ s.length) : rtake (⟨s.toArray⟩, 0) n = (⟨(s.take n).toArray⟩, (⟨(s.drop n).toArray⟩, 0)) := by
  have e1 : (⟨s.toArray⟩ : ByteArray).extract 0 n = ⟨(s.take n).toArray⟩ := by
    apply ByteArray.ext
    apply Array.ext'
    rw [ext_list, ba_list, List.drop_zero, List.toList_toArray]
  have e2 : (⟨s.toArray⟩ : ByteArray).extract n (⟨s.toArray⟩ : ByteArray).size = ⟨(s.drop n).toArray⟩ := by
    apply ByteArray.ext
    apply Array.ext'
    rw [ext_list, ba_list, ba_size, List.take_length, List.toList_toArray]
  unfold rtake
  rw [if_pos rfl, if_neg (by rw [ba_size]; omega)]
  simp only
  rw [e1, e2]
theorem rraw_st (s : List UInt8) (n : Nat) (h : n ≤ s.length) : rraw (⟨s.toArray⟩, 0) (n : Int) = (⟨(s.take n).toArray⟩, (⟨(s.drop n).toArray⟩, 0)) := by
  unfold rraw
  rw [if_neg (by omega), Int.toNat_natCast, rtake_st s n h]
theorem num4_lt (s : List UInt8) : num (s.take 4) < 4294967296 := by
  have h := num_lt (s.take 4)
  have hl : (s.take 4).length ≤ 4 := by simp; omega
  exact Nat.lt_of_lt_of_le h (Nat.pow_le_pow_right (n := 256) (by decide) hl)
set_option maxHeartbeats 1000000 in
set_option maxRecDepth 100000 in
/-- The program's reading of records. -/
theorem recordsOf_any (s : List UInt8) (hs : s.length ≤ 16777216) (w : World) : Calls Tryd.prog 43 #[.string ⟨s.toArray⟩] w fun e w' => (∃ v, e = .returned v ∧ w'.ownsRow w.heap.size 9 1 v (recs s).length (TJ (recs s))) ∧ Same w w' := by
  obtain ⟨i0, hi0, hz0, hz1, hz2⟩ := info_parts infoSt
  have HNR := hidden (newReader ⟨s.toArray⟩)
  have HU := hidden (fun (st : RSt) (W : World) (h : Rd w.heap.size st W) => rU32 h)
  have HLf := hidden (fun (st : RSt) (W : World) (h : Rd w.heap.size st W) => rLeft h)
  have HRw := hidden (fun (st : RSt) (W : World) (n : Int) (h : Rd w.heap.size st W) hn => rRaw h n hn)
  have HSz := hidden (show (⟨s.toArray⟩ : ByteArray).size ≤ 281474976710656 by rw [ba_size]; omega)
  have HRd : Hid (Rd w.heap.size (⟨s.toArray⟩, 0) (w.alloc (.cells #[.string ⟨s.toArray⟩, .int .i64 0] 99))) := hidden ⟨blk_new _ _, HSz.out⟩
  have HS0 := hidden (same_alloc w (.cells #[.string ⟨s.toArray⟩, .int .i64 0] 99))
  obtain ⟨y, hy⟩ : ∃ y : ByteArray, y = ⟨s.toArray⟩ := ⟨_, rfl⟩
  rw [← hy] at HNR HRd HS0 ⊢
  have HY := hidden hy
  clear hy HSz
  go_enter Tryd.func43, Tryd.ntmps43
  go_wp2_with (go_at_call 55; refine (HNR.out _).mono ?_; rintro e w1 ⟨rfl, rfl⟩)
  go_loopw [3] (fun v wr => ∃ (k c : Nat) (ao : Option Addr) (done : List (List UInt8)) (r : List UInt8), v = .slice ao k c ∧ k = done.length ∧ k + r.length ≤ s.length ∧ recs s = done ++ recs r ∧ Rd w.heap.size (⟨r.toArray⟩, 0) wr ∧ wr.ownsRow (w.heap.size + 1) 9 1 (.slice ao k c) k (TJ done) ∧ Same w wr) (fun v _ => s.length + 1 - slcLen v)
  case atStart => exact ⟨0, 0, none, [], s, rfl, rfl, by simp, rfl, by rw [← HY.out]; exact HRd.out, World.ownsRow_nil _ _ _ _, HS0.out⟩
  case round =>
    obtain ⟨k, c, ao, done, r, rfl, hk, hkr, hW, hR, hO, hS⟩ := hrel
    have HK := hidden hk
    have HW := hidden hW
    have HR := hidden hR
    have HO := hidden hO
    have HS := hidden hS
    have hlf := HLf.out _ wr hR
    rw [show (((⟨r.toArray⟩ : ByteArray), (0 : Int)).1.size : Int) = (r.length : Int) by rw [ba_size]] at hlf
    have HL1 := hidden hlf
    clear hk hW hR hO hS hlf
    by_cases g0 : r.length < 4
    · have q0 : ¬ (4 : Int) ≤ (r.length : Int) := by omega
      have HE := hidden (show recs s = done by rw [HW.out, recs_end (.inl g0), List.append_nil])
      go_wp2_with (go_at_call 56; refine (HL1.out).mono ?_; rintro e w2 ⟨rfl, rfl⟩)
      go_returns
      refine ⟨⟨_, rfl, ?_⟩, HS.out⟩
      rw [HE.out, ← HK.out]
      exact own_mono HO.out (by omega)
    · have q0 : (4 : Int) ≤ (r.length : Int) := by omega
      have hu := HU.out _ wr HR.out
      rw [rtake_num r (by omega), rtake_st r 4 (by omega)] at hu
      simp only at hu
      have HU1 := hidden hu
      have hN := num4_lt r
      have hdl : (r.drop 4).length = r.length - 4 := by rw [List.length_drop]
      have HL2 := hidden (fun W (h : Rd w.heap.size (⟨(r.drop 4).toArray⟩, 0) W) => HLf.out _ W h)
      rw [show (((⟨(r.drop 4).toArray⟩ : ByteArray), (0 : Int)).1.size : Int) = ((r.length - 4 : Nat) : Int) by rw [ba_size, hdl]] at HL2
      have HEnd := hidden (fun h => show recs s = done by rw [HW.out, recs_end (s := r) h, List.append_nil])
      have HCon := hidden (fun h2 h3 => recs_cons (s := r) g0 h2 h3)
      have HRw1 := hidden (fun (h : num (r.take 4) ≤ r.length - 4) W (hr : Rd w.heap.size (⟨(r.drop 4).toArray⟩, 0) W) => by
        have := HRw.out _ W (num (r.take 4) : Int) hr (by omega)
        rw [rraw_st (r.drop 4) (num (r.take 4)) (by omega)] at this
        exact this)
      have HTk := hidden (fun (h : num (r.take 4) ≤ r.length - 4) => show ((r.drop 4).take (num (r.take 4))).length = num (r.take 4) by rw [List.length_take]; omega)
      have HDr := hidden (show (r.drop 4).drop (num (r.take 4)) = r.drop (4 + num (r.take 4)) by rw [List.drop_drop])
      have HDl := hidden (show (r.drop (4 + num (r.take 4))).length = r.length - (4 + num (r.take 4)) by rw [List.length_drop])
      clear hu hdl
      obtain ⟨N, hNN⟩ : ∃ N, N = num (r.take 4) := ⟨_, rfl⟩
      rw [← hNN] at HU1 hN HEnd HCon HRw1 HTk HDr HDl
      clear hNN
      have a1 : IntKind.i64.wrap (N : Int) = (N : Int) := by rw [IntKind.wrap_i64]; omega
      have hbase : w.heap.size + 1 ≤ wr.heap.size := by have := blk_lt HR.out.blk; omega
      by_cases g1 : 65536 < N
      · have q1 : (65536 : Int) < (N : Int) := by omega
        have HE := hidden (HEnd.out (.inr (.inl g1)))
        go_wp2_with (first
          | (go_at_call 56; refine (HL1.out).mono ?_; rintro e w2 ⟨rfl, rfl⟩)
          | (go_at_call 57; refine (HU1.out).mono ?_; rintro e w3 ⟨rfl, _, k3⟩; have K3 := hidden k3; clear k3))
        go_returns
        refine ⟨⟨_, rfl, ?_⟩, HS.out.trans' K3.out (fun i hi e => by have e' : i = w.heap.size := e; omega)⟩
        rw [HE.out, ← HK.out]
        exact own_mono (own_kept HO.out K3.out (fun q hq e => by have e' : q = w.heap.size := e; have := (HO.out.lt q hq).1; omega)) (by omega)
      · have q1 : ¬ (65536 : Int) < (N : Int) := by omega
        have d1 : decide ((65536 : Int) < (N : Int)) = false := decide_eq_false q1
        by_cases g2 : r.length - 4 < N
        · have q2 : ((r.length - 4 : Nat) : Int) < (N : Int) := by omega
          have d2 : decide (((r.length - 4 : Nat) : Int) < (N : Int)) = true := decide_eq_true q2
          have HE := hidden (HEnd.out (.inr (.inr g2)))
          generalize hm : r.length - 4 = m4 at *
          go_wp2_with (first
            | (go_at_call 56; have _q := K3; refine (HL2.out _ K3.out.1).mono ?_; rintro e w4 ⟨rfl, rfl⟩)
            | (go_at_call 56; refine (HL1.out).mono ?_; rintro e w2 ⟨rfl, rfl⟩)
            | (go_at_call 57; refine (HU1.out).mono ?_; rintro e w3 ⟨rfl, r3, k3⟩; have K3 := hidden (And.intro r3 k3); clear r3 k3))
          go_returns
          refine ⟨⟨_, rfl, ?_⟩, HS.out.trans' K3.out.2 (fun i hi e => by have e' : i = w.heap.size := e; omega)⟩
          rw [HE.out, ← HK.out]
          exact own_mono (own_kept HO.out K3.out.2 (fun q hq e => by have e' : q = w.heap.size := e; have := (HO.out.lt q hq).1; omega)) (by omega)
        · have q2 : ¬ ((r.length - 4 : Nat) : Int) < (N : Int) := by omega
          have d2 : decide (((r.length - 4 : Nat) : Int) < (N : Int)) = false := decide_eq_false q2
          have hC := HCon.out g1 g2
          have HRw2 := hidden (HRw1.out (by omega))
          have hdl := HDl.out
          rw [HDr.out] at HRw2
          have hkk : k ≤ 16777216 := by omega
          have hk1 : k + 1 + (r.drop (4 + N)).length ≤ s.length := by rw [hdl]; omega
          obtain ⟨X, hX⟩ : ∃ X, X = (r.drop 4).take N := ⟨_, rfl⟩
          rw [← hX] at hC HRw2
          obtain ⟨r2, hr2⟩ : ∃ r2, r2 = r.drop (4 + N) := ⟨_, rfl⟩
          rw [← hr2] at hC HRw2 hk1
          have HC := hidden hC
          have hks : k < s.length := by omega
          clear hC hX hr2 hdl g1 g2
          generalize hm : r.length - 4 = m4 at *
          clear hm
          go_wp2_with (first
            | (go_at_call 56; have _q := K3; refine (HL2.out _ K3.out.1).mono ?_; rintro e w4 ⟨rfl, rfl⟩)
            | (go_at_call 56; refine (HL1.out).mono ?_; rintro e w2 ⟨rfl, rfl⟩)
            | (go_at_call 57; refine (HU1.out).mono ?_; rintro e w3 ⟨rfl, r3, k3⟩; have K3 := hidden (And.intro r3 k3); clear r3 k3)
            | (go_at_call 58; refine (HRw2.out _ K3.out.1).mono ?_; rintro e w5 ⟨rfl, r5, k5⟩; have R5 := hidden r5; have K5 := hidden (K3.out.2.trans k5); have O5 := hidden (own_kept HO.out K5.out (fun q hq e => by have e' : q = w.heap.size := e; have := (HO.out.lt q hq).1; omega)); have S5 := hidden (HS.out.trans' K5.out (fun i hi e => by have e' : i = w.heap.size := e; omega)); have hb5 := K5.out.size; clear r5 k5)
            | (at_builtin; go_must (refine wpList_append_any (by rfl) _ _ 47 (by rfl) (w.heap.size + 1) 9 i0 _ 1 16 Tryd.underlying47 hi0 hz0 hz1 hz2 rfl (by decide) _ _ _ _ (by rfl) (O5.out.alloc _) (some ⟨w5.heap.size, 0, none⟩) 1 1 (TJ [X]) (by rfl) (by rfl) (lies_of (World.news_of_block (heap_alloc_new w5 _))) (TJ_one _) (by unfold maxLen; omega) (by omega) (by simp; omega) ?_; intro a6 c6 w6 hown hgrow; have S6 := hidden (Kept.grown (S5.out.alloc _) hgrow (fun q hq hl => by have := (O5.out.lt q hq).1; omega)); have R6 := hidden ((R5.out.kept (same_alloc w5 (.cells (TJ [X]).toArray 9)) (fun h => h)).kept (S := fun q => (Value.slice ao k c).ownBlock = some q) ((Kept.refl _ _).grown hgrow (fun q e _ => e)) (fun e => by have := (O5.out.lt _ e).1; omega)); have O6 := hidden hown; clear hown hgrow)))
          go_roundw
          case rel => exact ⟨k + 1, c6, a6, done ++ [X], r2, rfl, by rw [HK.out]; simp, hk1, by rw [HW.out, HC.out]; simp, R6.out, by have h := O6.out; simpa [TJ] using h, S6.out⟩
          case measure => simp [slcLen]; omega
end Go.Proofs.YtljbmpnpbjnbkaaDoor
