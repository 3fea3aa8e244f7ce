/- journal's usedOf, walked. -/
import Derived.Test.YtljbmpnpbjnbkaaDoorJR3
import Derived.Test.YtljbmpnpbjnbkaaDoorJ1
namespace Go.Proofs.YtljbmpnpbjnbkaaDoor
open Go.RowKit
set_option linter.unusedVariables false
set_option linter.unusedSimpArgs false
theorem Bt.byt {w : World} {ad : Addr} {n cap : Nat} {l : List UInt8} (h : Bt w (.slice (some ad) n cap) l) : Byt w (.slice (some ad) n cap) l := by
  obtain ⟨ao, cap', he, _, hc⟩ := h
  simp only [Value.slice.injEq] at he
  obtain ⟨rfl, rfl, rfl⟩ := he
  refine .inr ⟨ad, cap, rfl, fun j hj => ?_⟩
  obtain ⟨b, off, e, h2⟩ := hc (by omega)
  cases e
  rw [add_none]
  exact h2 j hj
theorem Own.bt {w : World} {v : Value} {l : List UInt8} {B : Nat} (h : Own w v l B) : Bt w v l := by
  obtain ⟨g, _, rfl, hb⟩ := h
  exact bt_of_blk hb rfl
set_option maxRecDepth 100000 in
theorem Bt.subA {w : World} {b off n cap : Nat} {l : List UInt8} (h : Bt w (.slice (some ⟨b, off, none⟩) n cap) l) {i j : Nat} (hij : i ≤ j) (hj : j ≤ n) (hne : cap ≠ i) (x y : Int) (hx : x = (i : Int)) (hy : y = (j : Int)) :
    (∀ W, (Instr.sliceAt 39 (.slice (some ⟨b, off, none⟩) n cap) (some (.int .i64 x)) (some (.int .i64 y)) none).run Tryd.prog W = .ok (.slice (some ⟨b, off + i, none⟩) (j - i) (cap - i)) W) ∧ ∀ W, Same w W → Bt W (.slice (some ⟨b, off + i, none⟩) (j - i) (cap - i)) ((l.take j).drop i) := by
  have e2 := h.len.2
  have e1 := h.len.1
  subst hx hy
  have hp : (if cap = i then (some ⟨b, off, none⟩ : Option Addr) else (some ⟨b, off, none⟩ : Option Addr).map (·.add (i * 1))) = some ⟨b, off + i, none⟩ := by rw [if_neg hne]; simp [add_none]
  refine ⟨fun W => ?_, fun W k => by have := h.part hij hj W k; rw [hp] at this; exact this⟩
  rw [← hp, run_sliceAt_slice (h := Tryd.underlying39), run_slice_lh (ht := Tryd.underlying39) (h0 := by omega) (h1 := by omega) (h2 := by omega), size_byte]
  simp [sliced]
set_option maxHeartbeats 1000000 in
set_option maxRecDepth 100000 in
theorem equal_any (x y : Value) (a b : List UInt8) (w : World) (hx : Bt w x a) (hy : Bt w y b) : Calls Tryd.prog 64 #[x, y] w fun e w' => e = .returned (.bool (decide (a = b))) ∧ Same w w' := by
  have t1 := hx.text
  have t2 := hy.text
  have hd : ((⟨a.toArray⟩ : ByteArray).toList == (⟨b.toArray⟩ : ByteArray).toList) = decide (a = b) := by
    rw [Lib.toList_data, Lib.toList_data, ba_list, ba_list]
    by_cases h : a = b
    · rw [h]; simp
    · rw [decide_eq_false h]; simpa using h
  have HD := hidden hd
  have e1 : ∀ W, (binOp .eql 9 (.string ⟨a.toArray⟩) (.string ⟨b.toArray⟩)).run Tryd.prog W = .ok (.bool (decide (a = b))) W := fun W => by
    rw [← hd]
    rfl
  clear hd
  generalize (⟨a.toArray⟩ : ByteArray) = s1 at *
  generalize (⟨b.toArray⟩ : ByteArray) = s2 at *
  generalize decide (a = b) = D at *
  go_enter Tryd.func64, Tryd.ntmps64
  go_wp2
  go_returns
  exact ⟨by rw [HD.out]; rfl, Kept.refl _ _⟩
theorem ext_list (s : ByteArray) (i j : Nat) : (s.extract i j).data.toList = (s.data.toList.take j).drop i := by rw [ByteArray.data_extract]; simp [List.drop_take]
theorem rtake_num (s : List UInt8) (h : 4 ≤ s.length) : rnum (⟨s.toArray⟩, 0) 4 = num (s.take 4) := by
  unfold rnum rtake
  rw [if_pos rfl, if_neg (by rw [ba_size]; omega)]
  simp only
  rw [ext_list, ba_list, List.drop_zero]
set_option maxHeartbeats 1000000 in
set_option maxRecDepth 100000 in
theorem usedOf_any (n gen place : Nat) (b0 off : Nat) (b : List UInt8) (w : World) (T : Tab w) (hb : Bt w (.slice (some ⟨b0, off, none⟩) n n) b) (h1 : 512 ≤ n) (h2 : n ≤ 4096) (hg : gen < 18446744073709551616) (hp : place < 4294967296) :
    Calls Tryd.prog 54 #[.slice (some ⟨b0, off, none⟩) n n, .int .u64 gen, .int .i64 place] w fun e w' => (∃ u, e = .returned (.tuple #[u, .bool (rtJ n gen place b).isSome]) ∧ ∀ r, rtJ n gen place b = some r → Bt w' u r ∧ u = .slice (some ⟨b0, off + 24, none⟩) (usedJ b) (n - 24)) ∧ Same w w' := by
  have hl : b.length = n := hb.len.1.symm
  obtain ⟨r1, t1⟩ := hb.subA (i := 16) (j := 24) (by decide) (by omega) (by omega) 16 24 rfl rfl
  have hcv := (t1 w (Kept.refl _ _)).text
  have hl8 : ((b.take 24).drop 16).length = 8 := by simp; omega
  have hnm : rnum (⟨((b.take 24).drop 16).toArray⟩, 0) 4 = usedJ b := by
    rw [rtake_num _ (by omega)]
    unfold usedJ
    congr 1
    rw [List.take_drop, List.take_take]
    simp
  have hU := usedJ_lt b
  have HNR := hidden (newReader ⟨((b.take 24).drop 16).toArray⟩)
  have HU4 := hidden (fun g (W : World) (h : Rd g (⟨((b.take 24).drop 16).toArray⟩, 0) W) => rU32 h)
  rw [hnm] at HU4
  have HSz := hidden (show (⟨((b.take 24).drop 16).toArray⟩ : ByteArray).size ≤ 281474976710656 by rw [ba_size, hl8]; decide)
  have a1 : IntKind.u32.wrap ((n : Int) - 24) = (n : Int) - 24 := by rw [IntKind.wrap_u32']; omega
  have HT0 := hidden T
  generalize hst : (⟨((b.take 24).drop 16).toArray⟩ : ByteArray) = st at *
  clear hst t1 hnm hl8 T
  have HRm : Hid (∀ W, Calls Tryd.prog 38 #[.int .i64 (n : Int)] W fun e w' => e = .returned (.int .i64 ((n : Int) - 24)) ∧ W = w') := hidden (fun W => by
    have a0 : IntKind.i64.wrap ((n : Int) - 24) = (n : Int) - 24 := by rw [IntKind.wrap_i64]; omega
    go_enter Tryd.func38, Tryd.ntmps38
    go_wp2
    go_returns
    exact ⟨rfl, rfl⟩)
  by_cases g1 : usedJ b ≤ n - 24
  · have hrl := roomJ_len hl g1 (by omega)
    obtain ⟨r2, t2⟩ := hb.subA (i := 24) (j := 24 + usedJ b) (by omega) (by omega) (by omega) 24 (24 + (usedJ b : Int)) rfl (by omega)
    have HT := hidden (fun W k => t2 W k)
    have hrm : (b.take (24 + usedJ b)).drop 24 = roomJ b := rfl
    rw [hrm, Nat.add_sub_cancel_left] at HT
    rw [Nat.add_sub_cancel_left] at r2
    have HBy := hidden (fun W (k : Same w W) => sectorOf_any n gen place (.slice (some ⟨b0, off + 24, none⟩) (usedJ b) (n - 24)) (roomJ b) W (HT0.out.same k) ((HT.out W k).byt) h1 h2 hg hp (by rw [hrl]; omega))
    have HEq := hidden (show (rtJ n gen place b).isSome = decide (b = jsec n gen place (roomJ b)) by
      unfold rtJ
      by_cases h : b = jsec n gen place (roomJ b)
      · rw [if_pos ⟨g1, h⟩, decide_eq_true h]; rfl
      · rw [if_neg (fun x => h x.2), decide_eq_false h]; rfl)
    have HSo := hidden (show ∀ r, rtJ n gen place b = some r → r = roomJ b by
      intro r h
      unfold rtJ at h
      split at h
      · exact (Option.some.inj h).symm
      · cases h)
    have HSm := hidden (fun x y W hx hy => equal_any x y b (jsec n gen place (roomJ b)) W hx hy)
    have HB := hidden hb
    rw [HEq.out]
    generalize decide (b = jsec n gen place (roomJ b)) = D at *
    have q1 : ¬ ((n : Int) - 24 < (usedJ b : Int)) := by omega
    have a2 : IntKind.i64.wrap (usedJ b : Int) = (usedJ b : Int) := by rw [IntKind.wrap_i64]; omega
    clear hrm g1 t2 hrl hb hl
    generalize usedJ b = U at *
    go_enter Tryd.func54, Tryd.ntmps54
    go_wp2_with (first
      | (go_at_call 55; refine (HNR.out _).mono ?_; rintro e w1 ⟨rfl, rfl⟩; have R1 : Hid (Rd w.heap.size (st, 0) (w.alloc (.cells #[.string st, .int .i64 0] 99))) := hidden ⟨blk_new _ _, HSz.out⟩)
      | (go_at_call 57; refine (HU4.out _ _ R1.out).mono ?_; rintro e w2 ⟨rfl, _, k2⟩; have K2 := hidden ((same_alloc w (.cells #[.string st, .int .i64 0] 99)).trans' k2 (fun i hi e => by have e' : i = w.heap.size := e; omega)); clear k2)
      | (go_at_call 38; refine (HRm.out _).mono ?_; rintro e w3 ⟨rfl, rfl⟩)
      | (go_at_call 39; refine (HBy.out _ K2.out).mono ?_; rintro e w4 ⟨u2, rfl, b2, k2⟩; have B2 := hidden b2; have K4 := hidden (K2.out.trans k2); clear b2 k2)
      | (go_at_call 64; refine (HSm.out _ _ _ (HB.out.same K4.out) B2.out.bt).mono ?_; rintro e w5 ⟨rfl, k3⟩; have K5 := hidden (K4.out.trans k3); clear k3))
    go_returns
    exact ⟨⟨_, rfl, fun r hr => ⟨by rw [HSo.out r hr]; exact HT.out _ K5.out, rfl⟩⟩, K5.out⟩
  · have q1 : (n : Int) - 24 < (usedJ b : Int) := by omega
    have HEq := hidden (show rtJ n gen place b = none by unfold rtJ; rw [if_neg (fun x => g1 x.1)])
    rw [HEq.out]
    clear hb hl g1
    generalize usedJ b = U at *
    go_enter Tryd.func54, Tryd.ntmps54
    go_wp2_with (first
      | (go_at_call 55; refine (HNR.out _).mono ?_; rintro e w1 ⟨rfl, rfl⟩; have R1 : Hid (Rd w.heap.size (st, 0) (w.alloc (.cells #[.string st, .int .i64 0] 99))) := hidden ⟨blk_new _ _, HSz.out⟩)
      | (go_at_call 57; refine (HU4.out _ _ R1.out).mono ?_; rintro e w2 ⟨rfl, _, k2⟩; have K2 := hidden ((same_alloc w (.cells #[.string st, .int .i64 0] 99)).trans' k2 (fun i hi e => by have e' : i = w.heap.size := e; omega)); clear k2)
      | (go_at_call 38; refine (HRm.out _).mono ?_; rintro e w3 ⟨rfl, rfl⟩))
    go_returns
    exact ⟨⟨_, rfl, fun r hr => by cases hr⟩, K2.out⟩
end Go.Proofs.YtljbmpnpbjnbkaaDoor
