/- node: the entries' bytes of a leaf. -/
import Derived.Test.YtpjgghalnkfdkaaDoorN9
namespace Go.Proofs.YtpjgghalnkfdkaaDoor
open Go.RowKit
set_option linter.unusedVariables false
set_option linter.unusedSimpArgs false
def entB (k v : ByteArray) : List UInt8 := ((be 1 k.size ++ be 1 v.size) ++ k.data.toList) ++ v.data.toList
def entL (ks vs : List ByteArray) : List UInt8 := (ks.zip vs).flatMap fun p => entB p.1 p.2
theorem entB_len (k v : ByteArray) : (entB k v).length = 2 + k.size + v.size := by
  simp only [entB, List.length_append, be_length, size_list]
theorem take_zipN (ks vs : List ByteArray) (i : Nat) : (ks.take i).zip (vs.take i) = (ks.zip vs).take i := by simp [List.zip, List.take_zipWith]
theorem entL_step (ks vs : List ByteArray) (h : ks.length = vs.length) {i : Nat} (hi : i < ks.length) : entL (ks.take (i + 1)) (vs.take (i + 1)) = entL (ks.take i) (vs.take i) ++ entB ks[i] (vs[i]'(by omega)) := by
  unfold entL
  rw [take_zipN, take_zipN, List.take_add_one, List.flatMap_append, List.getElem?_eq_getElem (by rw [List.length_zip]; omega)]
  simp
theorem entL_le (ks vs : List ByteArray) (i : Nat) : (entL (ks.take i) (vs.take i)).length ≤ (entL ks vs).length := by
  unfold entL
  rw [take_zipN]
  conv => rhs; rw [← List.take_append_drop i (ks.zip vs)]
  rw [List.flatMap_append, List.length_append]
  omega
set_option maxHeartbeats 4000000 in
set_option maxRecDepth 100000 in
theorem entriesOf_leaf (n : Nd) (a1 a2 a3 : Option Addr) (k1 c1 k2 c2 k3 c3 : Nat) (sz : Nat) (w : World) (r1 : Row w (.slice a1 k1 c1) (TS n.keys)) (r2 : Row w (.slice a2 k2 c2) (TS n.vals)) (r3 : Row w (.slice a3 k3 c3) (IS n.kids)) (hl : n.leaf = true) (hb : n.Bd) (hkv : n.vals.length = n.keys.length) (hk : n.keys.all mayK = true) (hv : n.vals.all mayV = true) (hs : sz ≤ 4096) (hs0 : 16 ≤ sz) (hfit : (entL n.keys n.vals).length + 16 ≤ sz) :
    Calls Tryd.prog 32 #[.int .i64 (sz : Nat), .agg #[.bool n.leaf, .slice a1 k1 c1, .slice a2 k2 c2, .slice a3 k3 c3]] w fun e w' => e = .returned (.string ⟨(entL n.keys n.vals).toArray⟩) ∧ Same w w' := by
  rw [hl]
  have hbk : k1 ≤ 17592186044416 := by have := hb.k; rw [r1.tl] at this; exact this
  have HW := hidden (same_alloc w (.cells #[.bool true, .slice a1 k1 c1, .slice a2 k2 c2, .slice a3 k3 c3] 25))
  have HR1 := hidden r1
  have HR2 := hidden r2
  have E1 := hidden r1.tl
  have E2 := hidden r2.tl
  have HKV := hidden hkv
  have HKA := hidden hk
  have HVA := hidden hv
  have HFT := hidden hfit
  have q0 : (sz : Int) - 16 = ((sz - 16 : Nat) : Int) := by omega
  clear hl hb hkv hk hv hfit r1 r2 r3
  obtain ⟨m, hm⟩ : ∃ m, sz - 16 = m := ⟨_, rfl⟩
  have HM : Hid ((entL n.keys n.vals).length ≤ m ∧ m ≤ 4096) := by have := HFT.out; exact ⟨by omega, by omega⟩
  rw [hm] at q0
  have hm9 : m ≤ 4096 := by omega
  have qw : wrap64 (m : Int) = (m : Int) := IntWalk.wrap64_in _ ⟨by omega, by omega⟩
  clear hm hs hs0 HFT
  go_enter Tryd.func32, Tryd.ntmps32
  go_wp2_with (go_at_call 58; refine (newW (m : Int) _ (by omega) (by have := HM.out; omega)).mono ?_; rintro e w1 ⟨rfl, s1, k1', z1⟩; replace s1 : WS (w.heap.size + 1) (w.heap.size + 1) (m : Int) ([], false) w1 := (by simpa using s1); have b1 := blk_kept k1' (fun h => h) (blk_new w (.cells #[.bool true, .slice a1 k1 c1, .slice a2 k2 c2, .slice a3 k3 c3] 25)); have x0 : w1.cell? ⟨w.heap.size, 0, none⟩ = some (.bool true) := blk_cell b1; have x1 : w1.cell? ⟨w.heap.size, 1, none⟩ = some (.slice a1 k1 c1) := blk_cell b1; have S1 := hidden s1; have B1 := hidden b1; have K1 := hidden (HW.out.trans k1'); clear s1 k1' z1 b1)
  go_loopw [26] (fun i wr => ∃ i' : Nat, i = .int .i64 i' ∧ i' ≤ k1 ∧ WS (w.heap.size + 1) (w.heap.size + 1) (m : Int) (entL (n.keys.take i') (n.vals.take i'), false) wr ∧ wr.heap[w.heap.size]? = some (.cells #[.bool true, .slice a1 k1 c1, .slice a2 k2 c2, .slice a3 k3 c3] 25 (0, 0)) ∧ Same w wr) (fun i _ => k1 - (intOf i).toNat)
  case atStart => exact ⟨0, rfl, Nat.zero_le _, S1.out, B1.out, K1.out⟩
  case round =>
    obtain ⟨i, rfl, hi, hws, hbx, hsm⟩ := hrel
    have HWS := hidden hws
    have HBX := hidden hbx
    have HSM := hidden hsm
    clear hws hbx hsm x0 x1
    by_cases h1 : i < k1
    · have hil : i < n.keys.length := by rw [E1.out]; exact h1
      have hiv : i < n.vals.length := by rw [HKV.out]; exact hil
      have hi2 : (i : Int) < (k2 : Int) := by have := E2.out; omega
      have hi0 : (0 : Int) ≤ (i : Int) := Int.natCast_nonneg _
      obtain ⟨b, off, ha, hc⟩ := (HR1.out.same HSM.out).text hil
      obtain ⟨b', off', ha', hc'⟩ := (HR2.out.same HSM.out).text hiv
      obtain ⟨b'', off'', ha'', c0'⟩ := HR2.out.text hiv
      rw [ha'] at ha''
      cases ha''
      subst ha ha'
      have hst := entL_step n.keys n.vals HKV.out.symm hil
      have hle := entL_le n.keys n.vals (i + 1)
      rw [hst, List.length_append, entB_len] at hle
      have hkx := List.all_eq_true.1 HKA.out _ (List.getElem_mem hil)
      have hvx := List.all_eq_true.1 HVA.out _ (List.getElem_mem hiv)
      obtain ⟨x, hx⟩ : ∃ x, n.keys[i] = x := ⟨_, rfl⟩
      obtain ⟨y, hy⟩ : ∃ y, n.vals[i] = y := ⟨_, rfl⟩
      rw [hx] at hc hst hle hkx
      rw [hy] at hc' hst hle hvx
      have hx64 : x.size ≤ 64 := by simp [mayK] at hkx; omega
      have hy64 : y.size ≤ 64 := by simpa [mayV] using hvx
      obtain ⟨E, hE⟩ : ∃ E, entL (n.keys.take i) (n.vals.take i) = E := ⟨_, rfl⟩
      rw [hE] at hst hle HWS
      have HST := hidden hst
      have hm1 := HM.out.1
      have hm2 := HM.out.2
      have lE1 : (E ++ be 1 x.size).length = E.length + 1 := by simp [be_length]
      have lE2 : ((E ++ be 1 x.size) ++ be 1 y.size).length = E.length + 2 := by simp [be_length]
      have lE3 : (((E ++ be 1 x.size) ++ be 1 y.size) ++ x.data.toList).length = E.length + 2 + x.size := by rw [List.length_append, lE2, size_list]
      have g1 : ∀ W, WS (w.heap.size + 1) (w.heap.size + 1) (m : Int) (E, false) W → Calls Tryd.prog 60 #[.pointer (some ⟨w.heap.size + 1, 0, none⟩), .int .u8 (x.size : Nat)] W fun e w' => e = .returned (.tuple #[]) ∧ WS (w.heap.size + 1) (w.heap.size + 1) (m : Int) (E ++ be 1 x.size, false) w' ∧ Kept (wrS (w.heap.size + 1) (w.heap.size + 1)) W w' := fun W h => fitU8 h x.size (by omega) (by omega) (by omega)
      have g2 : ∀ W, WS (w.heap.size + 1) (w.heap.size + 1) (m : Int) (E ++ be 1 x.size, false) W → Calls Tryd.prog 60 #[.pointer (some ⟨w.heap.size + 1, 0, none⟩), .int .u8 (y.size : Nat)] W fun e w' => e = .returned (.tuple #[]) ∧ WS (w.heap.size + 1) (w.heap.size + 1) (m : Int) ((E ++ be 1 x.size) ++ be 1 y.size, false) w' ∧ Kept (wrS (w.heap.size + 1) (w.heap.size + 1)) W w' := fun W h => fitU8 h y.size (by omega) (by omega) (by omega)
      have g3 : ∀ W, WS (w.heap.size + 1) (w.heap.size + 1) (m : Int) ((E ++ be 1 x.size) ++ be 1 y.size, false) W → Calls Tryd.prog 61 #[.pointer (some ⟨w.heap.size + 1, 0, none⟩), .string x] W fun e w' => e = .returned (.tuple #[]) ∧ WS (w.heap.size + 1) (w.heap.size + 1) (m : Int) (((E ++ be 1 x.size) ++ be 1 y.size) ++ x.data.toList, false) w' ∧ Kept (wrS (w.heap.size + 1) (w.heap.size + 1)) W w' := fun W h => fitRaw h x (by omega) (by omega)
      have g4 : ∀ W, WS (w.heap.size + 1) (w.heap.size + 1) (m : Int) (((E ++ be 1 x.size) ++ be 1 y.size) ++ x.data.toList, false) W → Calls Tryd.prog 61 #[.pointer (some ⟨w.heap.size + 1, 0, none⟩), .string y] W fun e w' => e = .returned (.tuple #[]) ∧ WS (w.heap.size + 1) (w.heap.size + 1) (m : Int) ((((E ++ be 1 x.size) ++ be 1 y.size) ++ x.data.toList) ++ y.data.toList, false) w' ∧ Kept (wrS (w.heap.size + 1) (w.heap.size + 1)) W w' := fun W h => fitRaw h y (by omega) (by omega)
      have hfin : Hid (entL (n.keys.take (i + 1)) (n.vals.take (i + 1)) = (((E ++ be 1 x.size) ++ be 1 y.size) ++ x.data.toList) ++ y.data.toList) := by rw [Hid, hst]; simp [entB]
      have qx : IntKind.u8.wrap (x.size : Int) = (x.size : Int) := by simp [IntKind.wrap, IntKind.signed, IntKind.bits]; omega
      have qy : IntKind.u8.wrap (y.size : Int) = (y.size : Int) := by simp [IntKind.wrap, IntKind.signed, IntKind.bits]; omega
      clear lE1 lE2 lE3 hst hle hkx hvx hx hy hE
      generalize (((E ++ be 1 x.size) ++ be 1 y.size) ++ x.data.toList) ++ y.data.toList = E4 at *
      generalize ((E ++ be 1 x.size) ++ be 1 y.size) ++ x.data.toList = E3 at *
      generalize (E ++ be 1 x.size) ++ be 1 y.size = E2' at *
      generalize E ++ be 1 x.size = E1' at *
      have G1 := hidden g1
      have G2 := hidden g2
      have G3 := hidden g3
      have G4 := hidden g4
      have x0 : wr.cell? ⟨w.heap.size, 0, none⟩ = some (.bool true) := blk_cell HBX.out
      have x2 : wr.cell? ⟨w.heap.size, 2, none⟩ = some (.slice (some ⟨b', off', none⟩) k2 c2) := blk_cell HBX.out
      have q1 : (i : Int) < (k1 : Int) := by omega
      have t1 : True := trivial
      clear g1 g2 g3 g4 hm1 hm2
      go_wp2_with (first
        | (go_at_call 60; have _t := t1; refine (G1.out _ HWS.out).mono ?_; rintro e w2 ⟨rfl, s2, kk2⟩; clear t1; have S2 := hidden s2; have M2 := hidden (Same.wr HSM.out kk2 (by omega) (by omega)); have b2 := blk_kept kk2 (fun h => by rcases h with h | h <;> omega) HBX.out; have X2 := hidden b2; have y2_0 : w2.cell? ⟨w.heap.size, 0, none⟩ = some (.bool true) := blk_cell b2; have y2_2 : w2.cell? ⟨w.heap.size, 2, none⟩ = some (.slice (some ⟨b', off', none⟩) k2 c2) := blk_cell b2; have v2 := kk2.cell (p := ⟨b', off' + i, none⟩) (fun h => by have h9 := World.block_lt_of_cell? w _ c0'; rcases h with h | h <;> (simp only at h9 h; omega)) hc'; have t2 : True := trivial; clear s2 kk2 b2)
        | (go_at_call 60; have _t := t2; refine (G2.out _ S2.out).mono ?_; rintro e w3 ⟨rfl, s3, kk3⟩; clear t2; have S3 := hidden s3; have M3 := hidden (Same.wr M2.out kk3 (by omega) (by omega)); have b3 := blk_kept kk3 (fun h => by rcases h with h | h <;> omega) X2.out; have X3 := hidden b3; have y3_0 : w3.cell? ⟨w.heap.size, 0, none⟩ = some (.bool true) := blk_cell b3; have y3_2 : w3.cell? ⟨w.heap.size, 2, none⟩ = some (.slice (some ⟨b', off', none⟩) k2 c2) := blk_cell b3; have v3 := kk3.cell (p := ⟨b', off' + i, none⟩) (fun h => by have h9 := World.block_lt_of_cell? w _ c0'; rcases h with h | h <;> (simp only at h9 h; omega)) v2; have t3 : True := trivial; clear s3 kk3 b3)
        | (go_at_call 61; have _t := t3; refine (G3.out _ S3.out).mono ?_; rintro e w4 ⟨rfl, s4, kk4⟩; clear t3; have S4 := hidden s4; have M4 := hidden (Same.wr M3.out kk4 (by omega) (by omega)); have b4 := blk_kept kk4 (fun h => by rcases h with h | h <;> omega) X3.out; have X4 := hidden b4; have y4_0 : w4.cell? ⟨w.heap.size, 0, none⟩ = some (.bool true) := blk_cell b4; have y4_2 : w4.cell? ⟨w.heap.size, 2, none⟩ = some (.slice (some ⟨b', off', none⟩) k2 c2) := blk_cell b4; have v4 := kk4.cell (p := ⟨b', off' + i, none⟩) (fun h => by have h9 := World.block_lt_of_cell? w _ c0'; rcases h with h | h <;> (simp only at h9 h; omega)) v3; have t4 : True := trivial; clear s4 kk4 b4)
        | (go_at_call 61; have _t := t4; refine (G4.out _ S4.out).mono ?_; rintro e w5 ⟨rfl, s5, kk5⟩; clear t4; have S5 := hidden s5; have M5 := hidden (Same.wr M4.out kk5 (by omega) (by omega)); have b5 := blk_kept kk5 (fun h => by rcases h with h | h <;> omega) X4.out; have X5 := hidden b5; have y5_0 : w5.cell? ⟨w.heap.size, 0, none⟩ = some (.bool true) := blk_cell b5; have y5_2 : w5.cell? ⟨w.heap.size, 2, none⟩ = some (.slice (some ⟨b', off', none⟩) k2 c2) := blk_cell b5; have v5 := kk5.cell (p := ⟨b', off' + i, none⟩) (fun h => by have h9 := World.block_lt_of_cell? w _ c0'; rcases h with h | h <;> (simp only at h9 h; omega)) v4; have t5 : True := trivial; clear s5 kk5 b5))
      go_roundw
      case rel => exact ⟨i + 1, by go_num, by omega, by rw [hfin.out]; exact S5.out, X5.out, M5.out⟩
      case measure => simp [intOf]; omega
    · obtain rfl : i = k1 := by omega
      have hfin : Hid (entL (n.keys.take i) (n.vals.take i) = entL n.keys n.vals) := by
        rw [Hid]
        have e1 : n.keys.take i = n.keys := by rw [← E1.out, List.take_length]
        have e2 : n.vals.take i = n.vals := by rw [← E1.out, ← HKV.out, List.take_length]
        rw [e1, e2]
      rw [hfin.out] at HWS
      have q1 : ¬ (i : Int) < (i : Int) := by omega
      go_wp2_with (go_at_call 62; refine (fitDone HWS.out).mono ?_; rintro e w8 ⟨rfl, rfl⟩)
      go_returns
      exact ⟨rfl, HSM.out⟩
end Go.Proofs.YtpjgghalnkfdkaaDoor
