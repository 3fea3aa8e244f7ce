/- dir: an entry read; Put and Get of one name in directory 1. -/
import Derived.Test.YtmlibjohhgpniaaGreatDoorScL
import Derived.Test.YtmlibjohhgpniaaGreatDoorIn6
/- dir: keys and texts; Put and Get of one name. (Made by mkdi2.py.) -/
/- dir: what may be; keys and texts. -/
namespace Go.Proofs.YtmlibjohhgpniaaGreatDoor
open Go.RowKit
set_option linter.unusedVariables false
set_option linter.unusedSimpArgs false
set_option maxHeartbeats 400000 in
theorem dmayNumber_yes (z : Int) (h0 : 1 ≤ z) (h1 : z ≤ 2147483647) (w : World) : Calls Tryz.prog 99 #[.int .i64 z] w fun e w' => e = .returned (.bool true) ∧ w = w' := by
  go_enter Tryz.func99, Tryz.ntmps99
  go_wp2
  go_returns
  exact ⟨by simp [h0, h1], rfl⟩
set_option maxHeartbeats 1000000 in
set_option maxRecDepth 100000 in
theorem dmayName_b (w : World) : Calls Tryz.prog 150 #[.string ⟨#[98]⟩] w fun e w' => e = .returned (.bool true) ∧ w = w' := by
  have i0 : ((⟨#[98]⟩ : ByteArray)[0]'(by decide)).toNat = 98 := rfl
  have j0 : ((((⟨#[98]⟩ : ByteArray)[0]'(by decide)).toNat : Int) == 47) = false := rfl
  have l0 : ((((⟨#[98]⟩ : ByteArray)[0]'(by decide)).toNat : Int) == 0) = false := rfl
  go_enter Tryz.func150, Tryz.ntmps150
  go_wp2
  go_step3
  go_wp2
  go_step3
  go_wp2
  go_loopw [22, 3] (fun i m wr => ∃ t : Nat, i = .int .i64 t ∧ t ≤ 1 ∧ m = .bool true ∧ wr = w) (fun i _ _ => 1 - (intOf i).toNat)
  case atStart => exact ⟨0, rfl, by omega, rfl, rfl⟩
  case round =>
    obtain ⟨t, rfl, ht, rfl, rfl⟩ := hrel
    have hd : t = 0 ∨ t = 1 := by omega
    rcases hd with h0 | h1
    · obtain rfl : t = 0 := by omega
      go_wp2
      go_roundw
      case rel => exact ⟨1, by simp⟩
      case measure => simp [intOf]
    · obtain rfl : t = 1 := by omega
      go_wp2
      try rw [Exit.noGoto_ret]
      go_returns
      exact ⟨rfl, rfl⟩
set_option maxHeartbeats 1000000 in
set_option maxRecDepth 100000 in
theorem dmayName_dd (w : World) : Calls Tryz.prog 150 #[.string ⟨#[46, 46]⟩] w fun e w' => e = .returned (.bool false) ∧ w = w' := by
  have i0 : ((⟨#[46, 46]⟩ : ByteArray)[0]'(by decide)).toNat = 46 := rfl
  have j0 : ((((⟨#[46, 46]⟩ : ByteArray)[0]'(by decide)).toNat : Int) == 47) = false := rfl
  have l0 : ((((⟨#[46, 46]⟩ : ByteArray)[0]'(by decide)).toNat : Int) == 0) = false := rfl
  have i1 : ((⟨#[46, 46]⟩ : ByteArray)[1]'(by decide)).toNat = 46 := rfl
  have j1 : ((((⟨#[46, 46]⟩ : ByteArray)[1]'(by decide)).toNat : Int) == 47) = false := rfl
  have l1 : ((((⟨#[46, 46]⟩ : ByteArray)[1]'(by decide)).toNat : Int) == 0) = false := rfl
  go_enter Tryz.func150, Tryz.ntmps150
  go_wp2
  go_step3
  go_wp2
  go_step3
  go_wp2
  go_loopw [22, 3] (fun i m wr => ∃ t : Nat, i = .int .i64 t ∧ t ≤ 2 ∧ m = .bool false ∧ wr = w) (fun i _ _ => 2 - (intOf i).toNat)
  case atStart => exact ⟨0, rfl, by omega, rfl, rfl⟩
  case round =>
    obtain ⟨t, rfl, ht, rfl, rfl⟩ := hrel
    have hd : t = 0 ∨ t = 1 ∨ t = 2 := by omega
    rcases hd with h0 | h1 | h2
    · obtain rfl : t = 0 := by omega
      go_wp2
      go_roundw
      case rel => exact ⟨1, by simp⟩
      case measure => simp [intOf]
    · obtain rfl : t = 1 := by omega
      go_wp2
      go_roundw
      case rel => exact ⟨2, by simp⟩
      case measure => simp [intOf]
    · obtain rfl : t = 2 := by omega
      go_wp2
      try rw [Exit.noGoto_ret]
      go_returns
      exact ⟨rfl, rfl⟩
end Go.Proofs.YtmlibjohhgpniaaGreatDoor
namespace Go.Proofs.YtmlibjohhgpniaaGreatDoor
open Go.RowKit
set_option linter.unusedVariables false
set_option linter.unusedSimpArgs false
def kD (d : Nat) (name : ByteArray) : ByteArray := ⟨(keyL 100 [d] name).toArray⟩
def tgB (k : Nat) : List UInt8 := (be 4 k) ++ be 1 1
def tV (k : Nat) : ByteArray := ⟨(tgB k).toArray⟩
set_option maxHeartbeats 400000 in
theorem entryKey_any (k : Nat) (name : ByteArray) (hk : k < 9223372036854775808) (hn : name.size ≤ 140737488351232) (w : World) : Calls Tryz.prog 100 #[.int .i64 k, .string name] w fun e w' => e = .returned (.string (kD k name)) ∧ Same w w' := by
  have hw : IntKind.u64.wrap (k : Int) = (k : Int) := by simp [IntKind.wrap, IntKind.signed, IntKind.bits]; omega
  have HK := hidden (key_in 100 (.slice (some ⟨w.heap.size, 0, none⟩) 1 1) [k] name (w.alloc (.cells #[.int .u64 k] 221)) (by decide) ⟨some ⟨w.heap.size, 0, none⟩, 1, rfl, fun _ => ⟨w.heap.size, 0, rfl, fun j hj => by
    have hj0 : j = 0 := by simpa using hj
    subst hj0
    exact (blk_cell (blk_new w (.cells #[.int .u64 k] 221))).trans rfl⟩⟩ (by simp) (fun x h => by simp at h; omega) hn)
  go_enter Tryz.func100, Tryz.ntmps100
  go_wp2_with (go_at_call 132; refine HK.out.mono ?_; rintro e w1 ⟨rfl, q1⟩; have K1 := hidden q1; clear q1)
  go_returns
  exact ⟨rfl, (same_alloc w _).trans K1.out⟩
set_option maxHeartbeats 400000 in
theorem dirKey_any (k : Nat) (hk : k < 9223372036854775808) (w : World) : Calls Tryz.prog 152 #[.int .i64 k] w fun e w' => e = .returned (.string (kD k ⟨#[]⟩)) ∧ Same w w' := by
  have HK := hidden (entryKey_any k ⟨#[]⟩ hk (by decide) w)
  go_enter Tryz.func152, Tryz.ntmps152
  go_wp2_with (go_at_call 100; refine HK.out.mono ?_; rintro e w1 ⟨rfl, q1⟩; have K1 := hidden q1; clear q1)
  go_returns
  exact ⟨rfl, K1.out⟩

set_option maxHeartbeats 1000000 in
set_option maxRecDepth 100000 in
theorem ttext (k : Nat) (hk : k < 4294967296) (w : World) : Calls Tryz.prog 101 #[.agg #[.int .i64 k, .bool false]] w fun e w' => e = .returned (.string (tV k)) ∧ Same w w' := by
  have hw : IntKind.u32.wrap (k : Int) = (k : Int) := by simp [IntKind.wrap, IntKind.signed, IntKind.bits]; omega
  have K0 : Hid (Same w (w.alloc (.cells #[.int .i64 k, .bool false] 177))) := hidden (same_alloc _ _)
  have l1 : (be 4 k).length = 4 := by simp [be_length]
  have g1 : ∀ B g w, WS B g 5 ([], false) w → Calls Tryz.prog 134 #[.pointer (some ⟨g, 0, none⟩), .int .u32 (k : Nat)] w fun e w' => e = .returned (.tuple #[]) ∧ WS B g 5 (be 4 k, false) w' ∧ Kept (wrS B g) w w' := fun B g w h => fitU32 h k hk (by decide) (by decide)
  have g2 : ∀ B g w, WS B g 5 (be 4 k, false) w → Calls Tryz.prog 144 #[.pointer (some ⟨g, 0, none⟩), .int .u8 1] w fun e w' => e = .returned (.tuple #[]) ∧ WS B g 5 (tgB k, false) w' ∧ Kept (wrS B g) w w' := fun B g w h => fitU8 h 1 (by decide) (by rw [l1]; decide) (by rw [l1]; decide)
  clear l1 hk
  have hV : tV k = ⟨(tgB k).toArray⟩ := rfl
  rw [hV]
  clear hV
  generalize tgB k = H2 at *
  generalize be 4 k = H1 at *
  have G1 := hidden g1
  have G2 := hidden g2
  clear g1 g2
  go_enter Tryz.func101, Tryz.ntmps101
  go_wp2_with (first
    | (go_at_call 133; refine (newW 5 _ (by omega) (by omega)).mono ?_; rintro e w1 ⟨rfl, s1, k1, z1⟩; clear z1; replace s1 : WS (w.heap.size + 1) (w.heap.size + 1) 5 ([], false) w1 := (by simpa using s1)
       have b1 := blk_kept k1 (fun h => h) (blk_new w (.cells #[.int .i64 k, .bool false] 177))
       have x1 : w1.cell? ⟨w.heap.size, 0, none⟩ = some (.int .i64 k) := blk_cell b1
       have K1 := hidden (K0.out.trans k1)
       have B1 := hidden b1
       have t1 : True := trivial
       clear b1 k1)
    | (go_at_call 134; have _t := t1; refine (G1.out _ _ _ s1).mono ?_; rintro e w2 ⟨rfl, s2, k2⟩; clear s1 t1; have K2 := hidden (Same.wr K1.out k2 (by omega) (by omega)); have b2 := blk_kept k2 (fun h => by rcases h with h | h <;> omega) B1.out; have B2 := hidden b2; have t2 : True := trivial; clear k2 b2)
    | (go_at_call 144; have _t := t2; refine (G2.out _ _ _ s2).mono ?_; rintro e w3 ⟨rfl, s3, k3⟩; clear s2 t2; have K3 := hidden (Same.wr K2.out k3 (by omega) (by omega)); have b3 := blk_kept k3 (fun h => by rcases h with h | h <;> omega) B2.out; have B3 := hidden b3; have t3 : True := trivial; clear k3 b3)
    | (go_at_call 135; refine (fitDone s3).mono ?_; rintro e w4 ⟨rfl, rfl⟩))
  go_returns
  exact ⟨rfl, K3.out⟩
/-- What a target's text reads as. -/
structure TgRd (s : ByteArray) (k : Nat) : Prop where
  sz : s.size ≤ 281474976710656
  r1 : rnum (s, 0) 4 = k
  r2 : rnum (rtake (s, 0) 4).2 1 = 1
  r3 : rdone (rtake (rtake (s, 0) 4).2 1).2 = 0
  lo : 1 ≤ k
  hi : k ≤ 2147483647
set_option maxHeartbeats 1000000 in
set_option maxRecDepth 100000 in
theorem asTarget_ok (s : ByteArray) (k : Nat) (hr : TgRd s k) (w : World) : Calls Tryz.prog 97 #[.string s] w fun e w' => e = .returned (.tuple #[.agg #[.int .i64 k, .bool false], .bool true]) ∧ Same w w' := by
  have HNR := hidden (fun W => newR s W hr.sz)
  have HU1 := hidden (fun g W (h : Rd g (s, 0) W) => rU32 h)
  have HU2 := hidden (fun g W (h : Rd g (rtake (s, 0) 4).2 W) => rU8 h)
  have HDn := hidden (fun g W (h : Rd g (rtake (rtake (s, 0) 4).2 1).2 W) => rDone h)
  rw [hr.r1] at HU1
  rw [hr.r2] at HU2
  rw [hr.r3] at HDn
  have HMy := hidden (fun W => dmayNumber_yes k (by have := hr.lo; omega) (by have := hr.hi; omega) W)
  have hw : IntKind.i64.wrap (k : Int) = (k : Int) := wrapN (by omega) (by have := hr.hi; omega)
  generalize (rtake (rtake (s, 0) 4).2 1).2 = st2 at *
  generalize (rtake (s, 0) 4).2 = st1 at *
  have K0 := hidden (same_alloc w (.cells #[.int .i64 0, .bool false] 177))
  have B0 := hidden (blk_new w (.cells #[.int .i64 0, .bool false] 177))
  clear hr
  go_enter Tryz.func97, Tryz.ntmps97
  go_wp2_with (first
    | (go_at_call 139; refine (HNR.out _).mono ?_; rintro e w3 ⟨rfl, s3, q3, z3⟩; replace s3 : Rd (w.heap.size + 1) (s, 0) w3 := (by simpa using s3); have S3 := hidden s3; have K3 := hidden (K0.out.trans q3); have B3 := hidden (blk_kept q3 (fun h => h) B0.out); clear q3 s3 z3)
    | (go_at_call 141; refine (HU1.out _ _ S3.out).mono ?_; rintro e w4 ⟨rfl, s4, q4⟩; have S4 := hidden s4; have K4 := hidden (Kept.trans' K3.out q4 (fun j hj (e : j = w.heap.size + 1) => by omega)); have B4 := hidden (blk_kept q4 (fun (e : w.heap.size = w.heap.size + 1) => by omega) B3.out); clear s4 q4)
    | (go_at_call 140; refine (HU2.out _ _ S4.out).mono ?_; rintro e w5 ⟨rfl, s5, q5⟩; have S5 := hidden s5; have K5 := hidden (Kept.trans' K4.out q5 (fun j hj (e : j = w.heap.size + 1) => by omega)); have B5 := hidden (blk_kept q5 (fun (e : w.heap.size = w.heap.size + 1) => by omega) B4.out); have y0 := blk_cell (j := 0) B5.out; have y1 := blk_cell (j := 1) B5.out; have f0 := blk_free (j := 0) B5.out; have f1 := blk_free (j := 1) B5.out; clear s5 q5)
    | (go_at_call 142; refine (HDn.out _ _ S5.out).mono ?_; rintro e w7 ⟨rfl, rfl⟩)
    | (go_at_call 99; refine (HMy.out _).mono ?_; rintro e w8 ⟨rfl, rfl⟩))
  have gf := fill2 B5.out (.int .i64 k) (.bool false)
  have sf : Same w ((w5.setCell ⟨w.heap.size, 0, none⟩ (.int .i64 k)).setCell ⟨w.heap.size, 1, none⟩ (.bool false)) := (K5.out.setNew (p := ⟨w.heap.size, 0, none⟩) (Nat.le_refl _) _).setNew (p := ⟨w.heap.size, 1, none⟩) (Nat.le_refl _) _
  generalize ((w5.setCell ⟨w.heap.size, 0, none⟩ (.int .i64 k)).setCell ⟨w.heap.size, 1, none⟩ (.bool false)) = WF at gf sf ⊢
  have q0 := blk_cell (j := 0) gf
  have q1 := blk_cell (j := 1) gf
  refine bodyPost_ret (v := .tuple #[.agg #[.int .i64 k, .bool false], .bool true]) (by simp [results, Tryz.results97, go_sem, q0, q1]) rfl ⟨rfl, sf⟩
theorem tgrd5 : TgRd (tV 5) 5 := ⟨by decide +kernel, by decide +kernel, by decide +kernel, by decide +kernel, by decide, by decide⟩
theorem spl_b : spl (kD 1 ⟨#[98]⟩) 1 = (100, [1], ⟨#[98]⟩, 0) := by decide +kernel
end Go.Proofs.YtmlibjohhgpniaaGreatDoor
namespace Go.Proofs.YtmlibjohhgpniaaGreatDoor
open Go.RowKit
set_option linter.unusedVariables false
set_option linter.unusedSimpArgs false
set_option maxHeartbeats 1000000 in
set_option maxRecDepth 100000 in
theorem asEntry_b (w : World) : Calls Tryz.prog 182 #[.string (kD 1 ⟨#[98]⟩), .string (tV 5)] w fun e w' => e = .returned (.tuple #[.agg #[.string ⟨#[98]⟩, .int .i64 5, .bool false], .bool true]) ∧ Same w w' := by
  have HSp : Hid (∀ W, Calls Tryz.prog 180 #[.string (kD 1 ⟨#[98]⟩), .int .i64 1] W fun e w' => ∃ b off cap, e = .returned (.tuple #[.int .u8 100, .slice (some ⟨b, off, none⟩) 1 cap, .string ⟨#[98]⟩, .int .i64 0]) ∧ w'.cell? ⟨b, off, none⟩ = some (.int .u64 1) ∧ Same W w') := hidden (fun W => by
    have := split_in (kD 1 ⟨#[98]⟩) 1 W (by decide +kernel) (by decide)
    rw [spl_b] at this
    refine this.mono ?_
    rintro e w' ⟨v, rfl, hn, q⟩
    obtain ⟨a, cap, rfl, hc⟩ := hn.cells
    obtain ⟨b, off, rfl, hc'⟩ := hc (by simp)
    have hc0 := hc' 0 (by simp)
    rw [Nat.add_zero] at hc0
    exact ⟨b, off, cap, rfl, hc0, q⟩)
  have HT : Hid (∀ W, Calls Tryz.prog 97 #[.string (tV 5)] W fun e w' => e = .returned (.tuple #[.agg #[.int .i64 5, .bool false], .bool true]) ∧ Same W w') := hidden (fun W => asTarget_ok (tV 5) 5 tgrd5 W)
  have HN := hidden (fun W => dmayNumber_yes 1 (by omega) (by omega) W)
  have HB := hidden (fun W => dmayName_b W)
  generalize kD 1 ⟨#[98]⟩ = kk at *
  generalize tV 5 = vv at *
  have K0 := hidden (same_alloc w (.cells #[.string ⟨#[]⟩, .int .i64 0, .bool false] 188))
  have B0 := hidden (blk_new w (.cells #[.string ⟨#[]⟩, .int .i64 0, .bool false] 188))
  have hw : IntKind.i64.wrap 1 = 1 := by decide
  go_enter Tryz.func182, Tryz.ntmps182
  go_wp2_with (first
    | (go_at_call 180; refine (HSp.out _).mono ?_; rintro e w1 ⟨b, off, cap, rfl, hc0, q1⟩; have HC := hidden hc0; have K1 := hidden (K0.out.trans q1); have B1 := hidden (blk_kept q1 (fun h => h) B0.out); clear q1 hc0)
    | (go_at_call 97; refine (HT.out _).mono ?_; rintro e w2 ⟨rfl, q2⟩; have q2' := q2.alloc (.cells #[.int .i64 5, .bool false] 177); have K2 := hidden (K1.out.trans q2'); have B2 := blk_kept q2' (fun h => h) B1.out; have T2 := blk_new w2 (.cells #[.int .i64 5, .bool false] 177); have n0 : (w2.alloc (.cells #[.int .i64 5, .bool false] 177)).cell? ⟨b, off, none⟩ = some (.int .u64 1) := q2'.cell (fun h => h) HC.out; have t0 := blk_cell (j := 0) T2; have t1 := blk_cell (j := 1) T2; have y0 := blk_cell (j := 0) B2; have y1 := blk_cell (j := 1) B2; have y2 := blk_cell (j := 2) B2; have f0 := blk_free (j := 0) B2; have f1 := blk_free (j := 1) B2; have f2 := blk_free (j := 2) B2; have BB := hidden B2; clear q2 q2' B2 T2)
    | (go_at_call 99; refine (HN.out _).mono ?_; rintro e w8 ⟨rfl, rfl⟩)
    | (go_at_call 150; refine (HB.out _).mono ?_; rintro e w9 ⟨rfl, rfl⟩))
  have gf := fill3 BB.out (.string ⟨#[98]⟩) (.int .i64 5) (.bool false)
  have sf := same_fill3 K2.out (g := w.heap.size) (Nat.le_refl _) (.string ⟨#[98]⟩) (.int .i64 5) (.bool false)
  generalize ((((w2.alloc (.cells #[.int .i64 5, .bool false] 177)).setCell ⟨w.heap.size, 0, none⟩ (.string ⟨#[98]⟩)).setCell ⟨w.heap.size, 1, none⟩ (.int .i64 5)).setCell ⟨w.heap.size, 2, none⟩ (.bool false)) = WF at gf sf ⊢
  have q0 := blk_cell (j := 0) gf
  have q1 := blk_cell (j := 1) gf
  have q2 := blk_cell (j := 2) gf
  refine bodyPost_ret (v := .tuple #[.agg #[.string ⟨#[98]⟩, .int .i64 5, .bool false], .bool true]) (by simp [results, Tryz.results182, go_sem, q0, q1, q2]) rfl ⟨rfl, sf⟩
theorem dasked (g : Nat) (w : World) : Calls Tryz.prog 102 #[.pointer (some ⟨g, 0, none⟩), .int .i64 1] w fun e w' => e = .returned (.int .i64 0) ∧ w = w' := by
  have HN := hidden (fun W => dmayNumber_yes 1 (by omega) (by omega) W)
  go_enter Tryz.func102, Tryz.ntmps102
  go_wp2_with (go_at_call 99; refine (HN.out _).mono ?_; rintro e w8 ⟨rfl, rfl⟩)
  go_returns
  exact ⟨rfl, rfl⟩
theorem dasked_nil (d : Int) (w : World) : Calls Tryz.prog 102 #[.pointer none, .int .i64 d] w fun e w' => e = .returned (.int .i64 6) ∧ w = w' := by
  go_enter Tryz.func102, Tryz.ntmps102
  go_wp2
  go_returns
  exact ⟨rfl, rfl⟩
theorem daskedName_b (g : Nat) (w : World) : Calls Tryz.prog 98 #[.pointer (some ⟨g, 0, none⟩), .int .i64 1, .string ⟨#[98]⟩] w fun e w' => e = .returned (.int .i64 0) ∧ w = w' := by
  have HA := hidden (fun W => dasked g W)
  have HB := hidden (fun W => dmayName_b W)
  go_enter Tryz.func98, Tryz.ntmps98
  go_wp2_with (first
    | (go_at_call 102; refine (HA.out _).mono ?_; rintro e w8 ⟨rfl, rfl⟩)
    | (go_at_call 150; refine (HB.out _).mono ?_; rintro e w9 ⟨rfl, rfl⟩))
  go_returns
  exact ⟨rfl, rfl⟩
theorem daskedName_dd (g : Nat) (w : World) : Calls Tryz.prog 98 #[.pointer (some ⟨g, 0, none⟩), .int .i64 1, .string ⟨#[46, 46]⟩] w fun e w' => e = .returned (.int .i64 1) ∧ w = w' := by
  have HA := hidden (fun W => dasked g W)
  have HB := hidden (fun W => dmayName_dd W)
  go_enter Tryz.func98, Tryz.ntmps98
  go_wp2_with (first
    | (go_at_call 102; refine (HA.out _).mono ?_; rintro e w8 ⟨rfl, rfl⟩)
    | (go_at_call 150; refine (HB.out _).mono ?_; rintro e w9 ⟨rfl, rfl⟩))
  go_returns
  exact ⟨rfl, rfl⟩
theorem daskedName_nil (d : Int) (s : ByteArray) (w : World) : Calls Tryz.prog 98 #[.pointer none, .int .i64 d, .string s] w fun e w' => e = .returned (.int .i64 6) ∧ w = w' := by
  have HA := hidden (fun W => dasked_nil d W)
  go_enter Tryz.func98, Tryz.ntmps98
  go_wp2_with (go_at_call 102; refine (HA.out _).mono ?_; rintro e w8 ⟨rfl, rfl⟩)
  go_returns
  exact ⟨rfl, rfl⟩
/-- The leaf of one entry. -/
def ndD : Nd := ⟨true, [kD 1 ⟨#[98]⟩], [tV 5], []⟩
theorem ndD_put : PutOk nd0 (kD 1 ⟨#[98]⟩) (tV 5) ndD := putOk_new (c := 0) (by decide +kernel) (by decide +kernel) (by decide +kernel) (by decide +kernel) (by decide +kernel) (by decide +kernel) rfl (by decide +kernel)
theorem ndD_has : ndD.has (kD 1 ⟨#[98]⟩) = true := by rw [has_D]; decide +kernel
set_option maxHeartbeats 1000000 in
set_option maxRecDepth 100000 in
theorem dput (w : World) (g p : Nat) (ht : LT w g p nd0 none none none 0 0 0 0 0 0) : Calls Tryz.prog 42 #[.pointer (some ⟨g, 0, none⟩), .int .i64 1, .string ⟨#[98]⟩, .int .i64 5, .bool false] w fun e w' => ∃ u, e = .returned u ∧ ChP w ndD u w' := by
  have HA := hidden (fun W => daskedName_b g W)
  have HN := hidden (fun W => dmayNumber_yes 5 (by omega) (by omega) W)
  have HK : Hid (∀ W, Calls Tryz.prog 100 #[.int .i64 1, .string ⟨#[98]⟩] W fun e w' => e = .returned (.string (kD 1 ⟨#[98]⟩)) ∧ Same W w') := hidden (fun W => entryKey_any 1 ⟨#[98]⟩ (by decide) (by decide) W)
  have HT : Hid (∀ W, Calls Tryz.prog 101 #[.agg #[.int .i64 5, .bool false]] W fun e w' => e = .returned (.string (tV 5)) ∧ Same W w') := hidden (fun W => ttext 5 (by decide) W)
  have HP := hidden (fun W (k : Same w W) => tput nd0 none none none 0 0 0 0 0 0 ndD_put W g p (ht.same k))
  generalize kD 1 ⟨#[98]⟩ = kk at *
  generalize tV 5 = vv at *
  clear ht
  go_enter Tryz.func42, Tryz.ntmps42
  go_wp2_with (first
    | (go_at_call 98; refine (HA.out _).mono ?_; rintro e w8 ⟨rfl, rfl⟩)
    | (go_at_call 99; refine (HN.out _).mono ?_; rintro e w9 ⟨rfl, rfl⟩)
    | (go_at_call 100; refine (HK.out _).mono ?_; rintro e w1 ⟨rfl, q1⟩; have K1 := hidden q1; clear q1)
    | (go_at_call 101; refine (HT.out _).mono ?_; rintro e w2 ⟨rfl, q2⟩; have K2 := hidden (K1.out.trans q2); clear q2)
    | (go_at_call 9; refine (HP.out _ K2.out).mono ?_; rintro e w3 ⟨u, rfl, ⟨g', q', z1, z2, z3, d1, d2, d3, rfl, hlt, q3⟩⟩; have L3 := hidden hlt; have K3 := hidden (K2.out.trans q3); clear q3 hlt))
  go_returns
  exact ⟨_, rfl, ⟨⟨g', q', z1, z2, z3, d1, d2, d3, rfl, L3.out, K3.out⟩⟩⟩
set_option maxHeartbeats 1000000 in
set_option maxRecDepth 100000 in
theorem dget_b (w : World) (g p : Nat) (z1 z2 z3 : Option Addr) (d1 d2 d3 : Nat) (ht : LT w g p ndD z1 z2 z3 1 d1 1 d2 0 d3) : Calls Tryz.prog 41 #[.pointer (some ⟨g, 0, none⟩), .int .i64 1, .string ⟨#[98]⟩] w fun e w' => e = .returned (.tuple #[.int .i64 5, .bool false, .int .i64 0]) ∧ Same w w' := by
  have HV : Hid (∀ W, Same w W → Calls Tryz.prog 96 #[.pointer (some ⟨g, 0, none⟩), .int .i64 1, .string ⟨#[98]⟩] W fun e w' => e = .returned (.tuple #[.string (tV 5), .int .i64 0]) ∧ Same W w') := hidden (fun W kW => by
    have HA := hidden (fun W => daskedName_b g W)
    have HK : Hid (∀ W, Calls Tryz.prog 100 #[.int .i64 1, .string ⟨#[98]⟩] W fun e w' => e = .returned (.string (kD 1 ⟨#[98]⟩)) ∧ Same W w') := hidden (fun W => entryKey_any 1 ⟨#[98]⟩ (by decide) (by decide) W)
    have HG := hidden (fun V (k : Same W V) => tget_has ndD z1 z2 z3 1 d1 1 d2 0 d3 V g p ((ht.same kW).same k) rfl (fit_D (by decide +kernel)).1 (kD 1 ⟨#[98]⟩) ndD_has rfl (tV 5) (by rw [cnt_D]; rfl))
    generalize kD 1 ⟨#[98]⟩ = kk at *
    generalize tV 5 = vv at *
    clear ht kW
    go_enter Tryz.func96, Tryz.ntmps96
    go_wp2_with (first
      | (go_at_call 98; refine (HA.out _).mono ?_; rintro e w8 ⟨rfl, rfl⟩)
      | (go_at_call 100; refine (HK.out _).mono ?_; rintro e w1 ⟨rfl, q1⟩; have K1 := hidden q1; clear q1)
      | (go_at_call 8; refine (HG.out _ K1.out).mono ?_; rintro e w2 ⟨rfl, q2⟩; have K2 := hidden (K1.out.trans q2); clear q2))
    go_returns
    exact ⟨rfl, K2.out⟩)
  have HT : Hid (∀ W, Calls Tryz.prog 97 #[.string (tV 5)] W fun e w' => e = .returned (.tuple #[.agg #[.int .i64 5, .bool false], .bool true]) ∧ Same W w') := hidden (fun W => asTarget_ok (tV 5) 5 tgrd5 W)
  generalize tV 5 = vv at *
  clear ht
  go_enter Tryz.func41, Tryz.ntmps41
  go_wp2_with (first
    | (go_at_call 96; refine (HV.out _ (Kept.refl _ _)).mono ?_; rintro e w1 ⟨rfl, q1⟩; have K1 := hidden q1; clear q1)
    | (go_at_call 97; refine (HT.out _).mono ?_; rintro e w2 ⟨rfl, q2⟩; have T2 := blk_new w2 (.cells #[.int .i64 5, .bool false] 177); have t0 := blk_cell (j := 0) T2; have t1 := blk_cell (j := 1) T2; have K2 := hidden ((K1.out.trans q2).alloc (.cells #[.int .i64 5, .bool false] 177)); clear q2 T2))
  generalize w2.alloc (.cells #[.int .i64 5, .bool false] 177) = WF at t0 t1 K2 ⊢
  go_quiet (fail)
  go_wp2
  go_returns
  exact ⟨rfl, K2.out.drewN _⟩
set_option maxHeartbeats 1000000 in
theorem dget_dd (w : World) (g : Nat) : Calls Tryz.prog 41 #[.pointer (some ⟨g, 0, none⟩), .int .i64 1, .string ⟨#[46, 46]⟩] w fun e w' => e = .returned (.tuple #[.int .i64 0, .bool false, .int .i64 1]) ∧ w = w' := by
  have HV : Hid (∀ W, Calls Tryz.prog 96 #[.pointer (some ⟨g, 0, none⟩), .int .i64 1, .string ⟨#[46, 46]⟩] W fun e w' => e = .returned (.tuple #[.string ⟨#[]⟩, .int .i64 1]) ∧ W = w') := hidden (fun W => by
    have HA := hidden (fun W => daskedName_dd g W)
    go_enter Tryz.func96, Tryz.ntmps96
    go_wp2_with (go_at_call 98; refine (HA.out _).mono ?_; rintro e w8 ⟨rfl, rfl⟩)
    go_returns
    exact ⟨rfl, rfl⟩)
  go_enter Tryz.func41, Tryz.ntmps41
  go_wp2_with (go_at_call 96; refine (HV.out _).mono ?_; rintro e w1 ⟨rfl, rfl⟩)
  go_returns
  exact ⟨rfl, rfl⟩
end Go.Proofs.YtmlibjohhgpniaaGreatDoor
