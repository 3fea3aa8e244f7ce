/- dir: keys and texts; Put and Get of one name. (Made by mkdi2.py.) -/
import Derived.Test.YtmlibjohhgpniaaGreatDoorDi1
namespace Go.Proofs.YtmlibjohhgpniaaGreatDoor
open Go.RowKit
set_option linter.unusedVariables false
set_option linter.unusedSimpArgs false
def kD (d : Nat) (name : ByteArray) : ByteArray := ⟨(keyL 100 [d] name).toArray⟩
def tgB (k : Nat) : List UInt8 := (be 4 k) ++ be 1 1
def tV (k : Nat) : ByteArray := ⟨(tgB k).toArray⟩
set_option maxHeartbeats 400000 in
theorem entryKey_any (k : Nat) (name : ByteArray) (hk : k < 9223372036854775808) (hn : name.size ≤ 140737488351232) (w : World) : Calls Tryz.prog 100 #[.int .i64 k, .string name] w fun e w' => e = .returned (.string (kD k name)) ∧ Same w w' := by
  have hw : IntKind.u64.wrap (k : Int) = (k : Int) := by simp [IntKind.wrap, IntKind.signed, IntKind.bits]; omega
  have HK := hidden (key_in 100 (.slice (some ⟨w.heap.size, 0, none⟩) 1 1) [k] name (w.alloc (.cells #[.int .u64 k] 221)) (by decide) ⟨some ⟨w.heap.size, 0, none⟩, 1, rfl, fun _ => ⟨w.heap.size, 0, rfl, fun j hj => by
    have hj0 : j = 0 := by simpa using hj
    subst hj0
    exact (blk_cell (blk_new w (.cells #[.int .u64 k] 221))).trans rfl⟩⟩ (by simp) (fun x h => by simp at h; omega) hn)
  go_enter Tryz.func100, Tryz.ntmps100
  go_wp2_with (go_at_call 132; refine HK.out.mono ?_; rintro e w1 ⟨rfl, q1⟩; have K1 := hidden q1; clear q1)
  go_returns
  exact ⟨rfl, (same_alloc w _).trans K1.out⟩
set_option maxHeartbeats 400000 in
theorem dirKey_any (k : Nat) (hk : k < 9223372036854775808) (w : World) : Calls Tryz.prog 152 #[.int .i64 k] w fun e w' => e = .returned (.string (kD k ⟨#[]⟩)) ∧ Same w w' := by
  have HK := hidden (entryKey_any k ⟨#[]⟩ hk (by decide) w)
  go_enter Tryz.func152, Tryz.ntmps152
  go_wp2_with (go_at_call 100; refine HK.out.mono ?_; rintro e w1 ⟨rfl, q1⟩; have K1 := hidden q1; clear q1)
  go_returns
  exact ⟨rfl, K1.out⟩

set_option maxHeartbeats 1000000 in
set_option maxRecDepth 100000 in
theorem ttext (k : Nat) (hk : k < 4294967296) (w : World) : Calls Tryz.prog 101 #[.agg #[.int .i64 k, .bool false]] w fun e w' => e = .returned (.string (tV k)) ∧ Same w w' := by
  have hw : IntKind.u32.wrap (k : Int) = (k : Int) := by simp [IntKind.wrap, IntKind.signed, IntKind.bits]; omega
  have K0 : Hid (Same w (w.alloc (.cells #[.int .i64 k, .bool false] 177))) := hidden (same_alloc _ _)
  have l1 : (be 4 k).length = 4 := by simp [be_length]
  have g1 : ∀ B g w, WS B g 5 ([], false) w → Calls Tryz.prog 134 #[.pointer (some ⟨g, 0, none⟩), .int .u32 (k : Nat)] w fun e w' => e = .returned (.tuple #[]) ∧ WS B g 5 (be 4 k, false) w' ∧ Kept (wrS B g) w w' := fun B g w h => fitU32 h k hk (by decide) (by decide)
  have g2 : ∀ B g w, WS B g 5 (be 4 k, false) w → Calls Tryz.prog 144 #[.pointer (some ⟨g, 0, none⟩), .int .u8 1] w fun e w' => e = .returned (.tuple #[]) ∧ WS B g 5 (tgB k, false) w' ∧ Kept (wrS B g) w w' := fun B g w h => fitU8 h 1 (by decide) (by rw [l1]; decide) (by rw [l1]; decide)
  clear l1 hk
  have hV : tV k = ⟨(tgB k).toArray⟩ := rfl
  rw [hV]
  clear hV
  generalize tgB k = H2 at *
  generalize be 4 k = H1 at *
  have G1 := hidden g1
  have G2 := hidden g2
  clear g1 g2
  go_enter Tryz.func101, Tryz.ntmps101
  go_wp2_with (first
    | (go_at_call 133; refine (newW 5 _ (by omega) (by omega)).mono ?_; rintro e w1 ⟨rfl, s1, k1, z1⟩; clear z1; replace s1 : WS (w.heap.size + 1) (w.heap.size + 1) 5 ([], false) w1 := (by simpa using s1)
       have b1 := blk_kept k1 (fun h => h) (blk_new w (.cells #[.int .i64 k, .bool false] 177))
       have x1 : w1.cell? ⟨w.heap.size, 0, none⟩ = some (.int .i64 k) := blk_cell b1
       have K1 := hidden (K0.out.trans k1)
       have B1 := hidden b1
       have t1 : True := trivial
       clear b1 k1)
    | (go_at_call 134; have _t := t1; refine (G1.out _ _ _ s1).mono ?_; rintro e w2 ⟨rfl, s2, k2⟩; clear s1 t1; have K2 := hidden (Same.wr K1.out k2 (by omega) (by omega)); have b2 := blk_kept k2 (fun h => by rcases h with h | h <;> omega) B1.out; have B2 := hidden b2; have t2 : True := trivial; clear k2 b2)
    | (go_at_call 144; have _t := t2; refine (G2.out _ _ _ s2).mono ?_; rintro e w3 ⟨rfl, s3, k3⟩; clear s2 t2; have K3 := hidden (Same.wr K2.out k3 (by omega) (by omega)); have b3 := blk_kept k3 (fun h => by rcases h with h | h <;> omega) B2.out; have B3 := hidden b3; have t3 : True := trivial; clear k3 b3)
    | (go_at_call 135; refine (fitDone s3).mono ?_; rintro e w4 ⟨rfl, rfl⟩))
  go_returns
  exact ⟨rfl, K3.out⟩
/-- What a target's text reads as. -/
structure TgRd (s : ByteArray) (k : Nat) : Prop where
  sz : s.size ≤ 281474976710656
  r1 : rnum (s, 0) 4 = k
  r2 : rnum (rtake (s, 0) 4).2 1 = 1
  r3 : rdone (rtake (rtake (s, 0) 4).2 1).2 = 0
  lo : 1 ≤ k
  hi : k ≤ 2147483647
set_option maxHeartbeats 1000000 in
set_option maxRecDepth 100000 in
theorem asTarget_ok (s : ByteArray) (k : Nat) (hr : TgRd s k) (w : World) : Calls Tryz.prog 97 #[.string s] w fun e w' => e = .returned (.tuple #[.agg #[.int .i64 k, .bool false], .bool true]) ∧ Same w w' := by
  have HNR := hidden (fun W => newR s W hr.sz)
  have HU1 := hidden (fun g W (h : Rd g (s, 0) W) => rU32 h)
  have HU2 := hidden (fun g W (h : Rd g (rtake (s, 0) 4).2 W) => rU8 h)
  have HDn := hidden (fun g W (h : Rd g (rtake (rtake (s, 0) 4).2 1).2 W) => rDone h)
  rw [hr.r1] at HU1
  rw [hr.r2] at HU2
  rw [hr.r3] at HDn
  have HMy := hidden (fun W => dmayNumber_yes k (by have := hr.lo; omega) (by have := hr.hi; omega) W)
  have hw : IntKind.i64.wrap (k : Int) = (k : Int) := wrapN (by omega) (by have := hr.hi; omega)
  generalize (rtake (rtake (s, 0) 4).2 1).2 = st2 at *
  generalize (rtake (s, 0) 4).2 = st1 at *
  have K0 := hidden (same_alloc w (.cells #[.int .i64 0, .bool false] 177))
  have B0 := hidden (blk_new w (.cells #[.int .i64 0, .bool false] 177))
  clear hr
  go_enter Tryz.func97, Tryz.ntmps97
  go_wp2_with (first
    | (go_at_call 139; refine (HNR.out _).mono ?_; rintro e w3 ⟨rfl, s3, q3, z3⟩; replace s3 : Rd (w.heap.size + 1) (s, 0) w3 := (by simpa using s3); have S3 := hidden s3; have K3 := hidden (K0.out.trans q3); have B3 := hidden (blk_kept q3 (fun h => h) B0.out); clear q3 s3 z3)
    | (go_at_call 141; refine (HU1.out _ _ S3.out).mono ?_; rintro e w4 ⟨rfl, s4, q4⟩; have S4 := hidden s4; have K4 := hidden (Kept.trans' K3.out q4 (fun j hj (e : j = w.heap.size + 1) => by omega)); have B4 := hidden (blk_kept q4 (fun (e : w.heap.size = w.heap.size + 1) => by omega) B3.out); clear s4 q4)
    | (go_at_call 140; refine (HU2.out _ _ S4.out).mono ?_; rintro e w5 ⟨rfl, s5, q5⟩; have S5 := hidden s5; have K5 := hidden (Kept.trans' K4.out q5 (fun j hj (e : j = w.heap.size + 1) => by omega)); have B5 := hidden (blk_kept q5 (fun (e : w.heap.size = w.heap.size + 1) => by omega) B4.out); have y0 := blk_cell (j := 0) B5.out; have y1 := blk_cell (j := 1) B5.out; have f0 := blk_free (j := 0) B5.out; have f1 := blk_free (j := 1) B5.out; clear s5 q5)
    | (go_at_call 142; refine (HDn.out _ _ S5.out).mono ?_; rintro e w7 ⟨rfl, rfl⟩)
    | (go_at_call 99; refine (HMy.out _).mono ?_; rintro e w8 ⟨rfl, rfl⟩))
  have gf := fill2 B5.out (.int .i64 k) (.bool false)
  have sf : Same w ((w5.setCell ⟨w.heap.size, 0, none⟩ (.int .i64 k)).setCell ⟨w.heap.size, 1, none⟩ (.bool false)) := (K5.out.setNew (p := ⟨w.heap.size, 0, none⟩) (Nat.le_refl _) _).setNew (p := ⟨w.heap.size, 1, none⟩) (Nat.le_refl _) _
  generalize ((w5.setCell ⟨w.heap.size, 0, none⟩ (.int .i64 k)).setCell ⟨w.heap.size, 1, none⟩ (.bool false)) = WF at gf sf ⊢
  have q0 := blk_cell (j := 0) gf
  have q1 := blk_cell (j := 1) gf
  refine bodyPost_ret (v := .tuple #[.agg #[.int .i64 k, .bool false], .bool true]) (by simp [results, Tryz.results97, go_sem, q0, q1]) rfl ⟨rfl, sf⟩
theorem tgrd5 : TgRd (tV 5) 5 := ⟨by decide +kernel, by decide +kernel, by decide +kernel, by decide +kernel, by decide, by decide⟩
theorem spl_b : spl (kD 1 ⟨#[98]⟩) 1 = (100, [1], ⟨#[98]⟩, 0) := by decide +kernel
end Go.Proofs.YtmlibjohhgpniaaGreatDoor
