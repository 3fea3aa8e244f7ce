/- inode: keys, an inode's text, counters.put. (Made by mkin1.py.) -/
import Derived.Test.YtmlibjohhgpniaaGreatDoorTr6
import Derived.Test.YtmlibjohhgpniaaGreatDoorKeyP
namespace Go.Proofs.YtmlibjohhgpniaaGreatDoor
open Go.RowKit
set_option linter.unusedVariables false
set_option linter.unusedSimpArgs false
def kS : ByteArray := ⟨(keyL 115 [] ⟨#[]⟩).toArray⟩
def kN (p k : Nat) : ByteArray := ⟨(keyL p [k] ⟨#[]⟩).toArray⟩
def ctB (i : Nat) : List UInt8 := ((be 4 i) ++ be 4 1) ++ be 4 1
def inB (kd pa : Nat) : List UInt8 := (((be 1 kd) ++ be 4 0) ++ be 4 0) ++ be 4 pa
def cV (i : Nat) : ByteArray := ⟨(ctB i).toArray⟩
def iV (kd pa : Nat) : ByteArray := ⟨(inB kd pa).toArray⟩
set_option maxHeartbeats 400000 in
theorem prefixKey_any (p : Nat) (hp : p < 256) (w : World) : Calls Tryz.prog 95 #[.int .u8 p] w fun e w' => e = .returned (.string ⟨(keyL p [] ⟨#[]⟩).toArray⟩) ∧ Same w w' := by
  have HK := hidden (key_in p (.slice none 0 0) [] ⟨#[]⟩ w hp ⟨none, 0, rfl, fun h => absurd rfl h⟩ (by decide) (fun x h => by cases h) (by decide))
  go_enter Tryz.func95, Tryz.ntmps95
  go_wp2_with (go_at_call 132; refine HK.out.mono ?_; rintro e w1 ⟨rfl, q1⟩; have K1 := hidden q1; clear q1)
  go_returns
  exact ⟨rfl, K1.out⟩
set_option maxHeartbeats 400000 in
theorem numberKey_any (p k : Nat) (hp : p < 256) (hk : k < 9223372036854775808) (w : World) : Calls Tryz.prog 83 #[.int .u8 p, .int .i64 k] w fun e w' => e = .returned (.string (kN p k)) ∧ Same w w' := by
  have hw : IntKind.u64.wrap (k : Int) = (k : Int) := by simp [IntKind.wrap, IntKind.signed, IntKind.bits]; omega
  have HK := hidden (key_in p (.slice (some ⟨w.heap.size, 0, none⟩) 1 1) [k] ⟨#[]⟩ (w.alloc (.cells #[.int .u64 k] 221)) hp ⟨some ⟨w.heap.size, 0, none⟩, 1, rfl, fun _ => ⟨w.heap.size, 0, rfl, fun j hj => by
    have hj0 : j = 0 := by simpa using hj
    subst hj0
    exact (blk_cell (blk_new w (.cells #[.int .u64 k] 221))).trans rfl⟩⟩ (by simp) (fun x h => by simp at h; omega) (by decide))
  go_enter Tryz.func83, Tryz.ntmps83
  go_wp2_with (go_at_call 132; refine HK.out.mono ?_; rintro e w1 ⟨rfl, q1⟩; have K1 := hidden q1; clear q1)
  go_returns
  exact ⟨rfl, (same_alloc w _).trans K1.out⟩

set_option maxHeartbeats 1000000 in
set_option maxRecDepth 100000 in
theorem inodeText_true (nu : Int) (pa : Nat) (hpa : pa < 4294967296) (w : World) : Calls Tryz.prog 84 #[.agg #[.int .i64 nu, .bool true, .int .i64 0, .int .i64 0, .int .i64 pa]] w fun e w' => e = .returned (.string (iV 2 pa)) ∧ Same w w' := by
  have hw : IntKind.u32.wrap (pa : Int) = (pa : Int) := by simp [IntKind.wrap, IntKind.signed, IntKind.bits]; omega
  have K0 : Hid (Same w (w.alloc (.cells #[.int .i64 nu, .bool true, .int .i64 0, .int .i64 0, .int .i64 pa] 62))) := hidden (same_alloc _ _)
  have l1 : (be 1 2).length = 1 := by simp [be_length]
  have l2 : ((be 1 2) ++ be 4 0).length = 5 := by simp [be_length]
  have l3 : (((be 1 2) ++ be 4 0) ++ be 4 0).length = 9 := by simp [be_length]
  have g1 : ∀ B g w, WS B g 16 ([], false) w → Calls Tryz.prog 144 #[.pointer (some ⟨g, 0, none⟩), .int .u8 2] w fun e w' => e = .returned (.tuple #[]) ∧ WS B g 16 (be 1 2, false) w' ∧ Kept (wrS B g) w w' := fun B g w h => fitU8 h 2 (by decide) (by decide) (by decide)
  have g2 : ∀ B g w, WS B g 16 (be 1 2, false) w → Calls Tryz.prog 134 #[.pointer (some ⟨g, 0, none⟩), .int .u32 0] w fun e w' => e = .returned (.tuple #[]) ∧ WS B g 16 ((be 1 2) ++ be 4 0, false) w' ∧ Kept (wrS B g) w w' := fun B g w h => fitU32 h 0 (by decide) (by rw [l1]; decide) (by rw [l1]; decide)
  have g3 : ∀ B g w, WS B g 16 ((be 1 2) ++ be 4 0, false) w → Calls Tryz.prog 134 #[.pointer (some ⟨g, 0, none⟩), .int .u32 0] w fun e w' => e = .returned (.tuple #[]) ∧ WS B g 16 (((be 1 2) ++ be 4 0) ++ be 4 0, false) w' ∧ Kept (wrS B g) w w' := fun B g w h => fitU32 h 0 (by decide) (by rw [l2]; decide) (by rw [l2]; decide)
  have g4 : ∀ B g w, WS B g 16 (((be 1 2) ++ be 4 0) ++ be 4 0, false) w → Calls Tryz.prog 134 #[.pointer (some ⟨g, 0, none⟩), .int .u32 (pa : Nat)] w fun e w' => e = .returned (.tuple #[]) ∧ WS B g 16 (inB 2 pa, false) w' ∧ Kept (wrS B g) w w' := fun B g w h => fitU32 h pa hpa (by rw [l3]; decide) (by rw [l3]; decide)
  clear l1 l2 l3 hpa
  have hV : iV 2 pa = ⟨(inB 2 pa).toArray⟩ := rfl
  rw [hV]
  clear hV
  generalize inB 2 pa = H4 at *
  generalize ((be 1 2) ++ be 4 0) ++ be 4 0 = H3 at *
  generalize (be 1 2) ++ be 4 0 = H2 at *
  generalize be 1 2 = H1 at *
  have G1 := hidden g1
  have G2 := hidden g2
  have G3 := hidden g3
  have G4 := hidden g4
  clear g1 g2 g3 g4
  go_enter Tryz.func84, Tryz.ntmps84
  go_wp2_with (first
    | (go_at_call 133; refine (newW 16 _ (by omega) (by omega)).mono ?_; rintro e w1 ⟨rfl, s1, k1, z1⟩; clear z1; replace s1 : WS (w.heap.size + 1) (w.heap.size + 1) 16 ([], false) w1 := (by simpa using s1)
       have b1 := blk_kept k1 (fun h => h) (blk_new w (.cells #[.int .i64 nu, .bool true, .int .i64 0, .int .i64 0, .int .i64 pa] 62))
       skip
       have K1 := hidden (K0.out.trans k1)
       have B1 := hidden b1
       have t1 : True := trivial
       clear b1 k1)
    | (go_at_call 144; have _t := t1; refine (G1.out _ _ _ s1).mono ?_; rintro e w2 ⟨rfl, s2, k2⟩; clear s1 t1; have K2 := hidden (Same.wr K1.out k2 (by omega) (by omega)); have b2 := blk_kept k2 (fun h => by rcases h with h | h <;> omega) B1.out; have x2 : w2.cell? ⟨w.heap.size, 2, none⟩ = some (.int .i64 0) := blk_cell b2; have B2 := hidden b2; have t2 : True := trivial; clear k2 b2)
    | (go_at_call 134; have _t := t2; refine (G2.out _ _ _ s2).mono ?_; rintro e w3 ⟨rfl, s3, k3⟩; clear s2 t2; have K3 := hidden (Same.wr K2.out k3 (by omega) (by omega)); have b3 := blk_kept k3 (fun h => by rcases h with h | h <;> omega) B2.out; have x3 : w3.cell? ⟨w.heap.size, 3, none⟩ = some (.int .i64 0) := blk_cell b3; have B3 := hidden b3; have t3 : True := trivial; clear k3 b3)
    | (go_at_call 134; have _t := t3; refine (G3.out _ _ _ s3).mono ?_; rintro e w4 ⟨rfl, s4, k4⟩; clear s3 t3; have K4 := hidden (Same.wr K3.out k4 (by omega) (by omega)); have b4 := blk_kept k4 (fun h => by rcases h with h | h <;> omega) B3.out; have x4 : w4.cell? ⟨w.heap.size, 4, none⟩ = some (.int .i64 pa) := blk_cell b4; have B4 := hidden b4; have t4 : True := trivial; clear k4 b4)
    | (go_at_call 134; have _t := t4; refine (G4.out _ _ _ s4).mono ?_; rintro e w5 ⟨rfl, s5, k5⟩; clear s4 t4; have K5 := hidden (Same.wr K4.out k5 (by omega) (by omega)); have b5 := blk_kept k5 (fun h => by rcases h with h | h <;> omega) B4.out; have B5 := hidden b5; have t5 : True := trivial; clear k5 b5)
    | (go_at_call 135; refine (fitDone s5).mono ?_; rintro e w6 ⟨rfl, rfl⟩))
  go_returns
  exact ⟨rfl, K5.out⟩

set_option maxHeartbeats 1000000 in
set_option maxRecDepth 100000 in
theorem inodeText_false (nu : Int) (pa : Nat) (hpa : pa < 4294967296) (w : World) : Calls Tryz.prog 84 #[.agg #[.int .i64 nu, .bool false, .int .i64 0, .int .i64 0, .int .i64 pa]] w fun e w' => e = .returned (.string (iV 1 pa)) ∧ Same w w' := by
  have hw : IntKind.u32.wrap (pa : Int) = (pa : Int) := by simp [IntKind.wrap, IntKind.signed, IntKind.bits]; omega
  have K0 : Hid (Same w (w.alloc (.cells #[.int .i64 nu, .bool false, .int .i64 0, .int .i64 0, .int .i64 pa] 62))) := hidden (same_alloc _ _)
  have l1 : (be 1 1).length = 1 := by simp [be_length]
  have l2 : ((be 1 1) ++ be 4 0).length = 5 := by simp [be_length]
  have l3 : (((be 1 1) ++ be 4 0) ++ be 4 0).length = 9 := by simp [be_length]
  have g1 : ∀ B g w, WS B g 16 ([], false) w → Calls Tryz.prog 144 #[.pointer (some ⟨g, 0, none⟩), .int .u8 1] w fun e w' => e = .returned (.tuple #[]) ∧ WS B g 16 (be 1 1, false) w' ∧ Kept (wrS B g) w w' := fun B g w h => fitU8 h 1 (by decide) (by decide) (by decide)
  have g2 : ∀ B g w, WS B g 16 (be 1 1, false) w → Calls Tryz.prog 134 #[.pointer (some ⟨g, 0, none⟩), .int .u32 0] w fun e w' => e = .returned (.tuple #[]) ∧ WS B g 16 ((be 1 1) ++ be 4 0, false) w' ∧ Kept (wrS B g) w w' := fun B g w h => fitU32 h 0 (by decide) (by rw [l1]; decide) (by rw [l1]; decide)
  have g3 : ∀ B g w, WS B g 16 ((be 1 1) ++ be 4 0, false) w → Calls Tryz.prog 134 #[.pointer (some ⟨g, 0, none⟩), .int .u32 0] w fun e w' => e = .returned (.tuple #[]) ∧ WS B g 16 (((be 1 1) ++ be 4 0) ++ be 4 0, false) w' ∧ Kept (wrS B g) w w' := fun B g w h => fitU32 h 0 (by decide) (by rw [l2]; decide) (by rw [l2]; decide)
  have g4 : ∀ B g w, WS B g 16 (((be 1 1) ++ be 4 0) ++ be 4 0, false) w → Calls Tryz.prog 134 #[.pointer (some ⟨g, 0, none⟩), .int .u32 (pa : Nat)] w fun e w' => e = .returned (.tuple #[]) ∧ WS B g 16 (inB 1 pa, false) w' ∧ Kept (wrS B g) w w' := fun B g w h => fitU32 h pa hpa (by rw [l3]; decide) (by rw [l3]; decide)
  clear l1 l2 l3 hpa
  have hV : iV 1 pa = ⟨(inB 1 pa).toArray⟩ := rfl
  rw [hV]
  clear hV
  generalize inB 1 pa = H4 at *
  generalize ((be 1 1) ++ be 4 0) ++ be 4 0 = H3 at *
  generalize (be 1 1) ++ be 4 0 = H2 at *
  generalize be 1 1 = H1 at *
  have G1 := hidden g1
  have G2 := hidden g2
  have G3 := hidden g3
  have G4 := hidden g4
  clear g1 g2 g3 g4
  go_enter Tryz.func84, Tryz.ntmps84
  go_wp2_with (first
    | (go_at_call 133; refine (newW 16 _ (by omega) (by omega)).mono ?_; rintro e w1 ⟨rfl, s1, k1, z1⟩; clear z1; replace s1 : WS (w.heap.size + 1) (w.heap.size + 1) 16 ([], false) w1 := (by simpa using s1)
       have b1 := blk_kept k1 (fun h => h) (blk_new w (.cells #[.int .i64 nu, .bool false, .int .i64 0, .int .i64 0, .int .i64 pa] 62))
       skip
       have K1 := hidden (K0.out.trans k1)
       have B1 := hidden b1
       have t1 : True := trivial
       clear b1 k1)
    | (go_at_call 144; have _t := t1; refine (G1.out _ _ _ s1).mono ?_; rintro e w2 ⟨rfl, s2, k2⟩; clear s1 t1; have K2 := hidden (Same.wr K1.out k2 (by omega) (by omega)); have b2 := blk_kept k2 (fun h => by rcases h with h | h <;> omega) B1.out; have x2 : w2.cell? ⟨w.heap.size, 2, none⟩ = some (.int .i64 0) := blk_cell b2; have B2 := hidden b2; have t2 : True := trivial; clear k2 b2)
    | (go_at_call 134; have _t := t2; refine (G2.out _ _ _ s2).mono ?_; rintro e w3 ⟨rfl, s3, k3⟩; clear s2 t2; have K3 := hidden (Same.wr K2.out k3 (by omega) (by omega)); have b3 := blk_kept k3 (fun h => by rcases h with h | h <;> omega) B2.out; have x3 : w3.cell? ⟨w.heap.size, 3, none⟩ = some (.int .i64 0) := blk_cell b3; have B3 := hidden b3; have t3 : True := trivial; clear k3 b3)
    | (go_at_call 134; have _t := t3; refine (G3.out _ _ _ s3).mono ?_; rintro e w4 ⟨rfl, s4, k4⟩; clear s3 t3; have K4 := hidden (Same.wr K3.out k4 (by omega) (by omega)); have b4 := blk_kept k4 (fun h => by rcases h with h | h <;> omega) B3.out; have x4 : w4.cell? ⟨w.heap.size, 4, none⟩ = some (.int .i64 pa) := blk_cell b4; have B4 := hidden b4; have t4 : True := trivial; clear k4 b4)
    | (go_at_call 134; have _t := t4; refine (G4.out _ _ _ s4).mono ?_; rintro e w5 ⟨rfl, s5, k5⟩; clear s4 t4; have K5 := hidden (Same.wr K4.out k5 (by omega) (by omega)); have b5 := blk_kept k5 (fun h => by rcases h with h | h <;> omega) B4.out; have B5 := hidden b5; have t5 : True := trivial; clear k5 b5)
    | (go_at_call 135; refine (fitDone s5).mono ?_; rintro e w6 ⟨rfl, rfl⟩))
  go_returns
  exact ⟨rfl, K5.out⟩

/-- What a Put into a leaf asks, and what the leaf is then. -/
structure PutOk (n : Nd) (key value : ByteArray) (m : Nd) : Prop where
  hk : mayK key = true
  hv : mayV value = true
  hl : n.leaf = true
  hb : n.Bd
  big : n.keys.length ≤ 8796093022206
  hq : n.has key = false ∨ (n.has key = true ∧ ∃ x, n.vals[n.cnt key]? = some x ∧ x ≠ value)
  hp : n.put key value = (m, 0)
  ml : m.leaf = true
  mb : m.Bd
  ms : 16 + (m.keys.map fun k => 2 + k.size).sum + (m.vals.map fun v => v.size).sum ≤ 512
theorem tput (n : Nd) (a1 a2 a3 : Option Addr) (k1 c1 k2 c2 k3 c3 : Nat) {key value : ByteArray} {m : Nd} (h : PutOk n key value m) (w : World) (g p : Nat) (ht : LT w g p n a1 a2 a3 k1 c1 k2 c2 k3 c3) :
    Calls Tryz.prog 9 #[.pointer (some ⟨g, 0, none⟩), .string key, .string value] w fun e w' => ∃ u, e = .returned u ∧ ChP w m u w' :=
  tput_ins n a1 a2 a3 k1 c1 k2 c2 k3 c3 w g p key value ht h.hk h.hv h.hl h.hb h.big h.hq m h.hp h.ml h.mb h.ms

set_option maxHeartbeats 1000000 in
set_option maxRecDepth 100000 in
theorem cput (n : Nd) (a1 a2 a3 : Option Addr) (k1 c1 k2 c2 k3 c3 : Nat) (i : Nat) (hi : i < 4294967296) {m : Nd} (h : PutOk n kS (cV i) m) (w : World) (g p : Nat) (ht : LT w g p n a1 a2 a3 k1 c1 k2 c2 k3 c3) :
    Calls Tryz.prog 87 #[.agg #[.int .i64 i, .int .i64 1, .int .i64 1], .pointer (some ⟨g, 0, none⟩)] w fun e w' => ∃ u, e = .returned u ∧ ChP w m u w' := by
  have hw : IntKind.u32.wrap (i : Int) = (i : Int) := by simp [IntKind.wrap, IntKind.signed, IntKind.bits]; omega
  have HPK := hidden (fun W => prefixKey_any 115 (by decide) W)
  have HPu := hidden (fun W (k : Same w W) => tput n a1 a2 a3 k1 c1 k2 c2 k3 c3 h W g p (ht.same k))
  have K0 : Hid (Same w (w.alloc (.cells #[.int .i64 i, .int .i64 1, .int .i64 1] 160))) := hidden (same_alloc _ _)
  have l1 : (be 4 i).length = 4 := by simp [be_length]
  have l2 : ((be 4 i) ++ be 4 1).length = 8 := by simp [be_length]
  have g1 : ∀ B g w, WS B g 16 ([], false) w → Calls Tryz.prog 134 #[.pointer (some ⟨g, 0, none⟩), .int .u32 (i : Nat)] w fun e w' => e = .returned (.tuple #[]) ∧ WS B g 16 (be 4 i, false) w' ∧ Kept (wrS B g) w w' := fun B g w h => fitU32 h i hi (by decide) (by decide)
  have g2 : ∀ B g w, WS B g 16 (be 4 i, false) w → Calls Tryz.prog 134 #[.pointer (some ⟨g, 0, none⟩), .int .u32 1] w fun e w' => e = .returned (.tuple #[]) ∧ WS B g 16 ((be 4 i) ++ be 4 1, false) w' ∧ Kept (wrS B g) w w' := fun B g w h => fitU32 h 1 (by decide) (by rw [l1]; decide) (by rw [l1]; decide)
  have g3 : ∀ B g w, WS B g 16 ((be 4 i) ++ be 4 1, false) w → Calls Tryz.prog 134 #[.pointer (some ⟨g, 0, none⟩), .int .u32 1] w fun e w' => e = .returned (.tuple #[]) ∧ WS B g 16 (ctB i, false) w' ∧ Kept (wrS B g) w w' := fun B g w h => fitU32 h 1 (by decide) (by rw [l2]; decide) (by rw [l2]; decide)
  clear l1 l2 hi h ht
  have hV : cV i = ⟨(ctB i).toArray⟩ := rfl
  have hS : (⟨(keyL 115 [] ⟨#[]⟩).toArray⟩ : ByteArray) = kS := rfl
  rw [hV] at HPu
  rw [hS] at HPK
  clear hV hS
  generalize ctB i = H3 at *
  generalize (be 4 i) ++ be 4 1 = H2 at *
  generalize be 4 i = H1 at *
  have G1 := hidden g1
  have G2 := hidden g2
  have G3 := hidden g3
  clear g1 g2 g3
  go_enter Tryz.func87, Tryz.ntmps87
  go_wp2_with (first
    | (go_at_call 133; refine (newW 16 _ (by omega) (by omega)).mono ?_; rintro e w1 ⟨rfl, s1, k1, z1⟩; clear z1; replace s1 : WS (w.heap.size + 1) (w.heap.size + 1) 16 ([], false) w1 := (by simpa using s1)
       have b1 := blk_kept k1 (fun h => h) (blk_new w (.cells #[.int .i64 i, .int .i64 1, .int .i64 1] 160))
       have x1 : w1.cell? ⟨w.heap.size, 0, none⟩ = some (.int .i64 i) := blk_cell b1
       have K1 := hidden (K0.out.trans k1)
       have B1 := hidden b1
       have t1 : True := trivial
       clear b1 k1)
    | (go_at_call 134; have _t := t1; refine (G1.out _ _ _ s1).mono ?_; rintro e w2 ⟨rfl, s2, k2⟩; clear s1 t1; have K2 := hidden (Same.wr K1.out k2 (by omega) (by omega)); have b2 := blk_kept k2 (fun h => by rcases h with h | h <;> omega) B1.out; have x2 : w2.cell? ⟨w.heap.size, 1, none⟩ = some (.int .i64 1) := blk_cell b2; have B2 := hidden b2; have t2 : True := trivial; clear k2 b2)
    | (go_at_call 134; have _t := t2; refine (G2.out _ _ _ s2).mono ?_; rintro e w3 ⟨rfl, s3, k3⟩; clear s2 t2; have K3 := hidden (Same.wr K2.out k3 (by omega) (by omega)); have b3 := blk_kept k3 (fun h => by rcases h with h | h <;> omega) B2.out; have x3 : w3.cell? ⟨w.heap.size, 2, none⟩ = some (.int .i64 1) := blk_cell b3; have B3 := hidden b3; have t3 : True := trivial; clear k3 b3)
    | (go_at_call 134; have _t := t3; refine (G3.out _ _ _ s3).mono ?_; rintro e w4 ⟨rfl, s4, k4⟩; clear s3 t3; have K4 := hidden (Same.wr K3.out k4 (by omega) (by omega)); have b4 := blk_kept k4 (fun h => by rcases h with h | h <;> omega) B3.out; have B4 := hidden b4; have t4 : True := trivial; clear k4 b4)
    | (go_at_call 135; refine (fitDone s4).mono ?_; rintro e w5 ⟨rfl, rfl⟩)
    | (go_at_call 95; refine (HPK.out _).mono ?_; rintro e w6 ⟨rfl, q6⟩; have K6 := hidden (K4.out.trans q6); clear q6)
    | (go_at_call 9; refine (HPu.out _ K6.out).mono ?_; rintro e w7 ⟨u, rfl, ⟨g', q', y1, y2, y3, e1, e2, e3, rfl, hlt, q7⟩⟩; have HLT := hidden hlt; have K7 := hidden (K6.out.trans q7); clear q7 hlt))
  go_returns
  exact ⟨_, rfl, ⟨⟨g', q', y1, y2, y3, e1, e2, e3, rfl, HLT.out, K7.out⟩⟩⟩
end Go.Proofs.YtmlibjohhgpniaaGreatDoor
