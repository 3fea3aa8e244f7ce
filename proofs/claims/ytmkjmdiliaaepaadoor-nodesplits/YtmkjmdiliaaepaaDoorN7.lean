/- node: a head's text. -/
import Derived.Test.YtmkjmdiliaaepaaDoorN6
namespace Go.Proofs.YtmkjmdiliaaepaaDoor
open Go.RowKit
set_option linter.unusedVariables false
set_option linter.unusedSimpArgs false
def hd4 : List UInt8 := [68, 78, 79, 68]
def headB (k ks bs sm : Nat) : List UInt8 := ((((hd4 ++ be 1 k) ++ be 1 0) ++ be 2 ks) ++ be 4 bs) ++ be 4 sm
theorem headB_len (k ks bs sm : Nat) : (headB k ks bs sm).length = 16 := by simp [headB, hd4, be_length]
set_option maxHeartbeats 1000000 in
set_option maxRecDepth 100000 in
theorem text_any (k ks bs sm : Nat) (hk : k < 256) (hks : ks < 65536) (hbs : bs < 4294967296) (hsm : sm < 4294967296) (w : World) :
    Calls Tryd.prog 34 #[.agg #[.int .u8 68, .int .u8 78, .int .u8 79, .int .u8 68, .int .u8 k, .int .u8 0, .int .u16 ks, .int .u32 bs, .int .u32 sm]] w fun e w' => e = .returned (.string ⟨(headB k ks bs sm).toArray⟩) ∧ Same w w' := by
  have K0 : Hid (Same w (w.alloc (.cells #[.int .u8 68, .int .u8 78, .int .u8 79, .int .u8 68, .int .u8 k, .int .u8 0, .int .u16 ks, .int .u32 bs, .int .u32 sm] 62))) := hidden (same_alloc _ _)
  have l5 : (hd4 ++ be 1 k).length = 5 := by simp [hd4, be_length]
  have l6 : ((hd4 ++ be 1 k) ++ be 1 0).length = 6 := by simp [hd4, be_length]
  have l8 : (((hd4 ++ be 1 k) ++ be 1 0) ++ be 2 ks).length = 8 := by simp [hd4, be_length]
  have l12 : ((((hd4 ++ be 1 k) ++ be 1 0) ++ be 2 ks) ++ be 4 bs).length = 12 := by simp [hd4, be_length]
  have g1 : ∀ B g w, WS B g 16 ([], false) w → Calls Tryd.prog 61 #[.pointer (some ⟨g, 0, none⟩), .string ⟨hd4.toArray⟩] w fun e w' => e = .returned (.tuple #[]) ∧ WS B g 16 (hd4, false) w' ∧ Kept (wrS B g) w w' := fun B g w h => by
    have := fitRaw h ⟨hd4.toArray⟩ (by decide) (by decide)
    rw [ba_list, List.nil_append] at this
    exact this
  have g2 : ∀ B g w, WS B g 16 (hd4, false) w → Calls Tryd.prog 60 #[.pointer (some ⟨g, 0, none⟩), .int .u8 (k : Nat)] w fun e w' => e = .returned (.tuple #[]) ∧ WS B g 16 (hd4 ++ be 1 k, false) w' ∧ Kept (wrS B g) w w' := fun B g w h => fitU8 h k hk (by decide) (by decide)
  have g3 : ∀ B g w, WS B g 16 (hd4 ++ be 1 k, false) w → Calls Tryd.prog 60 #[.pointer (some ⟨g, 0, none⟩), .int .u8 0] w fun e w' => e = .returned (.tuple #[]) ∧ WS B g 16 ((hd4 ++ be 1 k) ++ be 1 0, false) w' ∧ Kept (wrS B g) w w' := fun B g w h => fitU8 h 0 (by decide) (by rw [l5]; decide) (by rw [l5]; decide)
  have g4 : ∀ B g w, WS B g 16 ((hd4 ++ be 1 k) ++ be 1 0, false) w → Calls Tryd.prog 64 #[.pointer (some ⟨g, 0, none⟩), .int .u16 (ks : Nat)] w fun e w' => e = .returned (.tuple #[]) ∧ WS B g 16 (((hd4 ++ be 1 k) ++ be 1 0) ++ be 2 ks, false) w' ∧ Kept (wrS B g) w w' := fun B g w h => fitU16 h ks hks (by rw [l6]; decide) (by rw [l6]; decide)
  have g5 : ∀ B g w, WS B g 16 (((hd4 ++ be 1 k) ++ be 1 0) ++ be 2 ks, false) w → Calls Tryd.prog 59 #[.pointer (some ⟨g, 0, none⟩), .int .u32 (bs : Nat)] w fun e w' => e = .returned (.tuple #[]) ∧ WS B g 16 ((((hd4 ++ be 1 k) ++ be 1 0) ++ be 2 ks) ++ be 4 bs, false) w' ∧ Kept (wrS B g) w w' := fun B g w h => fitU32 h bs hbs (by rw [l8]; decide) (by rw [l8]; decide)
  have g6 : ∀ B g w, WS B g 16 ((((hd4 ++ be 1 k) ++ be 1 0) ++ be 2 ks) ++ be 4 bs, false) w → Calls Tryd.prog 59 #[.pointer (some ⟨g, 0, none⟩), .int .u32 (sm : Nat)] w fun e w' => e = .returned (.tuple #[]) ∧ WS B g 16 (headB k ks bs sm, false) w' ∧ Kept (wrS B g) w w' := fun B g w h => fitU32 h sm hsm (by rw [l12]; decide) (by rw [l12]; decide)
  clear l5 l6 l8 l12 hk hks hbs hsm
  generalize headB k ks bs sm = H16 at *
  generalize (((hd4 ++ be 1 k) ++ be 1 0) ++ be 2 ks) ++ be 4 bs = H12 at *
  generalize ((hd4 ++ be 1 k) ++ be 1 0) ++ be 2 ks = H8 at *
  generalize (hd4 ++ be 1 k) ++ be 1 0 = H6 at *
  generalize hd4 ++ be 1 k = H5 at *
  have G1 := hidden g1
  have G2 := hidden g2
  have G3 := hidden g3
  have G4 := hidden g4
  have G5 := hidden g5
  have G6 := hidden g6
  clear g1 g2 g3 g4 g5 g6
  go_enter Tryd.func34, Tryd.ntmps34
  go_wp2_with (first
    | (go_at_call 58; refine (newW 16 _ (by omega) (by omega)).mono ?_; rintro e w1 ⟨rfl, s1, k1, z1⟩; clear z1; replace s1 : WS (w.heap.size + 1) (w.heap.size + 1) 16 ([], false) w1 := (by simpa using s1)
       have b1 := blk_kept k1 (fun h => h) (blk_new w (.cells #[.int .u8 68, .int .u8 78, .int .u8 79, .int .u8 68, .int .u8 k, .int .u8 0, .int .u16 ks, .int .u32 bs, .int .u32 sm] 62))
       have hbt : Bt w1 (.slice (some ⟨w.heap.size, 0, none⟩) 4 4) hd4 := ⟨some ⟨w.heap.size, 0, none⟩, 4, rfl, by decide, fun _ => ⟨w.heap.size, 0, rfl, fun j hj => by have hj4 : j < 4 := hj; rw [Nat.zero_add, blk_cell b1]; rcases j with _ | _ | _ | _ | j <;> first | rfl | omega⟩⟩
       have htx := hbt.text
       have K1 := hidden (K0.out.trans k1)
       have B1 := hidden b1
       have t1 : True := trivial
       clear hbt b1 k1)
    | (go_at_call 61; have _t := t1; refine (G1.out _ _ _ s1).mono ?_; rintro e w2 ⟨rfl, s2, k2⟩; clear s1 t1; have K2 := hidden (Same.wr K1.out k2 (by omega) (by omega)); have b2 := blk_kept k2 (fun h => by rcases h with h | h <;> omega) B1.out; have x2 : w2.cell? ⟨w.heap.size, 4, none⟩ = some (.int .u8 k) := blk_cell b2; have B2 := hidden b2; have t2 : True := trivial; clear k2 b2)
    | (go_at_call 60; have _t := t2; refine (G2.out _ _ _ s2).mono ?_; rintro e w3 ⟨rfl, s3, k3⟩; clear s2 t2; have K3 := hidden (Same.wr K2.out k3 (by omega) (by omega)); have b3 := blk_kept k3 (fun h => by rcases h with h | h <;> omega) B2.out; have x3 : w3.cell? ⟨w.heap.size, 5, none⟩ = some (.int .u8 0) := blk_cell b3; have B3 := hidden b3; have t3 : True := trivial; clear k3 b3)
    | (go_at_call 60; have _t := t3; refine (G3.out _ _ _ s3).mono ?_; rintro e w4 ⟨rfl, s4, k4⟩; clear s3 t3; have K4 := hidden (Same.wr K3.out k4 (by omega) (by omega)); have b4 := blk_kept k4 (fun h => by rcases h with h | h <;> omega) B3.out; have x4 : w4.cell? ⟨w.heap.size, 6, none⟩ = some (.int .u16 ks) := blk_cell b4; have B4 := hidden b4; have t4 : True := trivial; clear k4 b4)
    | (go_at_call 64; have _t := t4; refine (G4.out _ _ _ s4).mono ?_; rintro e w5 ⟨rfl, s5, k5⟩; clear s4 t4; have K5 := hidden (Same.wr K4.out k5 (by omega) (by omega)); have b5 := blk_kept k5 (fun h => by rcases h with h | h <;> omega) B4.out; have x5 : w5.cell? ⟨w.heap.size, 7, none⟩ = some (.int .u32 bs) := blk_cell b5; have B5 := hidden b5; have t5 : True := trivial; clear k5 b5)
    | (go_at_call 59; have _t := t5; refine (G5.out _ _ _ s5).mono ?_; rintro e w6 ⟨rfl, s6, k6⟩; clear s5 t5; have K6 := hidden (Same.wr K5.out k6 (by omega) (by omega)); have b6 := blk_kept k6 (fun h => by rcases h with h | h <;> omega) B5.out; have x6 : w6.cell? ⟨w.heap.size, 8, none⟩ = some (.int .u32 sm) := blk_cell b6; have B6 := hidden b6; have t6 : True := trivial; clear k6 b6)
    | (go_at_call 59; have _t := t6; refine (G6.out _ _ _ s6).mono ?_; rintro e w7 ⟨rfl, s7, k7⟩; clear s6 t6; have K7 := hidden (Same.wr K6.out k7 (by omega) (by omega)); have b7 := blk_kept k7 (fun h => by rcases h with h | h <;> omega) B6.out; have B7 := hidden b7; have t7 : True := trivial; clear k7 b7)
    | (go_at_call 62; refine (fitDone s7).mono ?_; rintro e w8 ⟨rfl, rfl⟩))
  go_returns
  exact ⟨rfl, K7.out⟩
end Go.Proofs.YtmkjmdiliaaepaaDoor
