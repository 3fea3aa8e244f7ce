/- A frame's bytes; writes for which there is room. -/
import Derived.Test.YtilkpboegpfijaaDoorNumR
import Derived.Test.YtilkpboegpfijaaDoorUnf
namespace Go.Proofs.YtilkpboegpfijaaDoor
open Go.RowKit
set_option linter.unusedVariables false

/-- A frame but for its sum. -/
def fhead (kind : Nat) (body : ByteArray) : List UInt8 := [68, 70] ++ be 1 kind ++ be 1 0 ++ be 4 body.size ++ body.data.toList
def frameL (kind : Nat) (body : ByteArray) : List UInt8 := fhead kind body ++ be 4 (crc (fhead kind body))
theorem fhead_len (kind : Nat) (body : ByteArray) : (fhead kind body).length = 8 + body.size := by
  simp only [fhead, List.length_append, be_length, size_list, List.length_cons, List.length_nil]
theorem frameL_len (kind : Nat) (body : ByteArray) : (frameL kind body).length = 12 + body.size := by
  rw [frameL, List.length_append, fhead_len, be_length]; omega
theorem fit {most : Int} {bs new : List UInt8} (h : (bs.length : Int) + new.length ≤ most) : wput most (bs, false) new = (bs ++ new, false) := by
  unfold wput
  rw [if_pos]
  simp only [wOk, Bool.not_false, Bool.true_and, decide_eq_true_eq]
  omega
theorem fitRaw {B g : Nat} {most : Int} {bs : List UInt8} {w : World} (h : WS B g most (bs, false) w) (s : ByteArray) (hf : (bs.length : Int) + s.size ≤ most) (hl : bs.length + s.size ≤ 140737488355328) :
    Calls Tryd.prog 37 #[.pointer (some ⟨g, 0, none⟩), .string s] w fun e w' => e = .returned (.tuple #[]) ∧ WS B g most (bs ++ s.data.toList, false) w' ∧ Kept (wrS B g) w w' := by
  have k := wRaw h s hl
  rw [fit (by rw [size_list]; exact hf)] at k
  exact k
theorem fitU8 {B g : Nat} {most : Int} {bs : List UInt8} {w : World} (h : WS B g most (bs, false) w) (n : Nat) (hn : n < 256) (hf : (bs.length : Int) + 1 ≤ most) (hl : bs.length + 1 ≤ 140737488355328) :
    Calls Tryd.prog 33 #[.pointer (some ⟨g, 0, none⟩), .int .u8 n] w fun e w' => e = .returned (.tuple #[]) ∧ WS B g most (bs ++ be 1 n, false) w' ∧ Kept (wrS B g) w w' := by
  have k := wU8 h n hn hl
  rw [fit (by rw [be_length]; exact hf)] at k
  exact k
theorem fitU32 {B g : Nat} {most : Int} {bs : List UInt8} {w : World} (h : WS B g most (bs, false) w) (n : Nat) (hn : n < 4294967296) (hf : (bs.length : Int) + 4 ≤ most) (hl : bs.length + 4 ≤ 140737488355328) :
    Calls Tryd.prog 35 #[.pointer (some ⟨g, 0, none⟩), .int .u32 n] w fun e w' => e = .returned (.tuple #[]) ∧ WS B g most (bs ++ be 4 n, false) w' ∧ Kept (wrS B g) w w' := by
  have k := wU32 h n hn hl
  rw [fit (by rw [be_length]; exact hf)] at k
  exact k
theorem fitU64 {B g : Nat} {most : Int} {bs : List UInt8} {w : World} (h : WS B g most (bs, false) w) (n : Nat) (hn : n < 18446744073709551616) (hf : (bs.length : Int) + 8 ≤ most) (hl : bs.length + 8 ≤ 140737488355328) :
    Calls Tryd.prog 36 #[.pointer (some ⟨g, 0, none⟩), .int .u64 n] w fun e w' => e = .returned (.tuple #[]) ∧ WS B g most (bs ++ be 8 n, false) w' ∧ Kept (wrS B g) w w' := by
  have k := wU64 h n hn hl
  rw [fit (by rw [be_length]; exact hf)] at k
  exact k
theorem fitDone {B g : Nat} {most : Int} {bs : List UInt8} {w : World} (h : WS B g most (bs, false) w) :
    Calls Tryd.prog 11 #[.pointer (some ⟨g, 0, none⟩)] w fun e w' => e = .returned (.tuple #[.string ⟨bs.toArray⟩, .int .i64 0]) ∧ w = w' := wDone h
set_option maxHeartbeats 400000 in
theorem frame_long (kind : Nat) (body : ByteArray) (w : World) (h : 1048576 < body.size) (hs : body.size ≤ 140737488355328) :
    Calls Tryd.prog 23 #[.int .u8 kind, .string body] w fun e w' => e = .returned (.tuple #[.string ⟨#[]⟩, .int .i64 3]) ∧ Same w w' := by
  go_enter Tryd.func23, Tryd.ntmps23
  go_wp2
  go_returns
  exact ⟨rfl, Kept.refl _ _⟩
theorem ba_list (l : List UInt8) : (⟨l.toArray⟩ : ByteArray).data.toList = l := by simp
theorem ba_size (l : List UInt8) : (⟨l.toArray⟩ : ByteArray).size = l.length := by rw [← size_list, ba_list]
set_option maxHeartbeats 2000000 in
set_option maxRecDepth 100000 in
theorem frame_in (kind : Nat) (body : ByteArray) (w : World) (hk : kind < 256) (h : body.size ≤ 1048576) (hT : Tab w) :
    Calls Tryd.prog 23 #[.int .u8 kind, .string body] w fun e w' => e = .returned (.tuple #[.string ⟨(frameL kind body).toArray⟩, .int .i64 0]) ∧ Same w w' := by
  have l1 := be_length 1 kind
  have l2 := be_length 1 0
  have l3 := be_length 4 body.size
  have l4 := fhead_len kind body
  have f3 : ([68, 70] ++ be 1 kind : List UInt8).length = 3 := by rw [List.length_append, l1]; rfl
  have f4 : ([68, 70] ++ be 1 kind ++ be 1 0 : List UInt8).length = 4 := by rw [List.length_append, f3, l2]
  have f8 : ([68, 70] ++ be 1 kind ++ be 1 0 ++ be 4 body.size : List UInt8).length = 8 := by rw [List.length_append, f4, l3]
  have g1 : ∀ B g w, WS B g (8 + (body.size : Int) + 4) ([], false) w → Calls Tryd.prog 37 #[.pointer (some ⟨g, 0, none⟩), .string ⟨#[68, 70]⟩] w fun e w' => e = .returned (.tuple #[]) ∧ WS B g (8 + (body.size : Int) + 4) ([68, 70], false) w' ∧ Kept (wrS B g) w w' := fun B g w h => fitRaw h ⟨#[68, 70]⟩ (by rw [show (⟨#[68, 70]⟩ : ByteArray).size = 2 from rfl]; simp; omega) (by decide)
  have g2 : ∀ B g w, WS B g (8 + (body.size : Int) + 4) ([68, 70], false) w → _ := fun B g w h => fitU8 h kind hk (by rw [show ([68, 70] : List UInt8).length = 2 from rfl]; omega) (by decide)
  have g3 : ∀ B g w, WS B g (8 + (body.size : Int) + 4) ([68, 70] ++ be 1 kind, false) w → _ := fun B g w h => fitU8 h 0 (by decide) (by rw [f3]; omega) (by rw [f3]; decide)
  have g4 : ∀ B g w, WS B g (8 + (body.size : Int) + 4) ([68, 70] ++ be 1 kind ++ be 1 0, false) w → _ := fun B g w h => fitU32 h body.size (by omega) (by rw [f4]; omega) (by rw [f4]; decide)
  have g5 : ∀ B g w, WS B g (8 + (body.size : Int) + 4) ([68, 70] ++ be 1 kind ++ be 1 0 ++ be 4 body.size, false) w → Calls Tryd.prog 37 #[.pointer (some ⟨g, 0, none⟩), .string body] w fun e w' => e = .returned (.tuple #[]) ∧ WS B g (8 + (body.size : Int) + 4) (fhead kind body, false) w' ∧ Kept (wrS B g) w w' := fun B g w h => fitRaw h body (by rw [f8]; omega) (by rw [f8]; omega)
  have g6 := fun w h => crc_any ⟨(fhead kind body).toArray⟩ w (by rw [ba_size, fhead_len]; omega) h
  rw [ba_list] at g6
  have hc4 := crc_lt (fhead kind body)
  have g7 : ∀ B g w, WS B g (8 + (body.size : Int) + 4) (fhead kind body, false) w → Calls Tryd.prog 35 #[.pointer (some ⟨g, 0, none⟩), .int .u32 (crc (fhead kind body) : Nat)] w fun e w' => e = .returned (.tuple #[]) ∧ WS B g (8 + (body.size : Int) + 4) (frameL kind body, false) w' ∧ Kept (wrS B g) w w' := fun B g w h => fitU32 h _ hc4 (by rw [l4]; omega) (by rw [l4]; omega)
  clear l1 l2 l3 l4 f3 f4 f8
  generalize frameL kind body = L at *
  generalize fhead kind body = F at *
  generalize crc F = c at *
  generalize ([68, 70] ++ be 1 kind ++ be 1 0 ++ be 4 body.size : List UInt8) = L8 at *
  generalize ([68, 70] ++ be 1 kind ++ be 1 0 : List UInt8) = L4 at *
  generalize ([68, 70] ++ be 1 kind : List UInt8) = L3 at *
  have HT := hidden hT
  have G1 := hidden g1
  have G2 := hidden g2
  have G3 := hidden g3
  have G4 := hidden g4
  have G5 := hidden g5
  have G6 := hidden g6
  have G7 := hidden g7
  clear g1 g2 g3 g4 g5 g6 g7 hT
  have hlw : IntKind.u32.wrap (body.size : Int) = (body.size : Int) := by rw [IntKind.wrap_u32']; omega
  go_enter Tryd.func23, Tryd.ntmps23
  go_wp2_with (first
    | (go_at_call 7; refine (newW _ _ (by omega) (by omega)).mono ?_; rintro e w1 ⟨rfl, s1, k1, z1⟩; clear z1)
    | (go_at_call 37; refine (G1.out _ _ _ s1).mono ?_; rintro e w2 ⟨rfl, s2, k2⟩; clear s1)
    | (go_at_call 33; refine (G2.out _ _ _ s2).mono ?_; rintro e w3 ⟨rfl, s3, k3⟩; clear s2)
    | (go_at_call 33; refine (G3.out _ _ _ s3).mono ?_; rintro e w4 ⟨rfl, s4, k4⟩; clear s3)
    | (go_at_call 35; refine (G4.out _ _ _ s4).mono ?_; rintro e w5 ⟨rfl, s5, k5⟩; clear s4)
    | (go_at_call 37; refine (G5.out _ _ _ s5).mono ?_; rintro e w6 ⟨rfl, s6, k6⟩; have tok : True := trivial; clear s5)
    | (go_at_call 11; have _t := tok; refine (fitDone s6).mono ?_; rintro e w7 ⟨rfl, rfl⟩; clear tok)
    | (go_at_call 30; refine (G6.out _ (HT.out.same (Same.wr (Same.wr (Same.wr (Same.wr (Same.wr k1 k2 (Nat.le_refl _) (Nat.le_refl _)) k3 (Nat.le_refl _) (Nat.le_refl _)) k4 (Nat.le_refl _) (Nat.le_refl _)) k5 (Nat.le_refl _) (Nat.le_refl _)) k6 (Nat.le_refl _) (Nat.le_refl _)))).mono ?_; rintro e w7 ⟨rfl, rfl⟩)
    | (go_at_call 35; refine (G7.out _ _ _ s6).mono ?_; rintro e w7 ⟨rfl, s7, k7⟩; clear s6)
    | (go_at_call 11; refine (fitDone s7).mono ?_; rintro e w8 ⟨rfl, rfl⟩))
  go_returns
  exact ⟨rfl, Same.wr (Same.wr (Same.wr (Same.wr (Same.wr (Same.wr k1 k2 (Nat.le_refl _) (Nat.le_refl _)) k3 (Nat.le_refl _) (Nat.le_refl _)) k4 (Nat.le_refl _) (Nat.le_refl _)) k5 (Nat.le_refl _) (Nat.le_refl _)) k6 (Nat.le_refl _) (Nat.le_refl _)) k7 (Nat.le_refl _) (Nat.le_refl _)⟩
end Go.Proofs.YtilkpboegpfijaaDoor
