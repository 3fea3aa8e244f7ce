/- pack: a head's and a footer's bytes, the bytes ahead of a chunk. -/
import Derived.Test.YtafdkfieajdeiaaDoorK0
namespace Go.Proofs.YtafdkfieajdeiaaDoor
open Go.RowKit
set_option linter.unusedVariables false

def edge0 (l : List UInt8) (a b : Nat) : List UInt8 := l ++ be 4 a ++ be 4 b
def edgeB (l : List UInt8) (a b : Nat) : List UInt8 := edge0 l a b ++ be 4 (crc (edge0 l a b))
theorem edge0_len (l : List UInt8) (h : l.length = 4) (a b : Nat) : (edge0 l a b).length = 12 := by simp [edge0, be_length, h]
theorem edgeB_len (l : List UInt8) (h : l.length = 4) (a b : Nat) : (edgeB l a b).length = 16 := by rw [edgeB, List.length_append, edge0_len l h, be_length]
def slotB (c : List UInt8) : List UInt8 := be 4 c.length ++ be 4 (crc (be 4 c.length ++ c))
theorem slotB_len (c : List UInt8) : (slotB c).length = 8 := by simp [slotB, be_length]
set_option maxHeartbeats 1000000 in
set_option maxRecDepth 100000 in
theorem edge_any (l : List UInt8) (hl : l.length = 4) (a b : Nat) (ha : a < 4294967296) (hb : b < 4294967296) (w : World) (hT : Tab w) :
    Calls Tryd.prog 64 #[.string ⟨l.toArray⟩, .int .u32 a, .int .u32 b] w fun e w' => e = .returned (.string ⟨(edgeB l a b).toArray⟩) ∧ Same w w' := by
  have l12 := edge0_len l hl a b
  have l8 : (l ++ be 4 a).length = 8 := by rw [List.length_append, be_length, hl]
  have hls : (⟨l.toArray⟩ : ByteArray).size = 4 := by rw [ba_size, hl]
  have g1 : ∀ B g w, WS B g 16 ([], false) w → Calls Tryd.prog 76 #[.pointer (some ⟨g, 0, none⟩), .string ⟨l.toArray⟩] w fun e w' => e = .returned (.tuple #[]) ∧ WS B g 16 (l, false) w' ∧ Kept (wrS B g) w w' := fun B g w h => by
    have := fitRaw h ⟨l.toArray⟩ (by rw [hls]; decide) (by rw [hls]; decide)
    rw [ba_list, List.nil_append] at this
    exact this
  have g2 : ∀ B g w, WS B g 16 (l, false) w → _ := fun B g w h => fitU32 h a ha (by rw [hl]; decide) (by rw [hl]; decide)
  have g3 : ∀ B g w, WS B g 16 (l ++ be 4 a, false) w → Calls Tryd.prog 66 #[.pointer (some ⟨g, 0, none⟩), .int .u32 b] w fun e w' => e = .returned (.tuple #[]) ∧ WS B g 16 (edge0 l a b, false) w' ∧ Kept (wrS B g) w w' := fun B g w h => fitU32 h b hb (by rw [l8]; decide) (by rw [l8]; decide)
  have g6 := fun w h => crc_any ⟨(edge0 l a b).toArray⟩ w (by rw [ba_size, l12]; decide) h
  rw [ba_list] at g6
  have hc4 := crc_lt (edge0 l a b)
  have g7 : ∀ B g w, WS B g 16 (edge0 l a b, false) w → Calls Tryd.prog 66 #[.pointer (some ⟨g, 0, none⟩), .int .u32 (crc (edge0 l a b) : Nat)] w fun e w' => e = .returned (.tuple #[]) ∧ WS B g 16 (edgeB l a b, false) w' ∧ Kept (wrS B g) w w' := fun B g w h => fitU32 h _ hc4 (by rw [l12]; decide) (by rw [l12]; decide)
  clear l12 l8 hls hc4 hl
  generalize edgeB l a b = EB at *
  generalize crc (edge0 l a b) = c at *
  generalize edge0 l a b = E0 at *
  generalize l ++ be 4 a = L8 at *
  have HT := hidden hT
  have G1 := hidden g1
  have G2 := hidden g2
  have G3 := hidden g3
  have G6 := hidden g6
  have G7 := hidden g7
  clear hT g1 g2 g3 g6 g7
  go_enter Tryd.func64, Tryd.ntmps64
  go_wp2_with (first
    | (go_at_call 65; refine (newW 16 _ (by omega) (by omega)).mono ?_; rintro e w1 ⟨rfl, s1, k1, z1⟩; clear z1)
    | (go_at_call 76; refine (G1.out _ _ _ s1).mono ?_; rintro e w2 ⟨rfl, s2, k2⟩; clear s1)
    | (go_at_call 66; refine (G2.out _ _ _ s2).mono ?_; rintro e w3 ⟨rfl, s3, k3⟩; clear s2)
    | (go_at_call 66; refine (G3.out _ _ _ s3).mono ?_; rintro e w4 ⟨rfl, s4, k4⟩; clear s3; have tok : True := trivial; have K4 := Same.wr (Same.wr (Same.wr k1 k2 (Nat.le_refl _) (Nat.le_refl _)) k3 (Nat.le_refl _) (Nat.le_refl _)) k4 (Nat.le_refl _) (Nat.le_refl _); clear k1 k2 k3 k4)
    | (go_at_call 67; have _t := tok; refine (fitDone s4).mono ?_; rintro e w5 ⟨rfl, rfl⟩; clear tok)
    | (go_at_call 68; refine (G6.out _ (HT.out.same K4)).mono ?_; rintro e w6 ⟨rfl, rfl⟩)
    | (go_at_call 66; refine (G7.out _ _ _ s4).mono ?_; rintro e w7 ⟨rfl, s7, k7⟩; clear s4; have K7 := Same.wr K4 k7 (Nat.le_refl _) (Nat.le_refl _))
    | (go_at_call 67; refine (fitDone s7).mono ?_; rintro e w8 ⟨rfl, rfl⟩))
  go_returns
  exact ⟨rfl, K7⟩
set_option maxHeartbeats 1000000 in
set_option maxRecDepth 100000 in
theorem slotHeadOf_any (v : Value) (c : List UInt8) (w : World) (hT : Tab w) (hb : Bt w v c) (hc : c.length < 4294967296) :
    Calls Tryd.prog 41 #[v] w fun e w' => e = .returned (.string ⟨(slotB c).toArray⟩) ∧ Same w w' := by
  have l4 : (be 4 c.length).length = 4 := be_length _ _
  have g1 : ∀ B g w, WS B g 8 ([], false) w → Calls Tryd.prog 66 #[.pointer (some ⟨g, 0, none⟩), .int .u32 (c.length : Nat)] w fun e w' => e = .returned (.tuple #[]) ∧ WS B g 8 (be 4 c.length, false) w' ∧ Kept (wrS B g) w w' := fun B g w h => fitU32 h c.length hc (by decide) (by decide)
  have hadd : ∀ W : World, (Op.stringOp .add ⟨(be 4 c.length).toArray⟩ ⟨c.toArray⟩).run Tryd.prog W = .ok (.string ⟨(be 4 c.length ++ c).toArray⟩) W := fun W => by
    rw [run_string_add_sum W _ _ (by rw [ba_size, ba_size, l4]; omega)]
    first | rfl | (congr 2; apply ByteArray.ext; simp)
  have g6 := fun w h => crc_any ⟨(be 4 c.length ++ c).toArray⟩ w (by rw [ba_size, List.length_append, l4]; omega) h
  rw [ba_list] at g6
  have hc4 := crc_lt (be 4 c.length ++ c)
  have g7 : ∀ B g w, WS B g 8 (be 4 c.length, false) w → Calls Tryd.prog 66 #[.pointer (some ⟨g, 0, none⟩), .int .u32 (crc (be 4 c.length ++ c) : Nat)] w fun e w' => e = .returned (.tuple #[]) ∧ WS B g 8 (slotB c, false) w' ∧ Kept (wrS B g) w w' := fun B g w h => fitU32 h _ hc4 (by rw [l4]; decide) (by rw [l4]; decide)
  have hlw : IntKind.u32.wrap (c.length : Int) = (c.length : Int) := by rw [IntKind.wrap_u32']; omega
  obtain ⟨ao, cap, rfl, hcap⟩ := hb.form
  clear l4 hc4 hcap
  generalize slotB c = SB at *
  generalize crc (be 4 c.length ++ c) = s at *
  generalize be 4 c.length ++ c = L at *
  generalize be 4 c.length = L4 at *
  have HT := hidden hT
  have HB := hidden hb
  have G1 := hidden g1
  have G6 := hidden g6
  have G7 := hidden g7
  clear hT g1 g6 g7 hb
  go_enter Tryd.func41, Tryd.ntmps41
  go_wp2_with (first
    | (go_at_call 65; refine (newW 8 _ (by omega) (by omega)).mono ?_; rintro e w1 ⟨rfl, s1, k1, z1⟩; clear z1)
    | (go_at_call 66; refine (G1.out _ _ _ s1).mono ?_; rintro e w4 ⟨rfl, s4, k4⟩; clear s1; have tok : True := trivial; have K4 := Same.wr k1 k4 (Nat.le_refl _) (Nat.le_refl _); clear k1 k4; have hcv := (HB.out.same K4).text)
    | (go_at_call 67; have _t := tok; refine (fitDone s4).mono ?_; rintro e w5 ⟨rfl, rfl⟩; clear tok)
    | (go_at_call 68; refine (G6.out _ (HT.out.same K4)).mono ?_; rintro e w6 ⟨rfl, rfl⟩)
    | (go_at_call 66; refine (G7.out _ _ _ s4).mono ?_; rintro e w7 ⟨rfl, s7, k7⟩; clear s4; have K7 := Same.wr K4 k7 (Nat.le_refl _) (Nat.le_refl _))
    | (go_at_call 67; refine (fitDone s7).mono ?_; rintro e w8 ⟨rfl, rfl⟩))
  go_returns
  exact ⟨rfl, K7⟩
end Go.Proofs.YtafdkfieajdeiaaDoor
