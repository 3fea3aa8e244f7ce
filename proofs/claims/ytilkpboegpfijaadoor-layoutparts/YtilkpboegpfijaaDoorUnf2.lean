/- codec.Unframe, walked. -/
import Derived.Test.YtilkpboegpfijaaDoorUnf
import Derived.Test.YtilkpboegpfijaaDoorAwake
namespace Go.Proofs.YtilkpboegpfijaaDoor
open Go.RowKit
set_option linter.unusedVariables false

/-- What is returned of a frame. -/
abbrev UnfEnd (R : Nat × ByteArray × Nat × Int) : Ending := .returned (.tuple #[.int .u8 R.1, .string R.2.1, .int .i64 R.2.2.1, .int .i64 R.2.2.2])
set_option maxHeartbeats 2000000 in
set_option maxRecDepth 100000 in
theorem unframe_short (s : ByteArray) (w : World) (hs : s.size < 8) : Calls Tryd.prog 24 #[.string s] w fun e w' => e = UnfEnd (0, ⟨#[]⟩, 0, 20) ∧ Same w w' := by
  go_enter Tryd.func24, Tryd.ntmps24
  go_wp2
  go_returns
  exact ⟨rfl, Kept.refl _ _⟩
set_option maxHeartbeats 2000000 in
set_option maxRecDepth 100000 in
theorem unframe_form (s : ByteArray) (w : World) (hs : s.size ≤ 281474976710656) (h8 : 8 ≤ s.size)
    (hb : ((s.extract 0 2).toList == [68, 70]) = false ∨ ((s.extract 0 2).toList == [68, 70]) = true ∧ num ((s.data.toList.drop 3).take 1) ≠ 0 ∨ ((s.extract 0 2).toList == [68, 70]) = true ∧ num ((s.data.toList.drop 3).take 1) = 0 ∧ 1048576 < flen s) :
    Calls Tryd.prog 24 #[.string s] w fun e w' => e = UnfEnd (0, ⟨#[]⟩, 0, 21) ∧ Same w w' := by
  have hl : flen s < 4294967296 := num4_lt _
  have hu32 : ∀ (g : Nat) (w : World), Rd g (s.extract 4 s.size, 0) w → Calls Tryd.prog 16 #[.pointer (some ⟨g, 0, none⟩)] w fun x w' => x = .returned (.int .u32 (flen s : Nat)) ∧ Rd g (s.extract 8 s.size, 0) w' ∧ Kept (only g) w w' := fun g w h => u32_at h (by omega)
  have hu8 : ∀ (g : Nat) (w : World), Rd g (s.extract 3 s.size, 0) w → Calls Tryd.prog 14 #[.pointer (some ⟨g, 0, none⟩)] w fun x w' => x = .returned (.int .u8 (num ((s.data.toList.drop 3).take 1) : Nat)) ∧ Rd g (s.extract 4 s.size, 0) w' ∧ Kept (only g) w w' := fun g w h => u8_at h (by omega)
  generalize num ((s.data.toList.drop 3).take 1) = z at hb hu8
  generalize flen s = n at hb hu32 hl
  have H32 := hidden hu32
  have H8 := hidden hu8
  clear hu32 hu8
  have hz0 : z ≠ 0 → ((z : Int) != 0) = true := fun h => by simpa using h
  rcases hb with hm | ⟨hm, hz⟩ | ⟨hm, rfl, hn⟩
  · clear hz0
    go_enter Tryd.func24, Tryd.ntmps24
    go_wp2_with (first
      | (go_at_call 13; refine (newR s _ hs).mono ?_; rintro e w1 ⟨rfl, s1, k1, z1⟩; rw [← extract_all s] at s1; clear z1)
      | (go_at_call 47; refine (take_at (a := 0) 2 s1 (by omega) hs).mono ?_; rintro e w2 ⟨rfl, s2, k2⟩)
      | (go_at_call 14; refine (u8_at (a := 2) s2 (by omega)).mono ?_; rintro e w3 ⟨rfl, s3, k3⟩; clear s2)
      | (go_at_call 14; refine (H8.out _ _ s3).mono ?_; rintro e w4 ⟨rfl, s4, k4⟩; clear s3)
      | (go_at_call 16; refine (H32.out _ _ s4).mono ?_; rintro e w5 ⟨rfl, s5, k5⟩))
    go_returns
    exact ⟨rfl, Same.rd (Same.rd (Same.rd (Same.rd k1 k2 (Nat.le_refl _)) k3 (Nat.le_refl _)) k4 (Nat.le_refl _)) k5 (Nat.le_refl _)⟩
  · have hz1 := hz0 hz
    clear hz0 hz
    go_enter Tryd.func24, Tryd.ntmps24
    go_wp2_with (first
      | (go_at_call 13; refine (newR s _ hs).mono ?_; rintro e w1 ⟨rfl, s1, k1, z1⟩; rw [← extract_all s] at s1; clear z1)
      | (go_at_call 47; refine (take_at (a := 0) 2 s1 (by omega) hs).mono ?_; rintro e w2 ⟨rfl, s2, k2⟩)
      | (go_at_call 14; refine (u8_at (a := 2) s2 (by omega)).mono ?_; rintro e w3 ⟨rfl, s3, k3⟩; clear s2)
      | (go_at_call 14; refine (H8.out _ _ s3).mono ?_; rintro e w4 ⟨rfl, s4, k4⟩; clear s3)
      | (go_at_call 16; refine (H32.out _ _ s4).mono ?_; rintro e w5 ⟨rfl, s5, k5⟩))
    go_returns
    exact ⟨rfl, Same.rd (Same.rd (Same.rd (Same.rd k1 k2 (Nat.le_refl _)) k3 (Nat.le_refl _)) k4 (Nat.le_refl _)) k5 (Nat.le_refl _)⟩
  · clear hz0
    go_enter Tryd.func24, Tryd.ntmps24
    go_wp2_with (first
      | (go_at_call 13; refine (newR s _ hs).mono ?_; rintro e w1 ⟨rfl, s1, k1, z1⟩; rw [← extract_all s] at s1; clear z1)
      | (go_at_call 47; refine (take_at (a := 0) 2 s1 (by omega) hs).mono ?_; rintro e w2 ⟨rfl, s2, k2⟩)
      | (go_at_call 14; refine (u8_at (a := 2) s2 (by omega)).mono ?_; rintro e w3 ⟨rfl, s3, k3⟩; clear s2)
      | (go_at_call 14; refine (H8.out _ _ s3).mono ?_; rintro e w4 ⟨rfl, s4, k4⟩; clear s3)
      | (go_at_call 16; refine (H32.out _ _ s4).mono ?_; rintro e w5 ⟨rfl, s5, k5⟩))
    go_returns
    exact ⟨rfl, Same.rd (Same.rd (Same.rd (Same.rd k1 k2 (Nat.le_refl _)) k3 (Nat.le_refl _)) k4 (Nat.le_refl _)) k5 (Nat.le_refl _)⟩
set_option maxHeartbeats 2000000 in
set_option maxRecDepth 100000 in
theorem unframe_rest (s : ByteArray) (w : World) (hs : s.size ≤ 281474976710656) (h8 : 8 ≤ s.size) (hT : Tab w) (hm : ((s.extract 0 2).toList == [68, 70]) = true) (hz : num ((s.data.toList.drop 3).take 1) = 0) (hn : flen s ≤ 1048576) :
    Calls Tryd.prog 24 #[.string s] w fun e w' => e = UnfEnd (unf s) ∧ Same w w' := by
  have HT := hidden hT
  clear hT
  have hu32 : ∀ (g : Nat) (w : World), Rd g (s.extract 4 s.size, 0) w → Calls Tryd.prog 16 #[.pointer (some ⟨g, 0, none⟩)] w fun x w' => x = .returned (.int .u32 (flen s : Nat)) ∧ Rd g (s.extract 8 s.size, 0) w' ∧ Kept (only g) w w' := fun g w h => u32_at h (by omega)
  have hu8 : ∀ (g : Nat) (w : World), Rd g (s.extract 3 s.size, 0) w → Calls Tryd.prog 14 #[.pointer (some ⟨g, 0, none⟩)] w fun x w' => x = .returned (.int .u8 0) ∧ Rd g (s.extract 4 s.size, 0) w' ∧ Kept (only g) w w' := fun g w h => by
    have k := u8_at h (by omega)
    rw [hz] at k
    exact k
  have hk8 : ∀ (g : Nat) (w : World), Rd g (s.extract 2 s.size, 0) w → Calls Tryd.prog 14 #[.pointer (some ⟨g, 0, none⟩)] w fun x w' => x = .returned (.int .u8 (num ((s.data.toList.drop 2).take 1) : Nat)) ∧ Rd g (s.extract 3 s.size, 0) w' ∧ Kept (only g) w w' := fun g w h => u8_at h (by omega)
  have hraw : ∀ (g : Nat) (w : World), Rd g (s.extract 8 s.size, 0) w → _ := fun g w h => tail_at (flen s) h hs hn
  have hcrc := fun w h => crc_any (s.extract 0 (8 + flen s)) w (by simp; omega) h
  have hcl : (s.extract 0 (8 + flen s)).data.toList = s.data.toList.take (8 + flen s) := by rw [Lib.extract_data]; simp
  rw [hcl] at hcrc
  have hsl : 8 + flen s ≤ s.size → True := fun _ => trivial
  have hu : unf s = if s.size < 12 + flen s then (0, ⟨#[]⟩, 0, 20)
      else if num ((s.data.toList.drop (8 + flen s)).take 4) ≠ crc (s.data.toList.take (8 + flen s)) then (0, ⟨#[]⟩, 0, 23)
      else (num ((s.data.toList.drop 2).take 1), s.extract 8 (8 + flen s), 12 + flen s, 0) := by
    unfold unf
    rw [if_neg (by omega), if_neg]
    rintro (h | h | h)
    · rw [hm] at h; cases h
    · exact h hz
    · omega
  rw [hu]
  have hsum : ∀ (g : Nat) (w : World), 12 + flen s ≤ s.size → Rd g (s.extract (8 + flen s) s.size, 0) w → Calls Tryd.prog 16 #[.pointer (some ⟨g, 0, none⟩)] w fun x w' => x = .returned (.int .u32 (num ((s.data.toList.drop (8 + flen s)).take 4) : Nat)) ∧ Rd g (s.extract (8 + flen s + 4) s.size, 0) w' ∧ Kept (only g) w w' := fun g w h1 h => u32_at h (by omega)
  have hc4 := crc_lt (s.data.toList.take (8 + flen s))
  have hs4 := num4_lt (s.data.toList.drop (8 + flen s))
  clear hz hcl hsl hu
  generalize num ((s.data.toList.drop 2).take 1) = kd at hk8 ⊢
  generalize num ((s.data.toList.drop (8 + flen s)).take 4) = su at hsum hs4 ⊢
  generalize crc (s.data.toList.take (8 + flen s)) = cr at hcrc hc4 ⊢
  generalize flen s = n at *
  have H32 := hidden hu32
  have H8 := hidden hu8
  have HK := hidden hk8
  have HR := hidden hraw
  have HC := hidden hcrc
  have HU := hidden hsum
  clear hu32 hu8 hk8 hraw hcrc hsum
  by_cases hlen : s.size < 12 + n
  · rw [if_pos hlen]
    go_enter Tryd.func24, Tryd.ntmps24
    go_wp2_with (first
      | (go_at_call 13; refine (newR s _ hs).mono ?_; rintro e w1 ⟨rfl, s1, k1, z1⟩; rw [← extract_all s] at s1; clear z1)
      | (go_at_call 47; refine (take_at (a := 0) 2 s1 (by omega) hs).mono ?_; rintro e w2 ⟨rfl, s2, k2⟩)
      | (go_at_call 14; refine (HK.out _ _ s2).mono ?_; rintro e w3 ⟨rfl, s3, k3⟩; clear s2)
      | (go_at_call 14; refine (H8.out _ _ s3).mono ?_; rintro e w4 ⟨rfl, s4, k4⟩; clear s3)
      | (go_at_call 16; refine (H32.out _ _ s4).mono ?_; rintro e w5 ⟨rfl, s5, k5⟩; obtain ⟨b, st, hb, _, hq⟩ := HR.out _ _ s5; have HB := hidden hb; have HQ : Hid ((rtake st 4).2.2 = 20) := hq hlen; clear s4 hb hq)
      | (go_at_call 20; refine HB.out.mono ?_; rintro e w6 ⟨rfl, s6, k6⟩; clear HB)
      | (go_at_call 16; refine (rU32 s6).mono ?_; rintro e w7 ⟨rfl, s7, k7⟩; have hne : ((rtake st 4).2.2 != 0) = true := (by rw [HQ.out]; rfl); clear s6)
      | (go_at_call 49; refine (rErr s7).mono ?_; rintro e w8 ⟨rfl, rfl⟩))
    go_returns
    rw [HQ.out]
    exact ⟨rfl, Same.rd (Same.rd (Same.rd (Same.rd (Same.rd (Same.rd k1 k2 (Nat.le_refl _)) k3 (Nat.le_refl _)) k4 (Nat.le_refl _)) k5 (Nat.le_refl _)) k6 (Nat.le_refl _)) k7 (Nat.le_refl _)⟩
  · rw [if_neg hlen]
    by_cases hsc : su = cr
    · subst hsc
      rw [if_neg (fun h => h rfl)]
      go_enter Tryd.func24, Tryd.ntmps24
      go_wp2_with (first
        | (go_at_call 13; refine (newR s _ hs).mono ?_; rintro e w1 ⟨rfl, s1, k1, z1⟩; rw [← extract_all s] at s1; clear z1)
        | (go_at_call 47; refine (take_at (a := 0) 2 s1 (by omega) hs).mono ?_; rintro e w2 ⟨rfl, s2, k2⟩)
        | (go_at_call 14; refine (HK.out _ _ s2).mono ?_; rintro e w3 ⟨rfl, s3, k3⟩; clear s2)
        | (go_at_call 14; refine (H8.out _ _ s3).mono ?_; rintro e w4 ⟨rfl, s4, k4⟩; clear s3)
        | (go_at_call 16; refine (H32.out _ _ s4).mono ?_; rintro e w5 ⟨rfl, s5, k5⟩; obtain ⟨b, st, hb, hq, _⟩ := HR.out _ _ s5; obtain ⟨rfl, rfl⟩ := hq (by omega); have HB := hidden hb; clear s4 hb hq)
        | (go_at_call 20; refine HB.out.mono ?_; rintro e w6 ⟨rfl, s6, k6⟩; clear HB)
        | (go_at_call 16; refine (HU.out _ _ (by omega) s6).mono ?_; rintro e w7 ⟨rfl, s7, k7⟩; have K7 : Same w w7 := Same.rd (Same.rd (Same.rd (Same.rd (Same.rd (Same.rd k1 k2 (Nat.le_refl _)) k3 (Nat.le_refl _)) k4 (Nat.le_refl _)) k5 (Nat.le_refl _)) k6 (Nat.le_refl _)) k7 (Nat.le_refl _); clear s6)
        | (go_at_call 49; refine (rErr s7).mono ?_; rintro e w8 ⟨rfl, rfl⟩)
        | (go_at_call 30; refine (HC.out _ (HT.out.same K7)).mono ?_; rintro e w8 ⟨rfl, rfl⟩))
      go_returns
      refine ⟨?_, K7⟩
      rw [show (8 + (n : Int) + 4) = ((12 + n : Nat) : Int) by omega]
    · have hsb : ((su : Int) != (cr : Int)) = true := by simp; omega
      rw [if_pos hsc]
      go_enter Tryd.func24, Tryd.ntmps24
      go_wp2_with (first
        | (go_at_call 13; refine (newR s _ hs).mono ?_; rintro e w1 ⟨rfl, s1, k1, z1⟩; rw [← extract_all s] at s1; clear z1)
        | (go_at_call 47; refine (take_at (a := 0) 2 s1 (by omega) hs).mono ?_; rintro e w2 ⟨rfl, s2, k2⟩)
        | (go_at_call 14; refine (HK.out _ _ s2).mono ?_; rintro e w3 ⟨rfl, s3, k3⟩; clear s2)
        | (go_at_call 14; refine (H8.out _ _ s3).mono ?_; rintro e w4 ⟨rfl, s4, k4⟩; clear s3)
        | (go_at_call 16; refine (H32.out _ _ s4).mono ?_; rintro e w5 ⟨rfl, s5, k5⟩; obtain ⟨b, st, hb, hq, _⟩ := HR.out _ _ s5; obtain ⟨rfl, rfl⟩ := hq (by omega); have HB := hidden hb; clear s4 hb hq)
        | (go_at_call 20; refine HB.out.mono ?_; rintro e w6 ⟨rfl, s6, k6⟩; clear HB)
        | (go_at_call 16; refine (HU.out _ _ (by omega) s6).mono ?_; rintro e w7 ⟨rfl, s7, k7⟩; have K7 : Same w w7 := Same.rd (Same.rd (Same.rd (Same.rd (Same.rd (Same.rd k1 k2 (Nat.le_refl _)) k3 (Nat.le_refl _)) k4 (Nat.le_refl _)) k5 (Nat.le_refl _)) k6 (Nat.le_refl _)) k7 (Nat.le_refl _); clear s6)
        | (go_at_call 49; refine (rErr s7).mono ?_; rintro e w8 ⟨rfl, rfl⟩)
        | (go_at_call 30; refine (HC.out _ (HT.out.same K7)).mono ?_; rintro e w8 ⟨rfl, rfl⟩))
      go_returns
      exact ⟨rfl, K7⟩
theorem unframe_any (s : ByteArray) (w : World) (hs : s.size ≤ 281474976710656) (hT : Tab w) : Calls Tryd.prog 24 #[.string s] w fun e w' => e = UnfEnd (unf s) ∧ Same w w' := by
  by_cases h8 : s.size < 8
  · have e : unf s = (0, ⟨#[]⟩, 0, 20) := by unfold unf; rw [if_pos h8]
    rw [e]
    exact unframe_short s w h8
  · by_cases hb : ((s.extract 0 2).toList == [68, 70]) = false ∨ num ((s.data.toList.drop 3).take 1) ≠ 0 ∨ 1048576 < flen s
    · have e : unf s = (0, ⟨#[]⟩, 0, 21) := by unfold unf; rw [if_neg h8, if_pos hb]
      rw [e]
      refine unframe_form s w hs (by omega) ?_
      cases hm : ((s.extract 0 2).toList == [68, 70]) with
      | false => exact Or.inl rfl
      | true =>
        right
        by_cases hz : num ((s.data.toList.drop 3).take 1) = 0
        · rcases hb with h | h | h
          · rw [hm] at h; cases h
          · exact absurd hz h
          · exact Or.inr ⟨rfl, hz, h⟩
        · exact Or.inl ⟨rfl, hz⟩
    · have hm : ((s.extract 0 2).toList == [68, 70]) = true := by
        cases hm : ((s.extract 0 2).toList == [68, 70]) with
        | false => exact absurd (Or.inl hm) hb
        | true => rfl
      exact unframe_rest s w hs (by omega) hT hm (Classical.byContradiction fun h => hb (Or.inr (Or.inl h))) (Nat.le_of_not_lt fun h => hb (Or.inr (Or.inr h)))

/-! ### The document's -/
theorem byte_at (s : ByteArray) (i : Nat) (h : i < s.size) : num ((s.data.toList.drop i).take 1) = s[i].toNat := by
  rw [List.drop_eq_getElem_cons (by rw [size_list]; exact h), List.take_succ_cons, List.take_zero]
  simp [num]
  rfl
end Go.Proofs.YtilkpboegpfijaaDoor
