/- The document's Unframe, walked. -/
import Derived.Test.YtlilgfcacoooaaaDoorUnf2
namespace Go.Proofs.YtlilgfcacoooaaaDoor
open Go.RowKit
set_option linter.unusedVariables false

set_option maxHeartbeats 2000000 in
set_option maxRecDepth 100000 in
theorem refUnframe_form (s : ByteArray) (w : World) (hs : s.size ≤ 281474976710656) (h8 : 8 ≤ s.size)
    (hb : ((s.extract 0 2).toList == [68, 70]) = false ∨ ((s.extract 0 2).toList == [68, 70]) = true ∧ num ((s.data.toList.drop 3).take 1) ≠ 0 ∨ ((s.extract 0 2).toList == [68, 70]) = true ∧ num ((s.data.toList.drop 3).take 1) = 0 ∧ 1048576 < flen s) :
    Calls Tryd.prog 64 #[.string s] w fun e w' => e = UnfEnd (0, ⟨#[]⟩, 0, 21) ∧ Same w w' := by
  rw [byte_at s 3 (by omega)] at hb
  have hrd := fun w => refRead_at s 4 4 w (by decide)
  have hl : flen s < 4294967296 := num4_lt _
  have e : num ((s.data.toList.drop 4).take 4) = flen s := rfl
  rw [e] at hrd
  generalize flen s = n at hb hrd hl
  have HR := hidden hrd
  clear hrd e
  rcases hb with hm | ⟨hm, hz⟩ | ⟨hm, hz, hn⟩
  · go_enter Tryd.func64, Tryd.ntmps64
    go_wp2_with (go_at_call 65; refine (HR.out _).mono ?_; rintro e w1 ⟨rfl, rfl⟩)
    go_returns
    exact ⟨rfl, Kept.refl _ _⟩
  · have hz1 : ((s[3].toNat : Int) != 0) = true := by simpa using hz
    clear hz
    go_enter Tryd.func64, Tryd.ntmps64
    go_wp2_with (go_at_call 65; refine (HR.out _).mono ?_; rintro e w1 ⟨rfl, rfl⟩)
    go_returns
    exact ⟨rfl, Kept.refl _ _⟩
  · have hz1 : ((s[3].toNat : Int) != 0) = false := by simpa using hz
    clear hz
    go_enter Tryd.func64, Tryd.ntmps64
    go_wp2_with (go_at_call 65; refine (HR.out _).mono ?_; rintro e w1 ⟨rfl, rfl⟩)
    go_returns
    exact ⟨rfl, Kept.refl _ _⟩
set_option maxHeartbeats 2000000 in
set_option maxRecDepth 100000 in
theorem refUnframe_rest (s : ByteArray) (w : World) (hs : s.size ≤ 281474976710656) (h8 : 8 ≤ s.size) (hm : ((s.extract 0 2).toList == [68, 70]) = true) (hz : num ((s.data.toList.drop 3).take 1) = 0) (hn : flen s ≤ 1048576) :
    Calls Tryd.prog 64 #[.string s] w fun e w' => e = UnfEnd (unf s) ∧ Same w w' := by
  have hu : unf s = if s.size < 12 + flen s then (0, ⟨#[]⟩, 0, 20)
      else if num ((s.data.toList.drop (8 + flen s)).take 4) ≠ crc (s.data.toList.take (8 + flen s)) then (0, ⟨#[]⟩, 0, 23)
      else (num ((s.data.toList.drop 2).take 1), s.extract 8 (8 + flen s), 12 + flen s, 0) := by
    unfold unf
    rw [if_neg (by omega), if_neg]
    rintro (h | h | h)
    · rw [hm] at h; cases h
    · exact h hz
    · omega
  rw [hu, byte_at s 2 (by omega)]
  rw [byte_at s 3 (by omega)] at hz
  have hz1 : ((s[3].toNat : Int) != 0) = false := by simpa using hz
  have hrd := fun w => refRead_at s 4 4 w (by decide)
  have e : num ((s.data.toList.drop 4).take 4) = flen s := rfl
  rw [e] at hrd
  have hrd2 := fun w => refRead_at s (8 + flen s) 4 w (by decide)
  have hcrc := fun w => (refCrc_any (s.extract 0 (8 + flen s)) w (by simp; omega)).mono (R' := fun e w' => e = .returned (.int .u32 (crc (s.extract 0 (8 + flen s)).data.toList : Nat)) ∧ w' = w) fun e w' ⟨h1, h2⟩ => ⟨h1, h2.symm⟩
  have hcl : (s.extract 0 (8 + flen s)).data.toList = s.data.toList.take (8 + flen s) := by rw [Lib.extract_data]; simp
  rw [hcl] at hcrc
  have hc4 := crc_lt (s.data.toList.take (8 + flen s))
  have hs4 := num4_lt (s.data.toList.drop (8 + flen s))
  clear hz hu hcl e
  generalize num ((s.data.toList.drop (8 + flen s)).take 4) = su at hrd2 hs4 ⊢
  generalize crc (s.data.toList.take (8 + flen s)) = cr at hcrc hc4 ⊢
  generalize flen s = n at *
  have e4 : 8 + n + 4 = 12 + n := by omega
  have e5 : 8 + n = 12 + n - 4 := by omega
  rw [e4] at hrd2
  rw [e5] at hrd2 hcrc
  rw [e5]
  clear e4 e5
  have HR := hidden hrd
  have HR2 := hidden hrd2
  have HC := hidden hcrc
  clear hrd hrd2 hcrc
  by_cases hlen : s.size < 12 + n
  · rw [if_pos hlen]
    go_enter Tryd.func64, Tryd.ntmps64
    go_wp2_with (go_at_call 65; refine (HR.out _).mono ?_; rintro e w1 ⟨rfl, rfl⟩)
    go_returns
    exact ⟨rfl, Kept.refl _ _⟩
  · rw [if_neg hlen]
    have hcw : IntKind.u64.wrap (cr : Int) = (cr : Int) := by rw [IntKind.wrap_u64]; omega
    by_cases hsc : su = cr
    · subst hsc
      rw [if_neg (fun h => h rfl)]
      have b2 : (2 : Int) < (s.size : Int) := by omega
      have b3 : (12 : Int) + n ≤ (s.size : Int) := by omega
      go_enter Tryd.func64, Tryd.ntmps64
      go_wp2_with (go_at_call 65; refine (HR.out _).mono ?_; rintro e w1 ⟨rfl, rfl⟩)
      go_quiet ((first
        | (go_at_call 65; exact Calls.quiet_of_same (HR2.out _))
        | (go_at_call 89; exact Calls.quiet_of_same (HC.out _))))
      go_wp2
      go_quiet (fail)
      go_wp2
      go_returns
      exact ⟨rfl, ((Kept.refl (fun _ => False) _).drewN _).drewN _⟩
    · have hsb : ((su : Int) != (cr : Int)) = true := by simp; omega
      rw [if_pos hsc]
      go_enter Tryd.func64, Tryd.ntmps64
      go_wp2_with (go_at_call 65; refine (HR.out _).mono ?_; rintro e w1 ⟨rfl, rfl⟩)
      go_quiet ((first
        | (go_at_call 65; exact Calls.quiet_of_same (HR2.out _))
        | (go_at_call 89; exact Calls.quiet_of_same (HC.out _))))
      go_wp2
      go_returns
      exact ⟨rfl, (Kept.refl (fun _ => False) _).drewN _⟩
theorem refUnframe_any (s : ByteArray) (w : World) (hs : s.size ≤ 281474976710656) : Calls Tryd.prog 64 #[.string s] w fun e w' => e = UnfEnd (unf s) ∧ Same w w' := by
  by_cases h8 : s.size < 8
  · have e : unf s = (0, ⟨#[]⟩, 0, 20) := by unfold unf; rw [if_pos h8]
    rw [e]
    exact refUnframe_short s w h8
  · by_cases hb : ((s.extract 0 2).toList == [68, 70]) = false ∨ num ((s.data.toList.drop 3).take 1) ≠ 0 ∨ 1048576 < flen s
    · have e : unf s = (0, ⟨#[]⟩, 0, 21) := by unfold unf; rw [if_neg h8, if_pos hb]
      rw [e]
      refine refUnframe_form s w hs (by omega) ?_
      cases hm : ((s.extract 0 2).toList == [68, 70]) with
      | false => exact Or.inl rfl
      | true =>
        right
        by_cases hz : num ((s.data.toList.drop 3).take 1) = 0
        · rcases hb with h | h | h
          · rw [hm] at h; cases h
          · exact absurd hz h
          · exact Or.inr ⟨rfl, hz, h⟩
        · exact Or.inl ⟨rfl, hz⟩
    · have hm : ((s.extract 0 2).toList == [68, 70]) = true := by
        cases hm : ((s.extract 0 2).toList == [68, 70]) with
        | false => exact absurd (Or.inl hm) hb
        | true => rfl
      exact refUnframe_rest s w hs (by omega) hm (Classical.byContradiction fun h => hb (Or.inr (Or.inl h))) (Nat.le_of_not_lt fun h => hb (Or.inr (Or.inr h)))
end Go.Proofs.YtlilgfcacoooaaaDoor
