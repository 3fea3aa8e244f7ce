/- The fields of a superblock's body; which bytes are a superblock. -/
import Derived.Test.YtilkpboegpfijaaDoorLay5
import Derived.Test.YtilkpboegpfijaaDoorUnfF
namespace Go.Proofs.YtilkpboegpfijaaDoor
open Go.RowKit
set_option linter.unusedVariables false

theorem num_be_k (k n : Nat) (h : n < 256 ^ k) : num (be k n) = n := by rw [num_be']; exact Nat.mod_eq_of_lt h
/-- A field of a text that is known. -/
theorem fld_of (L a b c : List UInt8) (n k : Nat) (e : L = a ++ (b ++ c)) (ha : a.length = n) (hb : b.length = k) : fld ⟨L.toArray⟩ n k = num b := by
  unfold fld
  rw [ba_size, ba_list, e, if_pos (by simp only [List.length_append]; omega), dropTake a b c n k ha hb]
/-- A superblock may be. -/
structure Sup (gen root sector sectors journal pack cmin cnorm cmax seed nbits : Nat) (dd : Bool) : Prop where
  g : gen < 18446744073709551616
  s : seed < 18446744073709551616
  shp : Shp sector sectors journal pack cmin cnorm cmax nbits
  ok : supErr sectors journal root (Shp sector sectors journal pack cmin cnorm cmax nbits) = 0
theorem Sup.root {gen root sector sectors journal pack cmin cnorm cmax seed nbits : Nat} {dd : Bool} (h : Sup gen root sector sectors journal pack cmin cnorm cmax seed nbits dd) : root < 4096 := by
  have h1 := h.ok
  unfold supErr at h1
  rw [if_pos h.shp] at h1
  by_cases h0 : (root : Int) ≠ 0 ∧ kindOf sectors journal root ≠ 3
  · rw [if_pos h0] at h1; cases h1
  · by_cases hr : (root : Int) = 0
    · omega
    · have hk : kindOf sectors journal root = 3 := Classical.byContradiction fun hk => h0 ⟨hr, hk⟩
      unfold kindOf at hk
      have hs := h.shp.2.1
      by_cases hb : (root : Int) < 0 ∨ (sectors : Int) ≤ root
      · rw [if_pos hb] at hk; cases hk
      · omega
theorem body_0 (gen root sector sectors journal pack cmin cnorm cmax seed nbits : Nat) (dd : Bool) (h : gen < 256 ^ 8) : fld ⟨(bodyL gen root sector sectors journal pack cmin cnorm cmax seed nbits dd).toArray⟩ 0 8 = gen := by
  rw [fld_of (bodyL gen root sector sectors journal pack cmin cnorm cmax seed nbits dd) ([]) (be 8 gen) (be 4 root ++ (be 4 sector ++ (be 4 sectors ++ (be 4 journal ++ (be 4 pack ++ (be 4 cmin ++ (be 4 cnorm ++ (be 4 cmax ++ (be 8 seed ++ (be 2 nbits ++ (be 1 (flagN dd)))))))))))) 0 8 (by simp [bodyL]) rfl (be_length _ _), num_be_k _ _ h]
theorem body_1 (gen root sector sectors journal pack cmin cnorm cmax seed nbits : Nat) (dd : Bool) (h : root < 256 ^ 4) : fld ⟨(bodyL gen root sector sectors journal pack cmin cnorm cmax seed nbits dd).toArray⟩ 8 4 = root := by
  rw [fld_of (bodyL gen root sector sectors journal pack cmin cnorm cmax seed nbits dd) (be 8 gen) (be 4 root) (be 4 sector ++ (be 4 sectors ++ (be 4 journal ++ (be 4 pack ++ (be 4 cmin ++ (be 4 cnorm ++ (be 4 cmax ++ (be 8 seed ++ (be 2 nbits ++ (be 1 (flagN dd))))))))))) 8 4 (by simp [bodyL]) (by simp [be_length]) (be_length _ _), num_be_k _ _ h]
theorem body_2 (gen root sector sectors journal pack cmin cnorm cmax seed nbits : Nat) (dd : Bool) (h : sector < 256 ^ 4) : fld ⟨(bodyL gen root sector sectors journal pack cmin cnorm cmax seed nbits dd).toArray⟩ 12 4 = sector := by
  rw [fld_of (bodyL gen root sector sectors journal pack cmin cnorm cmax seed nbits dd) (be 8 gen ++ be 4 root) (be 4 sector) (be 4 sectors ++ (be 4 journal ++ (be 4 pack ++ (be 4 cmin ++ (be 4 cnorm ++ (be 4 cmax ++ (be 8 seed ++ (be 2 nbits ++ (be 1 (flagN dd)))))))))) 12 4 (by simp [bodyL]) (by simp [be_length]) (be_length _ _), num_be_k _ _ h]
theorem body_3 (gen root sector sectors journal pack cmin cnorm cmax seed nbits : Nat) (dd : Bool) (h : sectors < 256 ^ 4) : fld ⟨(bodyL gen root sector sectors journal pack cmin cnorm cmax seed nbits dd).toArray⟩ 16 4 = sectors := by
  rw [fld_of (bodyL gen root sector sectors journal pack cmin cnorm cmax seed nbits dd) (be 8 gen ++ be 4 root ++ be 4 sector) (be 4 sectors) (be 4 journal ++ (be 4 pack ++ (be 4 cmin ++ (be 4 cnorm ++ (be 4 cmax ++ (be 8 seed ++ (be 2 nbits ++ (be 1 (flagN dd))))))))) 16 4 (by simp [bodyL]) (by simp [be_length]) (be_length _ _), num_be_k _ _ h]
theorem body_4 (gen root sector sectors journal pack cmin cnorm cmax seed nbits : Nat) (dd : Bool) (h : journal < 256 ^ 4) : fld ⟨(bodyL gen root sector sectors journal pack cmin cnorm cmax seed nbits dd).toArray⟩ 20 4 = journal := by
  rw [fld_of (bodyL gen root sector sectors journal pack cmin cnorm cmax seed nbits dd) (be 8 gen ++ be 4 root ++ be 4 sector ++ be 4 sectors) (be 4 journal) (be 4 pack ++ (be 4 cmin ++ (be 4 cnorm ++ (be 4 cmax ++ (be 8 seed ++ (be 2 nbits ++ (be 1 (flagN dd)))))))) 20 4 (by simp [bodyL]) (by simp [be_length]) (be_length _ _), num_be_k _ _ h]
theorem body_5 (gen root sector sectors journal pack cmin cnorm cmax seed nbits : Nat) (dd : Bool) (h : pack < 256 ^ 4) : fld ⟨(bodyL gen root sector sectors journal pack cmin cnorm cmax seed nbits dd).toArray⟩ 24 4 = pack := by
  rw [fld_of (bodyL gen root sector sectors journal pack cmin cnorm cmax seed nbits dd) (be 8 gen ++ be 4 root ++ be 4 sector ++ be 4 sectors ++ be 4 journal) (be 4 pack) (be 4 cmin ++ (be 4 cnorm ++ (be 4 cmax ++ (be 8 seed ++ (be 2 nbits ++ (be 1 (flagN dd))))))) 24 4 (by simp [bodyL]) (by simp [be_length]) (be_length _ _), num_be_k _ _ h]
theorem body_6 (gen root sector sectors journal pack cmin cnorm cmax seed nbits : Nat) (dd : Bool) (h : cmin < 256 ^ 4) : fld ⟨(bodyL gen root sector sectors journal pack cmin cnorm cmax seed nbits dd).toArray⟩ 28 4 = cmin := by
  rw [fld_of (bodyL gen root sector sectors journal pack cmin cnorm cmax seed nbits dd) (be 8 gen ++ be 4 root ++ be 4 sector ++ be 4 sectors ++ be 4 journal ++ be 4 pack) (be 4 cmin) (be 4 cnorm ++ (be 4 cmax ++ (be 8 seed ++ (be 2 nbits ++ (be 1 (flagN dd)))))) 28 4 (by simp [bodyL]) (by simp [be_length]) (be_length _ _), num_be_k _ _ h]
theorem body_7 (gen root sector sectors journal pack cmin cnorm cmax seed nbits : Nat) (dd : Bool) (h : cnorm < 256 ^ 4) : fld ⟨(bodyL gen root sector sectors journal pack cmin cnorm cmax seed nbits dd).toArray⟩ 32 4 = cnorm := by
  rw [fld_of (bodyL gen root sector sectors journal pack cmin cnorm cmax seed nbits dd) (be 8 gen ++ be 4 root ++ be 4 sector ++ be 4 sectors ++ be 4 journal ++ be 4 pack ++ be 4 cmin) (be 4 cnorm) (be 4 cmax ++ (be 8 seed ++ (be 2 nbits ++ (be 1 (flagN dd))))) 32 4 (by simp [bodyL]) (by simp [be_length]) (be_length _ _), num_be_k _ _ h]
theorem body_8 (gen root sector sectors journal pack cmin cnorm cmax seed nbits : Nat) (dd : Bool) (h : cmax < 256 ^ 4) : fld ⟨(bodyL gen root sector sectors journal pack cmin cnorm cmax seed nbits dd).toArray⟩ 36 4 = cmax := by
  rw [fld_of (bodyL gen root sector sectors journal pack cmin cnorm cmax seed nbits dd) (be 8 gen ++ be 4 root ++ be 4 sector ++ be 4 sectors ++ be 4 journal ++ be 4 pack ++ be 4 cmin ++ be 4 cnorm) (be 4 cmax) (be 8 seed ++ (be 2 nbits ++ (be 1 (flagN dd)))) 36 4 (by simp [bodyL]) (by simp [be_length]) (be_length _ _), num_be_k _ _ h]
theorem body_9 (gen root sector sectors journal pack cmin cnorm cmax seed nbits : Nat) (dd : Bool) (h : seed < 256 ^ 8) : fld ⟨(bodyL gen root sector sectors journal pack cmin cnorm cmax seed nbits dd).toArray⟩ 40 8 = seed := by
  rw [fld_of (bodyL gen root sector sectors journal pack cmin cnorm cmax seed nbits dd) (be 8 gen ++ be 4 root ++ be 4 sector ++ be 4 sectors ++ be 4 journal ++ be 4 pack ++ be 4 cmin ++ be 4 cnorm ++ be 4 cmax) (be 8 seed) (be 2 nbits ++ (be 1 (flagN dd))) 40 8 (by simp [bodyL]) (by simp [be_length]) (be_length _ _), num_be_k _ _ h]
theorem body_10 (gen root sector sectors journal pack cmin cnorm cmax seed nbits : Nat) (dd : Bool) (h : nbits < 256 ^ 2) : fld ⟨(bodyL gen root sector sectors journal pack cmin cnorm cmax seed nbits dd).toArray⟩ 48 2 = nbits := by
  rw [fld_of (bodyL gen root sector sectors journal pack cmin cnorm cmax seed nbits dd) (be 8 gen ++ be 4 root ++ be 4 sector ++ be 4 sectors ++ be 4 journal ++ be 4 pack ++ be 4 cmin ++ be 4 cnorm ++ be 4 cmax ++ be 8 seed) (be 2 nbits) (be 1 (flagN dd)) 48 2 (by simp [bodyL]) (by simp [be_length]) (be_length _ _), num_be_k _ _ h]
theorem body_11 (gen root sector sectors journal pack cmin cnorm cmax seed nbits : Nat) (dd : Bool) (h : (flagN dd) < 256 ^ 1) : fld ⟨(bodyL gen root sector sectors journal pack cmin cnorm cmax seed nbits dd).toArray⟩ 50 1 = (flagN dd) := by
  rw [fld_of (bodyL gen root sector sectors journal pack cmin cnorm cmax seed nbits dd) (be 8 gen ++ be 4 root ++ be 4 sector ++ be 4 sectors ++ be 4 journal ++ be 4 pack ++ be 4 cmin ++ be 4 cnorm ++ be 4 cmax ++ be 8 seed ++ be 2 nbits) (be 1 (flagN dd)) ([]) 50 1 (by simp [bodyL]) (by simp [be_length]) (be_length _ _), num_be_k _ _ h]
theorem super_text (gen root sector sectors journal pack cmin cnorm cmax seed nbits : Nat) (dd : Bool) :
    (⟨(superL gen root sector sectors journal pack cmin cnorm cmax seed nbits dd).toArray⟩ : ByteArray) = ⟨(frameL 83 ⟨(bodyL gen root sector sectors journal pack cmin cnorm cmax seed nbits dd).toArray⟩).toArray⟩ ++ ⟨(List.replicate (sector - 63) 0).toArray⟩ := by
  apply ba_ext
  rw [fr_app, ba_list, ba_list, ba_list]
  rfl
theorem unf_super (gen root sector sectors journal pack cmin cnorm cmax seed nbits : Nat) (dd : Bool) :
    unf ⟨(superL gen root sector sectors journal pack cmin cnorm cmax seed nbits dd).toArray⟩ = (83, ⟨(bodyL gen root sector sectors journal pack cmin cnorm cmax seed nbits dd).toArray⟩, 63, 0) := by
  rw [super_text, unf_frame 83 _ _ (by decide) (by rw [ba_size, bodyL_len]; decide), ba_size, bodyL_len]
theorem superL_len {gen root sector sectors journal pack cmin cnorm cmax seed nbits : Nat} {dd : Bool} (h : Sup gen root sector sectors journal pack cmin cnorm cmax seed nbits dd) : (superL gen root sector sectors journal pack cmin cnorm cmax seed nbits dd).length = sector := by
  have := h.shp.1.1
  rw [superL, List.length_append, frameL_len, ba_size, bodyL_len, List.length_replicate]
  omega
end Go.Proofs.YtilkpboegpfijaaDoor
