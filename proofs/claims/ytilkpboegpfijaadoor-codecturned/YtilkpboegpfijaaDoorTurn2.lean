/- A frame some of whose body's bits are turned. -/
import Derived.Test.YtilkpboegpfijaaDoorTurnP
import Derived.Test.YtilkpboegpfijaaDoorUnfF
namespace Go.Proofs.YtilkpboegpfijaaDoor
open Go.RowKit
set_option linter.unusedVariables false

/-- L is L0 with bits of the bytes from 8 to 8 + n - 1 turned that come to P (read from the M-th bit ahead of their end on). -/
structure Turned (n M : Nat) (L0 L : List UInt8) (P : Nat) : Prop where
  len : L.length = L0.length
  head : L.take 8 = L0.take 8
  tail : L.drop (8 + n) = L0.drop (8 + n)
  sum : crcN (L.take (8 + n)) = crcN (L0.take (8 + n)) ^^^ c1s M P
  none : P = 0 → L = L0
theorem Turned.start (n M : Nat) (L0 : List UInt8) : Turned n M L0 L0 0 := ⟨rfl, rfl, rfl, by rw [c1s_zero, Nat.xor_zero], fun _ => rfl⟩
theorem Turned.step {n M : Nat} {L0 L : List UInt8} {P : Nat} (h : Turned n M L0 L P) {pl i : Nat} (hM : M = 8 * n - pl) (hl : 8 + n ≤ L0.length) (hk : pl + i < 8 * n) (hP : P < 2 ^ i) (b b' : UInt8)
    (hb : L[8 + (pl + i) / 8]? = some b) (hx : b'.toNat = b.toNat ^^^ 2 ^ ((pl + i) % 8)) : Turned n M L0 (L.set (8 + (pl + i) / 8) b') (P + 2 ^ i) := by
  refine ⟨by rw [List.length_set, h.len], ?_, ?_, ?_, ?_⟩
  · rw [List.take_set_of_le (by omega), h.head]
  · rw [List.drop_set, if_pos (by omega), h.tail]
  · have hlen : (L.take (8 + n)).length = 8 + n := by rw [List.length_take, h.len]; omega
    have hb' : (L.take (8 + n))[8 + (pl + i) / 8]? = some b := by rw [List.getElem?_take_of_lt (by omega), hb]
    rw [List.take_set, crcN_turn _ _ ((pl + i) % 8) b b' hb' (by omega) hx, hlen, h.sum, Nat.xor_assoc, ← xor_pow P i hP, ← turn_step M i P (by omega)]
    congr 3
    omega
  · intro h0
    have : 0 < 2 ^ i := Nat.two_pow_pos i
    omega
theorem xor_left_ne {a d : Nat} (hd : d ≠ 0) : a ^^^ d ≠ a := by
  intro h
  have h2 : a ^^^ (a ^^^ d) = a ^^^ a := by rw [h]
  rw [← Nat.xor_assoc, Nat.xor_self, Nat.zero_xor] at h2
  exact hd h2
/-- What Unframe tells of it. -/
theorem unf_turned (kind : Nat) (body : ByteArray) (hk : kind < 256) (hb : body.size ≤ 1048576) {L : List UInt8} {M P : Nat} (h : Turned body.size M (frameL kind body) L P) (hP : P < 4294967296) (h0 : P ≠ 0) :
    unf ⟨L.toArray⟩ = (0, ⟨#[]⟩, 0, 23) := by
  have hf := unf_frame kind body ⟨#[]⟩ hk hb
  have hl0 := frameL_len kind body
  have hl : L.length = 12 + body.size := by rw [h.len, hl0]
  have hz : (⟨L.toArray⟩ : ByteArray).size = 12 + body.size := by rw [ba_size, hl]
  have e1 : (⟨L.toArray⟩ : ByteArray).data.toList = L := ba_list L
  have take_drop : ∀ (a c : Nat), a + c ≤ 8 → (L.drop a).take c = ((frameL kind body).drop a).take c := by
    intro a c hac
    have h1 : ∀ X : List UInt8, ((X.take 8).drop a).take c = (X.drop a).take c := by
      intro X
      rw [List.drop_take, List.take_take, Nat.min_eq_left (by omega)]
    rw [← h1 L, h.head, h1]
  have e9 : frameL kind body = fhead kind body ++ be 4 (crc (fhead kind body)) := rfl
  have q3 : num ((L.drop 3).take 1) = 0 := by
    rw [take_drop 3 1 (by omega)]
    have e3 : frameL kind body = ([68, 70] ++ be 1 kind) ++ (be 1 0 ++ (be 4 body.size ++ (body.data.toList ++ be 4 (crc (fhead kind body))))) := by simp [frameL, fhead]
    rw [e3, dropTake _ _ _ 3 1 (by simp [be_length]) (be_length _ _), num_one 0 (by decide)]
  have q4 : num ((L.drop 4).take 4) = body.size := by
    rw [take_drop 4 4 (by omega)]
    have e4 : frameL kind body = ([68, 70] ++ be 1 kind ++ be 1 0) ++ (be 4 body.size ++ (body.data.toList ++ be 4 (crc (fhead kind body)))) := by simp [frameL, fhead]
    rw [e4, dropTake _ _ _ 4 4 (by simp [be_length]) (be_length _ _), num_four _ (by omega)]
  have q9 : num ((L.drop (8 + body.size)).take 4) = crc (fhead kind body) := by
    rw [h.tail, e9, List.drop_left' (fhead_len _ _), List.take_of_length_le (by rw [be_length]; exact Nat.le_refl _), num_four _ (crc_lt _)]
  have qt : crc (L.take (8 + body.size)) = crc (fhead kind body) ^^^ c1s M P := by
    have e : (frameL kind body).take (8 + body.size) = fhead kind body := by rw [e9, List.take_left' (fhead_len _ _)]
    unfold crc
    rw [h.sum, e, Nat.xor_assoc, Nat.xor_assoc, Nat.xor_comm (c1s M P)]
  have qm : (((⟨L.toArray⟩ : ByteArray).extract 0 2).toList == [68, 70]) = true := by
    rw [Lib.toList_data, Lib.extract_data, e1, show 2 - 0 = 2 from rfl, take_drop 0 2 (by omega)]
    simp [frameL, fhead]
  have qf : flen ⟨L.toArray⟩ = body.size := by unfold flen; rw [e1, q4]
  unfold unf
  rw [qf, e1, if_neg (by rw [hz]; omega), if_neg, if_neg (by rw [hz]; omega), q9, qt, if_pos (xor_left_ne (c1s_ne M P hP h0)).symm]
  rintro (h | h | h)
  · rw [qm] at h; cases h
  · exact h q3
  · omega
end Go.Proofs.YtilkpboegpfijaaDoor
