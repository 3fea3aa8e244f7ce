/- Unframe of a frame, whatever is behind it. -/
import Derived.Test.YtilkpboegpfijaaDoorFrameR
import Derived.Test.YtilkpboegpfijaaDoorUnf3
import Derived.Test.YtilkpboegpfijaaDoorBeP
namespace Go.Proofs.YtilkpboegpfijaaDoor
open Go.RowKit
set_option linter.unusedVariables false

theorem dropTake (a b c : List UInt8) (i n : Nat) (ha : a.length = i) (hb : b.length = n) : ((a ++ (b ++ c)).drop i).take n = b := by
  rw [List.drop_left' ha, List.take_left' hb]
theorem num_one (k : Nat) (h : k < 256) : num (be 1 k) = k := by rw [num_be']; exact Nat.mod_eq_of_lt (by omega)
theorem num_four (k : Nat) (h : k < 4294967296) : num (be 4 k) = k := by rw [num_be']; exact Nat.mod_eq_of_lt (by omega)
theorem unf_frame (kind : Nat) (body behind : ByteArray) (hk : kind < 256) (hb : body.size ≤ 1048576) : unf (⟨(frameL kind body).toArray⟩ ++ behind) = (kind, body, 12 + body.size, 0) := by
  have hc := crc_lt (fhead kind body)
  have hl : (⟨(frameL kind body).toArray⟩ ++ behind : ByteArray).data.toList = frameL kind body ++ behind.data.toList := by rw [fr_app, ba_list]
  have hz : (⟨(frameL kind body).toArray⟩ ++ behind : ByteArray).size = 12 + body.size + behind.size := by rw [← size_list, hl, List.length_append, frameL_len, size_list]
  have e0 : frameL kind body ++ behind.data.toList = [68, 70] ++ (be 1 kind ++ (be 1 0 ++ (be 4 body.size ++ (body.data.toList ++ (be 4 (crc (fhead kind body)) ++ behind.data.toList))))) := by simp [frameL, fhead]
  have e2 : frameL kind body ++ behind.data.toList = [68, 70] ++ (be 1 kind ++ (be 1 0 ++ (be 4 body.size ++ (body.data.toList ++ (be 4 (crc (fhead kind body)) ++ behind.data.toList))))) := e0
  have e3 : frameL kind body ++ behind.data.toList = ([68, 70] ++ be 1 kind) ++ (be 1 0 ++ (be 4 body.size ++ (body.data.toList ++ (be 4 (crc (fhead kind body)) ++ behind.data.toList)))) := by simp [frameL, fhead]
  have e4 : frameL kind body ++ behind.data.toList = ([68, 70] ++ be 1 kind ++ be 1 0) ++ (be 4 body.size ++ (body.data.toList ++ (be 4 (crc (fhead kind body)) ++ behind.data.toList))) := by simp [frameL, fhead]
  have e8 : frameL kind body ++ behind.data.toList = ([68, 70] ++ be 1 kind ++ be 1 0 ++ be 4 body.size) ++ (body.data.toList ++ (be 4 (crc (fhead kind body)) ++ behind.data.toList)) := by simp [frameL, fhead]
  have e9 : frameL kind body ++ behind.data.toList = fhead kind body ++ (be 4 (crc (fhead kind body)) ++ behind.data.toList) := by simp [frameL]
  have q2 : num (((frameL kind body ++ behind.data.toList).drop 2).take 1) = kind := by rw [e2, dropTake _ _ _ 2 1 rfl (be_length _ _), num_one kind hk]
  have q3 : num (((frameL kind body ++ behind.data.toList).drop 3).take 1) = 0 := by rw [e3, dropTake _ _ _ 3 1 (by simp [be_length]) (be_length _ _), num_one 0 (by decide)]
  have q4 : num (((frameL kind body ++ behind.data.toList).drop 4).take 4) = body.size := by rw [e4, dropTake _ _ _ 4 4 (by simp [be_length]) (be_length _ _), num_four _ (by omega)]
  have q9 : num (((frameL kind body ++ behind.data.toList).drop (8 + body.size)).take 4) = crc (fhead kind body) := by rw [e9, dropTake _ _ _ (8 + body.size) 4 (fhead_len _ _) (be_length _ _), num_four _ hc]
  have qt : (frameL kind body ++ behind.data.toList).take (8 + body.size) = fhead kind body := by rw [e9, List.take_left' (fhead_len _ _)]
  have qb : (⟨(frameL kind body).toArray⟩ ++ behind : ByteArray).extract 8 (8 + body.size) = body := by
    apply ba_ext
    rw [Lib.extract_data, hl, e8, show 8 + body.size - 8 = body.size by omega, dropTake _ _ _ 8 body.size (by simp [be_length]) (size_list body)]
  have qm : (((⟨(frameL kind body).toArray⟩ ++ behind : ByteArray).extract 0 2).toList == [68, 70]) = true := by
    rw [Lib.toList_data, Lib.extract_data, hl, e0]
    rfl
  have qf : flen (⟨(frameL kind body).toArray⟩ ++ behind) = body.size := by unfold flen; rw [hl, q4]
  unfold unf
  rw [qf, hl, if_neg (by rw [hz]; omega), if_neg, if_neg (by rw [hz]; omega), q9, qt, if_neg (fun h => h rfl), q2, qb]
  rintro (h | h | h)
  · rw [qm] at h; cases h
  · exact h q3
  · omega
end Go.Proofs.YtilkpboegpfijaaDoor
