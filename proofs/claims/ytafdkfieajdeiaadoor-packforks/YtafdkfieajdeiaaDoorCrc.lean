/- codec.Crc and the document's, walked. -/
import Derived.Test.YtafdkfieajdeiaaDoorRows
import Derived.Test.YtafdkfieajdeiaaDoorBase
import Derived.Test.YtafdkfieajdeiaaDoorCrcP
import Derived.Laws.BitsAllLaws
import Derived.Handy
namespace Go.Proofs.YtafdkfieajdeiaaDoor
open Go.RowKit
set_option linter.unusedVariables false

/-- The table lies where its initialiser lays it. -/
def Tab (w : World) : Prop := ∀ j, j < 16 → w.cell? ⟨0, j, none⟩ = some (.int .u32 (crcT j : Nat))
theorem Tab.kept {S : Nat → Prop} {a w : World} (h : Tab a) (hk : Kept S a w) (hs : ¬ S 0) : Tab w := fun j hj => hk.cell (p := ⟨0, j, none⟩) hs (h j hj)
theorem take_crc (s : ByteArray) (k : Nat) (h : k < s.size) : crcN (s.data.toList.take (k + 1)) = crcByte (crcN (s.data.toList.take k)) s[k] := by
  rw [List.take_succ_eq_append_getElem (by rw [size_list]; exact h), crcN_snoc]
  rfl
theorem xor32 (a b : Nat) (ha : a < 4294967296) (hb : b < 4294967296) : bits .xor .u32 (a : Int) (b : Int) = ((a ^^^ b : Nat) : Int) := u32_xor_nat a b ha hb
theorem and15 (a : Nat) (ha : a < 4294967296) : bits .and .u32 (a : Int) 15 = ((a % 16 : Nat) : Int) := by
  rw [show (15 : Int) = ((15 : Nat) : Int) from rfl, u32_and_nat a 15 ha (by decide)]
  have := Nat.and_two_pow_sub_one_eq_mod a 4
  rw [show (2 : Nat) ^ 4 - 1 = 15 from rfl, show (2 : Nat) ^ 4 = 16 from rfl] at this
  rw [this]
set_option maxHeartbeats 1000000 in
set_option maxRecDepth 100000 in
theorem crc_any (s : ByteArray) (w : World) (hs : s.size ≤ 281474976710656) (hT : Tab w) : Calls Tryd.prog 68 #[.string s] w fun x w' => x = .returned (.int .u32 (crc s.data.toList : Nat)) ∧ w = w' := by
  have HT := hidden hT
  clear hT
  go_enter Tryd.func68, Tryd.ntmps68
  go_wp2
  go_loop [3, 7] (fun n i => ∃ k : Nat, k ≤ s.size ∧ i = .int .i64 k ∧ n = .int .u32 (crcN (s.data.toList.take k) : Nat)) (fun _ i => s.size - (intOf i).toNat)
  case atStart => exact ⟨0, Nat.zero_le _, rfl, rfl⟩
  case round =>
    obtain ⟨k, hk, rfl, rfl⟩ := hrel
    by_cases hlt : k < s.size
    · have hstep := take_crc s k hlt
      have hX := crcN_lt (s.data.toList.take k)
      generalize crcN (s.data.toList.take k) = X at hstep hX ⊢
      have hY := xor_byte_lt X s[k] hX
      have e1 : bits .xor .u32 (X : Int) ((s[k].toNat : Int) % 4294967296) = ((X ^^^ s[k].toNat : Nat) : Int) := by
        have hb := s[k].toNat_lt
        have : (s[k].toNat : Int) % 4294967296 = (s[k].toNat : Int) := by omega
        rw [this, xor32 _ _ hX (by omega)]
      have e2 : crcByte X s[k] = c4 (c4 (X ^^^ s[k].toNat)) := rfl
      rw [e2] at hstep
      generalize X ^^^ s[k].toNat = Y at hY e1 hstep
      have hZ := c4_lt Y hY
      have a1 := and15 Y hY
      have x1 : bits .xor .u32 ((Y : Int) / 16) (crcT (Y % 16) : Nat) = ((c4 Y : Nat) : Int) := by
        rw [show (Y : Int) / 16 = ((Y / 16 : Nat) : Int) by omega, xor32 _ _ (by omega) (crcT_lt _)]
        rfl
      have t1 := HT.out (Y % 16) (by omega)
      generalize c4 Y = Z at hZ x1 hstep
      have a2 := and15 Z hZ
      have x2 : bits .xor .u32 ((Z : Int) / 16) (crcT (Z % 16) : Nat) = ((c4 Z : Nat) : Int) := by
        rw [show (Z : Int) / 16 = ((Z / 16 : Nat) : Int) by omega, xor32 _ _ (by omega) (crcT_lt _)]
        rfl
      have t2 := HT.out (Z % 16) (by omega)
      have HS := hidden hstep
      clear hstep e2
      generalize hr1 : Y % 16 = r1 at a1 x1 t1
      generalize hr2 : Z % 16 = r2 at a2 x2 t2
      have b1 : r1 < 16 := by omega
      have b2 : r2 < 16 := by omega
      clear hr1 hr2
      go_wp2
      go_round
      case rel => exact ⟨k + 1, by omega, by go_num, by rw [HS.out]⟩
      case measure => simp [intOf]; omega
    · obtain rfl : k = s.size := by omega
      rw [List.take_of_length_le (by rw [size_list]; exact Nat.le_refl _)]
      have e : bits .xor .u32 IntKind.u32.max (crcN s.data.toList : Nat) = ((crc s.data.toList : Nat) : Int) := by
        rw [show IntKind.u32.max = ((4294967295 : Nat) : Int) from rfl, xor32 _ _ (by decide) (crcN_lt _), Nat.xor_comm]
        rfl
      have HE := hidden e
      clear e
      go_wp2
      go_returns
      rw [← HE.out]
      exact ⟨rfl, rfl⟩
theorem c1_walk (x : Nat) (h : x < 4294967296) : bits .xor .u32 ((x : Int) / 2) 2197175160 = ((x / 2 ^^^ 2197175160 : Nat) : Int) := by
  rw [show (x : Int) / 2 = ((x / 2 : Nat) : Int) by omega, show (2197175160 : Int) = ((2197175160 : Nat) : Int) from rfl, xor32 _ _ (by omega) (by decide)]
set_option maxHeartbeats 1000000 in
set_option maxRecDepth 100000 in
theorem refCrc_any (s : ByteArray) (w : World) (hs : s.size ≤ 281474976710656) : Calls Tryd.prog 71 #[.string s] w fun x w' => x = .returned (.int .u32 (crc s.data.toList : Nat)) ∧ w = w' := by
  go_enter Tryd.func71, Tryd.ntmps71
  go_wp2
  go_loop [3, 4] (fun n i => ∃ k : Nat, k ≤ s.size ∧ i = .int .i64 k ∧ n = .int .u32 (crcN (s.data.toList.take k) : Nat)) (fun _ i => s.size - (intOf i).toNat)
  case atStart => exact ⟨0, Nat.zero_le _, rfl, rfl⟩
  case round =>
    obtain ⟨k, hk, rfl, rfl⟩ := hrel
    by_cases hlt : k < s.size
    · have hstep := take_crc s k hlt
      have hX := crcN_lt (s.data.toList.take k)
      generalize crcN (s.data.toList.take k) = X at hstep hX ⊢
      have hY := xor_byte_lt X s[k] hX
      rw [← c8] at hstep
      have e1 : bits .xor .u32 (X : Int) ((s[k].toNat : Int) % 4294967296) = ((X ^^^ s[k].toNat : Nat) : Int) := by
        have hb := s[k].toNat_lt
        have : (s[k].toNat : Int) % 4294967296 = (s[k].toNat : Int) := by omega
        rw [this, xor32 _ _ hX (by omega)]
      generalize X ^^^ s[k].toNat = Y at hY e1 hstep
      have HS := hidden hstep
      clear hstep
      go_wp2
      go_loop [3, 5] (fun n j => ∃ m : Nat, m ≤ 8 ∧ j = .int .i64 m ∧ n = .int .u32 (c1s m Y : Nat)) (fun _ j => 8 - (intOf j).toNat)
      case atStart => exact ⟨0, by decide, rfl, rfl⟩
      case round =>
        obtain ⟨m, hm, rfl, rfl⟩ := hrel
        by_cases hm8 : m < 8
        · have hc := c1s_lt m Y hY
          have en : c1s (m + 1) Y = c1 (c1s m Y) := rfl
          have HN := hidden en
          clear en
          have cw := c1_walk (c1s m Y) hc
          have c1d : c1 (c1s m Y) = if c1s m Y % 2 = 1 then c1s m Y / 2 ^^^ 2197175160 else c1s m Y / 2 := rfl
          have HC := hidden c1d
          clear c1d
          by_cases hodd : c1s m Y % 2 = 1
          · have ht : (((c1s m Y : Nat) : Int) % 2 == 1) = true := beq_iff_eq.2 (by omega)
            rw [if_pos hodd] at HC
            clear hodd
            go_wp2
            go_round
            case rel => exact ⟨m + 1, by omega, by go_num, by rw [HN.out, HC.out]⟩
            case measure => simp [intOf]; omega
          · have ht : (((c1s m Y : Nat) : Int) % 2 == 1) = false := beq_eq_false_iff_ne.2 (by omega)
            rw [if_neg hodd] at HC
            clear hodd cw
            go_wp2
            go_round
            case rel => exact ⟨m + 1, by omega, by go_num, by rw [HN.out, HC.out]; go_num⟩
            case measure => simp [intOf]; omega
        · obtain rfl : m = 8 := by omega
          go_wp2
          go_round
          case rel => exact ⟨k + 1, by omega, by go_num, by rw [HS.out]⟩
          case measure => simp [intOf]; omega
    · obtain rfl : k = s.size := by omega
      rw [List.take_of_length_le (by rw [size_list]; exact Nat.le_refl _)]
      have e : bits .xor .u32 (crcN s.data.toList : Nat) 4294967295 = ((crc s.data.toList : Nat) : Int) := by
        rw [show (4294967295 : Int) = ((4294967295 : Nat) : Int) from rfl, xor32 _ _ (crcN_lt _) (by decide)]
        rfl
      have HE := hidden e
      clear e
      go_wp2
      go_returns
      rw [← HE.out]
      exact ⟨rfl, rfl⟩
end Go.Proofs.YtafdkfieajdeiaaDoor
