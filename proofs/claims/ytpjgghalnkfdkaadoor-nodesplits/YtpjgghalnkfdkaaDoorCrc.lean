/- codec.Crc and the document's, walked. -/
import Derived.WalkKit
import Derived.Test.YtpjgghalnkfdkaaDoorRows
import Derived.Test.YtpjgghalnkfdkaaDoorBase
import Derived.Laws.BitsAllLaws
import Derived.Handy
/- CRC-32C of no program: by bits, and by fours of bits. -/
namespace Go.Proofs.YtpjgghalnkfdkaaDoor

/-- What four shifts do to the lowest four bits. -/
def crcTab : List Nat := [0, 274646895, 549293790, 820201905, 1098587580, 1361435347, 1640403810, 1905808397, 2197175160, 2460548119, 2722870694, 2987750089, 3280807620, 3553878443, 3811616794, 4084100981]
def crcT (r : Nat) : Nat := crcTab.getD r 0
theorem crcT_lt (r : Nat) : crcT r < 4294967296 := by
  unfold crcT
  rcases Nat.lt_or_ge r 16 with h | h
  · have : ∀ i : Fin 16, crcTab.getD i.val 0 < 4294967296 := by decide
    exact this ⟨r, h⟩
  · rw [List.getD_eq_getElem?_getD, List.getElem?_eq_none (by simpa [crcTab] using h)]
    simp
/-- One step of the program: four bits. -/
def c4 (x : Nat) : Nat := x / 16 ^^^ crcT (x % 16)
theorem c4_lt (x : Nat) (h : x < 4294967296) : c4 x < 4294967296 :=
  Nat.xor_lt_two_pow (n := 32) (by omega) (crcT_lt _)
def crcByte (x : Nat) (b : UInt8) : Nat := c4 (c4 (x ^^^ b.toNat))
theorem xor_byte_lt (x : Nat) (b : UInt8) (h : x < 4294967296) : x ^^^ b.toNat < 4294967296 :=
  Nat.xor_lt_two_pow (n := 32) h (by have := b.toNat_lt; omega)
theorem crcByte_lt (x : Nat) (b : UInt8) (h : x < 4294967296) : crcByte x b < 4294967296 := c4_lt _ (c4_lt _ (xor_byte_lt x b h))
/-- The check sum's state behind some bytes. -/
def crcN (l : List UInt8) : Nat := l.foldl crcByte 4294967295
theorem crcN_snoc (l : List UInt8) (b : UInt8) : crcN (l ++ [b]) = crcByte (crcN l) b := by simp [crcN, List.foldl_append]
theorem foldl_lt : ∀ (l : List UInt8) (x : Nat), x < 4294967296 → l.foldl crcByte x < 4294967296
  | [], _, h => h
  | b :: l, x, h => foldl_lt l _ (crcByte_lt x b h)
theorem crcN_lt (l : List UInt8) : crcN l < 4294967296 := foldl_lt l _ (by decide)
/-- The check sum. -/
def crc (l : List UInt8) : Nat := crcN l ^^^ 4294967295
theorem crc_lt (l : List UInt8) : crc l < 4294967296 := Nat.xor_lt_two_pow (n := 32) (crcN_lt l) (by decide)

/-! ### By bits -/
def c1 (x : Nat) : Nat := if x % 2 = 1 then x / 2 ^^^ 2197175160 else x / 2
theorem c1_eq (x : Nat) : c1 x = x / 2 ^^^ (if x % 2 = 1 then 2197175160 else 0) := by unfold c1; split <;> simp
theorem c1_xor (a b : Nat) : c1 (a ^^^ b) = c1 a ^^^ c1 b := by
  have hd : (a ^^^ b) / 2 = a / 2 ^^^ b / 2 := by
    have := Nat.shiftRight_xor_distrib (a := a) (b := b) (i := 1)
    simpa [Nat.shiftRight_eq_div_pow] using this
  have hm : (a ^^^ b) % 2 = (a % 2 ^^^ b % 2) := by
    have := Nat.xor_mod_two_pow (a := a) (b := b) (n := 1)
    simpa using this
  rw [c1_eq, c1_eq, c1_eq, hd, hm]
  rcases Nat.mod_two_eq_zero_or_one a with ha | ha <;> rcases Nat.mod_two_eq_zero_or_one b with hb | hb <;> simp [ha, hb]
  · rw [Nat.xor_assoc]
  · rw [Nat.xor_assoc, Nat.xor_comm (b / 2), ← Nat.xor_assoc]
  · rw [Nat.xor_assoc (a / 2), ← Nat.xor_assoc 2197175160, Nat.xor_comm 2197175160 (b / 2), Nat.xor_assoc (b / 2), Nat.xor_self, Nat.xor_zero]
theorem c1_even (q : Nat) : c1 (2 * q) = q := by unfold c1; rw [if_neg (by omega)]; omega
theorem c4_bits (x : Nat) : c1 (c1 (c1 (c1 x))) = c4 x := by
  have hx : x = (16 * (x / 16)) ^^^ (x % 16) := by
    have := Nat.two_pow_add_eq_or_of_lt (i := 4) (b := x % 16) (by omega) (x / 16)
    have h2 : 16 * (x / 16) ^^^ x % 16 = 16 * (x / 16) ||| x % 16 := by
      apply Nat.eq_of_testBit_eq
      intro i
      rw [Nat.testBit_xor, Nat.testBit_or]
      rcases Nat.lt_or_ge i 4 with hi | hi
      · have : (16 * (x / 16)).testBit i = false := by
          rw [show 16 * (x / 16) = 2 ^ 4 * (x / 16) by omega, Nat.testBit_two_pow_mul]
          simp [show ¬ 4 ≤ i by omega]
        rw [this]; simp
      · have : (x % 16).testBit i = false := Nat.testBit_lt_two_pow (Nat.lt_of_lt_of_le (show x % 16 < 2 ^ 4 by omega) (Nat.pow_le_pow_right (by decide) hi))
        rw [this]; simp
    rw [h2, show 16 * (x / 16) = 2 ^ 4 * (x / 16) by omega, ← this]
    omega
  have h4 : c1 (c1 (c1 (c1 (16 * (x / 16))))) = x / 16 := by
    rw [show 16 * (x / 16) = 2 * (2 * (2 * (2 * (x / 16)))) by omega, c1_even, c1_even, c1_even, c1_even]
  have ht : ∀ i : Fin 16, c1 (c1 (c1 (c1 i.val))) = crcT i.val := by decide
  have hr := ht ⟨x % 16, by omega⟩
  simp only at hr
  have e : c1 (c1 (c1 (c1 x))) = c1 (c1 (c1 (c1 ((16 * (x / 16)) ^^^ (x % 16))))) := by rw [← hx]
  rw [e, c1_xor, c1_xor, c1_xor, c1_xor, h4, hr]
  rfl
theorem c1_lt (x : Nat) (h : x < 4294967296) : c1 x < 4294967296 := by
  rw [c1_eq]
  exact Nat.xor_lt_two_pow (n := 32) (by omega) (by split <;> decide)
/-- k bits' steps. -/
def c1s : Nat → Nat → Nat
  | 0, x => x
  | k + 1, x => c1 (c1s k x)
theorem c1s_lt (k x : Nat) (h : x < 4294967296) : c1s k x < 4294967296 := by
  induction k with
  | zero => exact h
  | succ k ih => exact c1_lt _ ih
theorem c8 (x : Nat) (b : UInt8) : c1s 8 (x ^^^ b.toNat) = crcByte x b := by
  show c1 (c1 (c1 (c1 (c1 (c1 (c1 (c1 _))))))) = _
  rw [c4_bits, c4_bits]
  rfl
end Go.Proofs.YtpjgghalnkfdkaaDoor
namespace Go.Proofs.YtpjgghalnkfdkaaDoor
open Go.RowKit
set_option linter.unusedVariables false

/-- The table lies where its initialiser lays it. -/
def Tab (w : World) : Prop := ∀ j, j < 16 → w.cell? ⟨0, j, none⟩ = some (.int .u32 (crcT j : Nat))
theorem Tab.kept {S : Nat → Prop} {a w : World} (h : Tab a) (hk : Kept S a w) (hs : ¬ S 0) : Tab w := fun j hj => hk.cell (p := ⟨0, j, none⟩) hs (h j hj)
theorem take_crc (s : ByteArray) (k : Nat) (h : k < s.size) : crcN (s.data.toList.take (k + 1)) = crcByte (crcN (s.data.toList.take k)) s[k] := by
  rw [List.take_succ_eq_append_getElem (by rw [size_list]; exact h), crcN_snoc]
  rfl
theorem xor32 (a b : Nat) (ha : a < 4294967296) (hb : b < 4294967296) : bits .xor .u32 (a : Int) (b : Int) = ((a ^^^ b : Nat) : Int) := u32_xor_nat a b ha hb
theorem and15 (a : Nat) (ha : a < 4294967296) : bits .and .u32 (a : Int) 15 = ((a % 16 : Nat) : Int) := by
  rw [show (15 : Int) = ((15 : Nat) : Int) from rfl, u32_and_nat a 15 ha (by decide)]
  have := Nat.and_two_pow_sub_one_eq_mod a 4
  rw [show (2 : Nat) ^ 4 - 1 = 15 from rfl, show (2 : Nat) ^ 4 = 16 from rfl] at this
  rw [this]
set_option maxHeartbeats 1000000 in
set_option maxRecDepth 100000 in
theorem crc_any (s : ByteArray) (w : World) (hs : s.size ≤ 281474976710656) (hT : Tab w) : Calls Tryd.prog 63 #[.string s] w fun x w' => x = .returned (.int .u32 (crc s.data.toList : Nat)) ∧ w = w' := by
  have HT := hidden hT
  clear hT
  go_enter Tryd.func63, Tryd.ntmps63
  go_wp2
  go_loop [3, 7] (fun n i => ∃ k : Nat, k ≤ s.size ∧ i = .int .i64 k ∧ n = .int .u32 (crcN (s.data.toList.take k) : Nat)) (fun _ i => s.size - (intOf i).toNat)
  case atStart => exact ⟨0, Nat.zero_le _, rfl, rfl⟩
  case round =>
    obtain ⟨k, hk, rfl, rfl⟩ := hrel
    by_cases hlt : k < s.size
    · have hstep := take_crc s k hlt
      have hX := crcN_lt (s.data.toList.take k)
      generalize crcN (s.data.toList.take k) = X at hstep hX ⊢
      have hY := xor_byte_lt X s[k] hX
      have e1 : bits .xor .u32 (X : Int) ((s[k].toNat : Int) % 4294967296) = ((X ^^^ s[k].toNat : Nat) : Int) := by
        have hb := s[k].toNat_lt
        have : (s[k].toNat : Int) % 4294967296 = (s[k].toNat : Int) := by omega
        rw [this, xor32 _ _ hX (by omega)]
      have e2 : crcByte X s[k] = c4 (c4 (X ^^^ s[k].toNat)) := rfl
      rw [e2] at hstep
      generalize X ^^^ s[k].toNat = Y at hY e1 hstep
      have hZ := c4_lt Y hY
      have a1 := and15 Y hY
      have x1 : bits .xor .u32 ((Y : Int) / 16) (crcT (Y % 16) : Nat) = ((c4 Y : Nat) : Int) := by
        rw [show (Y : Int) / 16 = ((Y / 16 : Nat) : Int) by omega, xor32 _ _ (by omega) (crcT_lt _)]
        rfl
      have t1 := HT.out (Y % 16) (by omega)
      generalize c4 Y = Z at hZ x1 hstep
      have a2 := and15 Z hZ
      have x2 : bits .xor .u32 ((Z : Int) / 16) (crcT (Z % 16) : Nat) = ((c4 Z : Nat) : Int) := by
        rw [show (Z : Int) / 16 = ((Z / 16 : Nat) : Int) by omega, xor32 _ _ (by omega) (crcT_lt _)]
        rfl
      have t2 := HT.out (Z % 16) (by omega)
      have HS := hidden hstep
      clear hstep e2
      generalize hr1 : Y % 16 = r1 at a1 x1 t1
      generalize hr2 : Z % 16 = r2 at a2 x2 t2
      have b1 : r1 < 16 := by omega
      have b2 : r2 < 16 := by omega
      clear hr1 hr2
      go_wp2
      go_round
      case rel => exact ⟨k + 1, by omega, by go_num, by rw [HS.out]⟩
      case measure => simp [intOf]; omega
    · obtain rfl : k = s.size := by omega
      rw [List.take_of_length_le (by rw [size_list]; exact Nat.le_refl _)]
      have e : bits .xor .u32 IntKind.u32.max (crcN s.data.toList : Nat) = ((crc s.data.toList : Nat) : Int) := by
        rw [show IntKind.u32.max = ((4294967295 : Nat) : Int) from rfl, xor32 _ _ (by decide) (crcN_lt _), Nat.xor_comm]
        rfl
      have HE := hidden e
      clear e
      go_wp2
      go_returns
      rw [← HE.out]
      exact ⟨rfl, rfl⟩
theorem c1_walk (x : Nat) (h : x < 4294967296) : bits .xor .u32 ((x : Int) / 2) 2197175160 = ((x / 2 ^^^ 2197175160 : Nat) : Int) := by
  rw [show (x : Int) / 2 = ((x / 2 : Nat) : Int) by omega, show (2197175160 : Int) = ((2197175160 : Nat) : Int) from rfl, xor32 _ _ (by omega) (by decide)]
set_option maxHeartbeats 1000000 in
set_option maxRecDepth 100000 in
theorem refCrc_any (s : ByteArray) (w : World) (hs : s.size ≤ 281474976710656) : Calls Tryd.prog 37 #[.string s] w fun x w' => x = .returned (.int .u32 (crc s.data.toList : Nat)) ∧ w = w' := by
  go_enter Tryd.func37, Tryd.ntmps37
  go_wp2
  go_loop [3, 4] (fun n i => ∃ k : Nat, k ≤ s.size ∧ i = .int .i64 k ∧ n = .int .u32 (crcN (s.data.toList.take k) : Nat)) (fun _ i => s.size - (intOf i).toNat)
  case atStart => exact ⟨0, Nat.zero_le _, rfl, rfl⟩
  case round =>
    obtain ⟨k, hk, rfl, rfl⟩ := hrel
    by_cases hlt : k < s.size
    · have hstep := take_crc s k hlt
      have hX := crcN_lt (s.data.toList.take k)
      generalize crcN (s.data.toList.take k) = X at hstep hX ⊢
      have hY := xor_byte_lt X s[k] hX
      rw [← c8] at hstep
      have e1 : bits .xor .u32 (X : Int) ((s[k].toNat : Int) % 4294967296) = ((X ^^^ s[k].toNat : Nat) : Int) := by
        have hb := s[k].toNat_lt
        have : (s[k].toNat : Int) % 4294967296 = (s[k].toNat : Int) := by omega
        rw [this, xor32 _ _ hX (by omega)]
      generalize X ^^^ s[k].toNat = Y at hY e1 hstep
      have HS := hidden hstep
      clear hstep
      go_wp2
      go_loop [3, 5] (fun n j => ∃ m : Nat, m ≤ 8 ∧ j = .int .i64 m ∧ n = .int .u32 (c1s m Y : Nat)) (fun _ j => 8 - (intOf j).toNat)
      case atStart => exact ⟨0, by decide, rfl, rfl⟩
      case round =>
        obtain ⟨m, hm, rfl, rfl⟩ := hrel
        by_cases hm8 : m < 8
        · have hc := c1s_lt m Y hY
          have en : c1s (m + 1) Y = c1 (c1s m Y) := rfl
          have HN := hidden en
          clear en
          have cw := c1_walk (c1s m Y) hc
          have c1d : c1 (c1s m Y) = if c1s m Y % 2 = 1 then c1s m Y / 2 ^^^ 2197175160 else c1s m Y / 2 := rfl
          have HC := hidden c1d
          clear c1d
          by_cases hodd : c1s m Y % 2 = 1
          · have ht : (((c1s m Y : Nat) : Int) % 2 == 1) = true := beq_iff_eq.2 (by omega)
            rw [if_pos hodd] at HC
            clear hodd
            go_wp2
            go_round
            case rel => exact ⟨m + 1, by omega, by go_num, by rw [HN.out, HC.out]⟩
            case measure => simp [intOf]; omega
          · have ht : (((c1s m Y : Nat) : Int) % 2 == 1) = false := beq_eq_false_iff_ne.2 (by omega)
            rw [if_neg hodd] at HC
            clear hodd cw
            go_wp2
            go_round
            case rel => exact ⟨m + 1, by omega, by go_num, by rw [HN.out, HC.out]; go_num⟩
            case measure => simp [intOf]; omega
        · obtain rfl : m = 8 := by omega
          go_wp2
          go_round
          case rel => exact ⟨k + 1, by omega, by go_num, by rw [HS.out]⟩
          case measure => simp [intOf]; omega
    · obtain rfl : k = s.size := by omega
      rw [List.take_of_length_le (by rw [size_list]; exact Nat.le_refl _)]
      have e : bits .xor .u32 (crcN s.data.toList : Nat) 4294967295 = ((crc s.data.toList : Nat) : Int) := by
        rw [show (4294967295 : Int) = ((4294967295 : Nat) : Int) from rfl, xor32 _ _ (crcN_lt _) (by decide)]
        rfl
      have HE := hidden e
      clear e
      go_wp2
      go_returns
      rw [← HE.out]
      exact ⟨rfl, rfl⟩
end Go.Proofs.YtpjgghalnkfdkaaDoor
