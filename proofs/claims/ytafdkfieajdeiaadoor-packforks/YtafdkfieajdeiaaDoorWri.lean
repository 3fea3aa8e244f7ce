/- codec.Writer: every write, whatever there is room for; what is asked of it. -/
import Derived.Test.YtafdkfieajdeiaaDoorPut
import Derived.Lib.AppendStr
import Derived.Laws.BytesArg
import Derived.Laws.Bits128
namespace Go.Proofs.YtafdkfieajdeiaaDoor
open Go.RowKit
set_option linter.unusedVariables false

/-- A Writer that is over holds nothing. -/
structure WS (B g : Nat) (most : Int) (st : List UInt8 × Bool) (w : World) : Prop where
  ex : ∃ v, Wr B g v most st.1 st.2 w ∧ (st.2 = true → st.1 = [] ∧ v = .slice none 0 0)
/-- What it holds behind a write. -/
def wput (most : Int) (st : List UInt8 × Bool) (new : List UInt8) : List UInt8 × Bool :=
  if wOk most st.1.length st.2 new.length = true then (st.1 ++ new, false) else ([], true)
theorem wput_yes {most : Int} {st : List UInt8 × Bool} {new : List UInt8} {n : Int} (hn : n = new.length) (h : wOk most st.1.length st.2 n = true) : wput most st new = (st.1 ++ new, st.2) := by
  subst hn
  unfold wput
  rw [if_pos h]
  cases st with | mk a b => cases b <;> simp [wOk] at *
theorem wput_no {most : Int} {st : List UInt8 × Bool} {new : List UInt8} {n : Int} (hn : n = new.length) (h : wOk most st.1.length st.2 n = false) : wput most st new = ([], true) := by
  subst hn
  unfold wput
  rw [if_neg (by simp [h])]
theorem WS.of_yes {B g : Nat} {most : Int} {st : List UInt8 × Bool} {w : World} {v : Value} {new : List UInt8} {n : Int} (hn : n = new.length) (h : wOk most st.1.length st.2 n = true) (hw : Wr B g v most (st.1 ++ new) st.2 w) : WS B g most (wput most st new) w := by
  rw [wput_yes hn h]
  refine ⟨v, hw, fun ho => ?_⟩
  have ho' : st.2 = true := ho
  simp [wOk, ho'] at h
theorem WS.of_no {B g : Nat} {most : Int} {st : List UInt8 × Bool} {w : World} {new : List UInt8} {n : Int} (hn : n = new.length) (h : wOk most st.1.length st.2 n = false) (hw : Wr B g (.slice none 0 0) most [] true w) : WS B g most (wput most st new) w := by
  rw [wput_no hn h]
  exact ⟨_, hw, fun _ => ⟨rfl, rfl⟩⟩
theorem kept_g {B g : Nat} {w w' : World} (h : Kept (fun k => k = g) w w') : Kept (wrS B g) w w' := h.mono fun _ _ hk => Or.inl hk

set_option maxHeartbeats 400000 in
theorem put32_nil (n : Int) (w : World) : Calls Tryd.prog 77 #[.pointer none, .int .u32 n] w fun e w' => e = .returned (.tuple #[]) ∧ w = w' := by
  go_enter Tryd.func77, Tryd.ntmps77
  go_wp2_with (first
    | (go_at_call 80; refine (width32 _).mono ?_; rintro e w1 ⟨rfl, rfl⟩)
    | (go_at_call 81; refine (room_nil _ _).mono ?_; rintro e w1 ⟨rfl, rfl⟩))
  refine bodyPost_ret (results_none rfl _ _ _) rfl ?_
  exact ⟨rfl, rfl⟩
set_option maxHeartbeats 400000 in
theorem put32_no {B g : Nat} {v : Value} {most : Int} {bs : List UInt8} {over : Bool} {w : World} (h : Wr B g v most bs over w) (ho : over = true → bs = [] ∧ v = .slice none 0 0) (n : Int) (hk : wOk most bs.length over 4 = false) :
    Calls Tryd.prog 77 #[.pointer (some ⟨g, 0, none⟩), .int .u32 n] w fun e w' => e = .returned (.tuple #[]) ∧ Wr B g (.slice none 0 0) most [] true w' ∧ Kept (fun k => k = g) w w' := by
  have H := hidden h
  have HO := hidden ho
  clear h ho
  go_enter Tryd.func77, Tryd.ntmps77
  go_wp2_with (first
    | (go_at_call 80; refine (width32 _).mono ?_; rintro e w1 ⟨rfl, rfl⟩)
    | (go_at_call 81; refine (room_no H.out HO.out _ hk).mono ?_; rintro e w1 ⟨rfl, h1, h2⟩))
  refine bodyPost_ret (results_none rfl _ _ _) rfl ?_
  exact ⟨rfl, h1, h2⟩
theorem put32_any {B g : Nat} {most : Int} {st : List UInt8 × Bool} {w : World} (h : WS B g most st w) (n : Nat) (hn : n < 4294967296) (hl : st.1.length + 4 ≤ 140737488355328) :
    Calls Tryd.prog 77 #[.pointer (some ⟨g, 0, none⟩), .int .u32 n] w fun e w' => e = .returned (.tuple #[]) ∧ WS B g most (wput most st (be 4 n)) w' ∧ Kept (wrS B g) w w' := by
  obtain ⟨v, hv, ho⟩ := h
  cases hk : wOk most st.1.length st.2 4 with
  | true =>
    refine (put32 hv n hn hk hl).mono ?_
    rintro e w' ⟨rfl, v', h1, h2⟩
    exact ⟨rfl, WS.of_yes (by rw [be_length]; rfl) hk h1, h2⟩
  | false =>
    refine (put32_no hv ho n hk).mono ?_
    rintro e w' ⟨rfl, h1, h2⟩
    exact ⟨rfl, WS.of_no (by rw [be_length]; rfl) hk h1, kept_g h2⟩
set_option maxHeartbeats 400000 in
theorem wU32 {B g : Nat} {most : Int} {st : List UInt8 × Bool} {w : World} (h : WS B g most st w) (n : Nat) (hn : n < 4294967296) (hl : st.1.length + 4 ≤ 140737488355328) :
    Calls Tryd.prog 66 #[.pointer (some ⟨g, 0, none⟩), .int .u32 n] w fun e w' => e = .returned (.tuple #[]) ∧ WS B g most (wput most st (be 4 n)) w' ∧ Kept (wrS B g) w w' := by
  have H := hidden h
  clear h
  go_enter Tryd.func66, Tryd.ntmps66
  go_wp2_with (go_at_call 77; refine (put32_any H.out n hn hl).mono ?_; rintro e w1 ⟨rfl, h1, h2⟩)
  go_end0
  exact ⟨rfl, h1, h2⟩
set_option maxHeartbeats 400000 in
theorem wU32_nil (n : Int) (w : World) : Calls Tryd.prog 66 #[.pointer none, .int .u32 n] w fun e w' => e = .returned (.tuple #[]) ∧ w = w' := by
  go_enter Tryd.func66, Tryd.ntmps66
  go_wp2_with (go_at_call 77; refine (put32_nil n _).mono ?_; rintro e w1 ⟨rfl, rfl⟩)
  go_end0
  exact ⟨rfl, rfl⟩
/-- What is left of the varint behind k groups. -/
theorem vb_round (f n : Nat) (h : 128 ≤ n) (hf : n < 128 ^ (f + 1)) : ∃ f', f = f' + 1 ∧ vb f n = UInt8.ofNat (n % 128 + 128) :: vb f' (n / 128) ∧ n / 128 < 128 ^ (f' + 1) := by
  cases f with
  | zero => simp at hf; omega
  | succ f' => exact ⟨f', rfl, vb_big f' n (by omega), by rw [Nat.pow_succ] at hf; omega⟩
theorem byte_or (m : Nat) : Value.int .u8 (bits .or .u8 (IntKind.u8.wrap (m : Int)) 128) = U8 (UInt8.ofNat (m % 128 + 128)) := by
  have e : IntKind.u8.wrap (m : Int) = ((m % 256 : Nat) : Int) := by rw [IntKind.wrap_u8']; omega
  rw [e, show (128 : Int) = ((128 : Nat) : Int) from rfl, u8_or_nat _ _ (by omega) (by decide)]
  unfold U8
  rw [UInt8.toNat_ofNat']
  have : (m % 256) ||| 128 = (m % 128 + 128) % 2 ^ 8 := by
    have h1 : m % 256 < 128 ∨ 128 ≤ m % 256 := by omega
    apply Nat.eq_of_testBit_eq
    intro i
    rw [Nat.testBit_or, show (128 : Nat) = 2 ^ 7 from rfl, Nat.testBit_two_pow, Nat.add_comm, show (m % 2 ^ 7) = m % 128 from rfl, Nat.mod_eq_of_lt (show 2 ^ 7 + m % 128 < 2 ^ 8 by omega)]
    have hm : m % 128 < 2 ^ 7 := by omega
    rcases Nat.lt_trichotomy i 7 with hi | rfl | hi
    · rw [Nat.testBit_two_pow_add_gt hi, show m % 256 = m % 2 ^ 8 from rfl, show m % 128 = m % 2 ^ 7 from rfl, Nat.testBit_mod_two_pow, Nat.testBit_mod_two_pow]
      simp [hi, show i < 8 by omega, show ¬ 7 = i by omega]
    · rw [Nat.testBit_two_pow_add_eq, Nat.testBit_lt_two_pow hm]
      simp
    · have a1 : (m % 256).testBit i = false := Nat.testBit_lt_two_pow (Nat.lt_of_lt_of_le (show m % 256 < 2 ^ 8 by omega) (Nat.pow_le_pow_right (by decide) (by omega)))
      have a2 : (2 ^ 7 + m % 128).testBit i = false := Nat.testBit_lt_two_pow (Nat.lt_of_lt_of_le (show 2 ^ 7 + m % 128 < 2 ^ 8 by omega) (Nat.pow_le_pow_right (by decide) (by omega)))
      rw [a1, a2]
      simp [show ¬ 7 = i by omega]
  rw [this]
theorem byte_wrap (m : Nat) : Value.int .u8 (IntKind.u8.wrap (m : Int)) = U8 (UInt8.ofNat m) := by
  have e : IntKind.u8.wrap (m : Int) = ((m % 256 : Nat) : Int) := by rw [IntKind.wrap_u8']; omega
  rw [e]
  unfold U8
  rw [UInt8.toNat_ofNat']
end Go.Proofs.YtafdkfieajdeiaaDoor
