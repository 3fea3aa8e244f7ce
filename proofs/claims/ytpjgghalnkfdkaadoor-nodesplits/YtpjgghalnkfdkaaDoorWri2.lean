/- codec.Writer: varints, texts, raw bytes; what is asked of it; a new one. -/
import Derived.Test.YtpjgghalnkfdkaaDoorPut
import Derived.Lib.AppendStr
import Derived.Laws.BytesArg
import Derived.Laws.Bits128
import Derived.Handy
/- codec.Writer: every write, whatever there is room for; what is asked of it. -/
namespace Go.Proofs.YtpjgghalnkfdkaaDoor
open Go.RowKit
set_option linter.unusedVariables false

/-- A Writer that is over holds nothing. -/
structure WS (B g : Nat) (most : Int) (st : List UInt8 × Bool) (w : World) : Prop where
  ex : ∃ v, Wr B g v most st.1 st.2 w ∧ (st.2 = true → st.1 = [] ∧ v = .slice none 0 0)
/-- What it holds behind a write. -/
def wput (most : Int) (st : List UInt8 × Bool) (new : List UInt8) : List UInt8 × Bool :=
  if wOk most st.1.length st.2 new.length = true then (st.1 ++ new, false) else ([], true)
theorem wput_yes {most : Int} {st : List UInt8 × Bool} {new : List UInt8} {n : Int} (hn : n = new.length) (h : wOk most st.1.length st.2 n = true) : wput most st new = (st.1 ++ new, st.2) := by
  subst hn
  unfold wput
  rw [if_pos h]
  cases st with | mk a b => cases b <;> simp [wOk] at *
theorem wput_no {most : Int} {st : List UInt8 × Bool} {new : List UInt8} {n : Int} (hn : n = new.length) (h : wOk most st.1.length st.2 n = false) : wput most st new = ([], true) := by
  subst hn
  unfold wput
  rw [if_neg (by simp [h])]
theorem WS.of_yes {B g : Nat} {most : Int} {st : List UInt8 × Bool} {w : World} {v : Value} {new : List UInt8} {n : Int} (hn : n = new.length) (h : wOk most st.1.length st.2 n = true) (hw : Wr B g v most (st.1 ++ new) st.2 w) : WS B g most (wput most st new) w := by
  rw [wput_yes hn h]
  refine ⟨v, hw, fun ho => ?_⟩
  have ho' : st.2 = true := ho
  simp [wOk, ho'] at h
theorem WS.of_no {B g : Nat} {most : Int} {st : List UInt8 × Bool} {w : World} {new : List UInt8} {n : Int} (hn : n = new.length) (h : wOk most st.1.length st.2 n = false) (hw : Wr B g (.slice none 0 0) most [] true w) : WS B g most (wput most st new) w := by
  rw [wput_no hn h]
  exact ⟨_, hw, fun _ => ⟨rfl, rfl⟩⟩
theorem kept_g {B g : Nat} {w w' : World} (h : Kept (fun k => k = g) w w') : Kept (wrS B g) w w' := h.mono fun _ _ hk => Or.inl hk

set_option maxHeartbeats 400000 in
theorem put8_nil (n : Int) (w : World) : Calls Tryd.prog 85 #[.pointer none, .int .u8 n] w fun e w' => e = .returned (.tuple #[]) ∧ w = w' := by
  go_enter Tryd.func85, Tryd.ntmps85
  go_wp2_with (first
    | (go_at_call 98; refine (width8 _).mono ?_; rintro e w1 ⟨rfl, rfl⟩)
    | (go_at_call 86; refine (room_nil _ _).mono ?_; rintro e w1 ⟨rfl, rfl⟩))
  refine bodyPost_ret (results_none rfl _ _ _) rfl ?_
  exact ⟨rfl, rfl⟩
set_option maxHeartbeats 400000 in
theorem put8_no {B g : Nat} {v : Value} {most : Int} {bs : List UInt8} {over : Bool} {w : World} (h : Wr B g v most bs over w) (ho : over = true → bs = [] ∧ v = .slice none 0 0) (n : Int) (hk : wOk most bs.length over 1 = false) :
    Calls Tryd.prog 85 #[.pointer (some ⟨g, 0, none⟩), .int .u8 n] w fun e w' => e = .returned (.tuple #[]) ∧ Wr B g (.slice none 0 0) most [] true w' ∧ Kept (fun k => k = g) w w' := by
  have H := hidden h
  have HO := hidden ho
  clear h ho
  go_enter Tryd.func85, Tryd.ntmps85
  go_wp2_with (first
    | (go_at_call 98; refine (width8 _).mono ?_; rintro e w1 ⟨rfl, rfl⟩)
    | (go_at_call 86; refine (room_no H.out HO.out _ hk).mono ?_; rintro e w1 ⟨rfl, h1, h2⟩))
  refine bodyPost_ret (results_none rfl _ _ _) rfl ?_
  exact ⟨rfl, h1, h2⟩
theorem put8_any {B g : Nat} {most : Int} {st : List UInt8 × Bool} {w : World} (h : WS B g most st w) (n : Nat) (hn : n < 256) (hl : st.1.length + 1 ≤ 140737488355328) :
    Calls Tryd.prog 85 #[.pointer (some ⟨g, 0, none⟩), .int .u8 n] w fun e w' => e = .returned (.tuple #[]) ∧ WS B g most (wput most st (be 1 n)) w' ∧ Kept (wrS B g) w w' := by
  obtain ⟨v, hv, ho⟩ := h
  cases hk : wOk most st.1.length st.2 1 with
  | true =>
    refine (put8 hv n hn hk hl).mono ?_
    rintro e w' ⟨rfl, v', h1, h2⟩
    exact ⟨rfl, WS.of_yes (by rw [be_length]; rfl) hk h1, h2⟩
  | false =>
    refine (put8_no hv ho n hk).mono ?_
    rintro e w' ⟨rfl, h1, h2⟩
    exact ⟨rfl, WS.of_no (by rw [be_length]; rfl) hk h1, kept_g h2⟩
set_option maxHeartbeats 400000 in
theorem wU8 {B g : Nat} {most : Int} {st : List UInt8 × Bool} {w : World} (h : WS B g most st w) (n : Nat) (hn : n < 256) (hl : st.1.length + 1 ≤ 140737488355328) :
    Calls Tryd.prog 60 #[.pointer (some ⟨g, 0, none⟩), .int .u8 n] w fun e w' => e = .returned (.tuple #[]) ∧ WS B g most (wput most st (be 1 n)) w' ∧ Kept (wrS B g) w w' := by
  have H := hidden h
  clear h
  go_enter Tryd.func60, Tryd.ntmps60
  go_wp2_with (go_at_call 85; refine (put8_any H.out n hn hl).mono ?_; rintro e w1 ⟨rfl, h1, h2⟩)
  go_end0
  exact ⟨rfl, h1, h2⟩
set_option maxHeartbeats 400000 in
theorem wU8_nil (n : Int) (w : World) : Calls Tryd.prog 60 #[.pointer none, .int .u8 n] w fun e w' => e = .returned (.tuple #[]) ∧ w = w' := by
  go_enter Tryd.func60, Tryd.ntmps60
  go_wp2_with (go_at_call 85; refine (put8_nil n _).mono ?_; rintro e w1 ⟨rfl, rfl⟩)
  go_end0
  exact ⟨rfl, rfl⟩
set_option maxHeartbeats 400000 in
theorem put16_nil (n : Int) (w : World) : Calls Tryd.prog 87 #[.pointer none, .int .u16 n] w fun e w' => e = .returned (.tuple #[]) ∧ w = w' := by
  go_enter Tryd.func87, Tryd.ntmps87
  go_wp2_with (first
    | (go_at_call 99; refine (width16 _).mono ?_; rintro e w1 ⟨rfl, rfl⟩)
    | (go_at_call 86; refine (room_nil _ _).mono ?_; rintro e w1 ⟨rfl, rfl⟩))
  refine bodyPost_ret (results_none rfl _ _ _) rfl ?_
  exact ⟨rfl, rfl⟩
set_option maxHeartbeats 400000 in
theorem put16_no {B g : Nat} {v : Value} {most : Int} {bs : List UInt8} {over : Bool} {w : World} (h : Wr B g v most bs over w) (ho : over = true → bs = [] ∧ v = .slice none 0 0) (n : Int) (hk : wOk most bs.length over 2 = false) :
    Calls Tryd.prog 87 #[.pointer (some ⟨g, 0, none⟩), .int .u16 n] w fun e w' => e = .returned (.tuple #[]) ∧ Wr B g (.slice none 0 0) most [] true w' ∧ Kept (fun k => k = g) w w' := by
  have H := hidden h
  have HO := hidden ho
  clear h ho
  go_enter Tryd.func87, Tryd.ntmps87
  go_wp2_with (first
    | (go_at_call 99; refine (width16 _).mono ?_; rintro e w1 ⟨rfl, rfl⟩)
    | (go_at_call 86; refine (room_no H.out HO.out _ hk).mono ?_; rintro e w1 ⟨rfl, h1, h2⟩))
  refine bodyPost_ret (results_none rfl _ _ _) rfl ?_
  exact ⟨rfl, h1, h2⟩
theorem put16_any {B g : Nat} {most : Int} {st : List UInt8 × Bool} {w : World} (h : WS B g most st w) (n : Nat) (hn : n < 65536) (hl : st.1.length + 2 ≤ 140737488355328) :
    Calls Tryd.prog 87 #[.pointer (some ⟨g, 0, none⟩), .int .u16 n] w fun e w' => e = .returned (.tuple #[]) ∧ WS B g most (wput most st (be 2 n)) w' ∧ Kept (wrS B g) w w' := by
  obtain ⟨v, hv, ho⟩ := h
  cases hk : wOk most st.1.length st.2 2 with
  | true =>
    refine (put16 hv n hn hk hl).mono ?_
    rintro e w' ⟨rfl, v', h1, h2⟩
    exact ⟨rfl, WS.of_yes (by rw [be_length]; rfl) hk h1, h2⟩
  | false =>
    refine (put16_no hv ho n hk).mono ?_
    rintro e w' ⟨rfl, h1, h2⟩
    exact ⟨rfl, WS.of_no (by rw [be_length]; rfl) hk h1, kept_g h2⟩
set_option maxHeartbeats 400000 in
theorem wU16 {B g : Nat} {most : Int} {st : List UInt8 × Bool} {w : World} (h : WS B g most st w) (n : Nat) (hn : n < 65536) (hl : st.1.length + 2 ≤ 140737488355328) :
    Calls Tryd.prog 64 #[.pointer (some ⟨g, 0, none⟩), .int .u16 n] w fun e w' => e = .returned (.tuple #[]) ∧ WS B g most (wput most st (be 2 n)) w' ∧ Kept (wrS B g) w w' := by
  have H := hidden h
  clear h
  go_enter Tryd.func64, Tryd.ntmps64
  go_wp2_with (go_at_call 87; refine (put16_any H.out n hn hl).mono ?_; rintro e w1 ⟨rfl, h1, h2⟩)
  go_end0
  exact ⟨rfl, h1, h2⟩
set_option maxHeartbeats 400000 in
theorem wU16_nil (n : Int) (w : World) : Calls Tryd.prog 64 #[.pointer none, .int .u16 n] w fun e w' => e = .returned (.tuple #[]) ∧ w = w' := by
  go_enter Tryd.func64, Tryd.ntmps64
  go_wp2_with (go_at_call 87; refine (put16_nil n _).mono ?_; rintro e w1 ⟨rfl, rfl⟩)
  go_end0
  exact ⟨rfl, rfl⟩
set_option maxHeartbeats 400000 in
theorem put32_nil (n : Int) (w : World) : Calls Tryd.prog 84 #[.pointer none, .int .u32 n] w fun e w' => e = .returned (.tuple #[]) ∧ w = w' := by
  go_enter Tryd.func84, Tryd.ntmps84
  go_wp2_with (first
    | (go_at_call 97; refine (width32 _).mono ?_; rintro e w1 ⟨rfl, rfl⟩)
    | (go_at_call 86; refine (room_nil _ _).mono ?_; rintro e w1 ⟨rfl, rfl⟩))
  refine bodyPost_ret (results_none rfl _ _ _) rfl ?_
  exact ⟨rfl, rfl⟩
set_option maxHeartbeats 400000 in
theorem put32_no {B g : Nat} {v : Value} {most : Int} {bs : List UInt8} {over : Bool} {w : World} (h : Wr B g v most bs over w) (ho : over = true → bs = [] ∧ v = .slice none 0 0) (n : Int) (hk : wOk most bs.length over 4 = false) :
    Calls Tryd.prog 84 #[.pointer (some ⟨g, 0, none⟩), .int .u32 n] w fun e w' => e = .returned (.tuple #[]) ∧ Wr B g (.slice none 0 0) most [] true w' ∧ Kept (fun k => k = g) w w' := by
  have H := hidden h
  have HO := hidden ho
  clear h ho
  go_enter Tryd.func84, Tryd.ntmps84
  go_wp2_with (first
    | (go_at_call 97; refine (width32 _).mono ?_; rintro e w1 ⟨rfl, rfl⟩)
    | (go_at_call 86; refine (room_no H.out HO.out _ hk).mono ?_; rintro e w1 ⟨rfl, h1, h2⟩))
  refine bodyPost_ret (results_none rfl _ _ _) rfl ?_
  exact ⟨rfl, h1, h2⟩
theorem put32_any {B g : Nat} {most : Int} {st : List UInt8 × Bool} {w : World} (h : WS B g most st w) (n : Nat) (hn : n < 4294967296) (hl : st.1.length + 4 ≤ 140737488355328) :
    Calls Tryd.prog 84 #[.pointer (some ⟨g, 0, none⟩), .int .u32 n] w fun e w' => e = .returned (.tuple #[]) ∧ WS B g most (wput most st (be 4 n)) w' ∧ Kept (wrS B g) w w' := by
  obtain ⟨v, hv, ho⟩ := h
  cases hk : wOk most st.1.length st.2 4 with
  | true =>
    refine (put32 hv n hn hk hl).mono ?_
    rintro e w' ⟨rfl, v', h1, h2⟩
    exact ⟨rfl, WS.of_yes (by rw [be_length]; rfl) hk h1, h2⟩
  | false =>
    refine (put32_no hv ho n hk).mono ?_
    rintro e w' ⟨rfl, h1, h2⟩
    exact ⟨rfl, WS.of_no (by rw [be_length]; rfl) hk h1, kept_g h2⟩
set_option maxHeartbeats 400000 in
theorem wU32 {B g : Nat} {most : Int} {st : List UInt8 × Bool} {w : World} (h : WS B g most st w) (n : Nat) (hn : n < 4294967296) (hl : st.1.length + 4 ≤ 140737488355328) :
    Calls Tryd.prog 59 #[.pointer (some ⟨g, 0, none⟩), .int .u32 n] w fun e w' => e = .returned (.tuple #[]) ∧ WS B g most (wput most st (be 4 n)) w' ∧ Kept (wrS B g) w w' := by
  have H := hidden h
  clear h
  go_enter Tryd.func59, Tryd.ntmps59
  go_wp2_with (go_at_call 84; refine (put32_any H.out n hn hl).mono ?_; rintro e w1 ⟨rfl, h1, h2⟩)
  go_end0
  exact ⟨rfl, h1, h2⟩
set_option maxHeartbeats 400000 in
theorem wU32_nil (n : Int) (w : World) : Calls Tryd.prog 59 #[.pointer none, .int .u32 n] w fun e w' => e = .returned (.tuple #[]) ∧ w = w' := by
  go_enter Tryd.func59, Tryd.ntmps59
  go_wp2_with (go_at_call 84; refine (put32_nil n _).mono ?_; rintro e w1 ⟨rfl, rfl⟩)
  go_end0
  exact ⟨rfl, rfl⟩
/-- What is left of the varint behind k groups. -/
theorem vb_round (f n : Nat) (h : 128 ≤ n) (hf : n < 128 ^ (f + 1)) : ∃ f', f = f' + 1 ∧ vb f n = UInt8.ofNat (n % 128 + 128) :: vb f' (n / 128) ∧ n / 128 < 128 ^ (f' + 1) := by
  cases f with
  | zero => simp at hf; omega
  | succ f' => exact ⟨f', rfl, vb_big f' n (by omega), by rw [Nat.pow_succ] at hf; omega⟩
theorem byte_or (m : Nat) : Value.int .u8 (bits .or .u8 (IntKind.u8.wrap (m : Int)) 128) = U8 (UInt8.ofNat (m % 128 + 128)) := by
  have e : IntKind.u8.wrap (m : Int) = ((m % 256 : Nat) : Int) := by rw [IntKind.wrap_u8']; omega
  rw [e, show (128 : Int) = ((128 : Nat) : Int) from rfl, u8_or_nat _ _ (by omega) (by decide)]
  unfold U8
  rw [UInt8.toNat_ofNat']
  have : (m % 256) ||| 128 = (m % 128 + 128) % 2 ^ 8 := by
    have h1 : m % 256 < 128 ∨ 128 ≤ m % 256 := by omega
    apply Nat.eq_of_testBit_eq
    intro i
    rw [Nat.testBit_or, show (128 : Nat) = 2 ^ 7 from rfl, Nat.testBit_two_pow, Nat.add_comm, show (m % 2 ^ 7) = m % 128 from rfl, Nat.mod_eq_of_lt (show 2 ^ 7 + m % 128 < 2 ^ 8 by omega)]
    have hm : m % 128 < 2 ^ 7 := by omega
    rcases Nat.lt_trichotomy i 7 with hi | rfl | hi
    · rw [Nat.testBit_two_pow_add_gt hi, show m % 256 = m % 2 ^ 8 from rfl, show m % 128 = m % 2 ^ 7 from rfl, Nat.testBit_mod_two_pow, Nat.testBit_mod_two_pow]
      simp [hi, show i < 8 by omega, show ¬ 7 = i by omega]
    · rw [Nat.testBit_two_pow_add_eq, Nat.testBit_lt_two_pow hm]
      simp
    · have a1 : (m % 256).testBit i = false := Nat.testBit_lt_two_pow (Nat.lt_of_lt_of_le (show m % 256 < 2 ^ 8 by omega) (Nat.pow_le_pow_right (by decide) (by omega)))
      have a2 : (2 ^ 7 + m % 128).testBit i = false := Nat.testBit_lt_two_pow (Nat.lt_of_lt_of_le (show 2 ^ 7 + m % 128 < 2 ^ 8 by omega) (Nat.pow_le_pow_right (by decide) (by omega)))
      rw [a1, a2]
      simp [show ¬ 7 = i by omega]
  rw [this]
theorem byte_wrap (m : Nat) : Value.int .u8 (IntKind.u8.wrap (m : Int)) = U8 (UInt8.ofNat m) := by
  have e : IntKind.u8.wrap (m : Int) = ((m % 256 : Nat) : Int) := by rw [IntKind.wrap_u8']; omega
  rw [e]
  unfold U8
  rw [UInt8.toNat_ofNat']
end Go.Proofs.YtpjgghalnkfdkaaDoor
namespace Go.Proofs.YtpjgghalnkfdkaaDoor
open Go.RowKit
set_option linter.unusedVariables false

theorem vb_pos (f n : Nat) : 1 ≤ (vb f n).length := by
  cases f with
  | zero => simp [vb]
  | succ f => simp only [vb]; split <;> simp
/-! ### Raw -/
theorem raw_nil (s : ByteArray) (w : World) (hs : s.size ≤ 140737488355328) : Calls Tryd.prog 61 #[.pointer none, .string s] w fun e w' => e = .returned (.tuple #[]) ∧ w = w' := by
  go_enter Tryd.func61, Tryd.ntmps61
  go_wp2_with (go_at_call 86; refine (room_nil _ _).mono ?_; rintro e w1 ⟨rfl, rfl⟩)
  go_end0
  exact ⟨rfl, rfl⟩
theorem raw_no {B g : Nat} {v : Value} {most : Int} {bs : List UInt8} {over : Bool} {w : World} (h : Wr B g v most bs over w) (ho : over = true → bs = [] ∧ v = .slice none 0 0) (s : ByteArray) (hs : s.size ≤ 140737488355328) (hk : wOk most bs.length over s.size = false) :
    Calls Tryd.prog 61 #[.pointer (some ⟨g, 0, none⟩), .string s] w fun e w' => e = .returned (.tuple #[]) ∧ Wr B g (.slice none 0 0) most [] true w' ∧ Kept (fun k => k = g) w w' := by
  have H := hidden h
  have HO := hidden ho
  clear h ho
  go_enter Tryd.func61, Tryd.ntmps61
  go_wp2_with (go_at_call 86; refine (room_no H.out HO.out _ hk).mono ?_; rintro e w1 ⟨rfl, h1, h2⟩)
  go_end0
  exact ⟨rfl, h1, h2⟩
set_option maxHeartbeats 1000000 in
set_option maxRecDepth 100000 in
theorem raw_yes {B g : Nat} {v : Value} {most : Int} {bs : List UInt8} {over : Bool} {w : World} (h : Wr B g v most bs over w) (s : ByteArray) (hs : s.size ≤ 140737488355328) (hk : wOk most bs.length over s.size = true) (hl : bs.length + s.size ≤ 140737488355328) :
    Calls Tryd.prog 61 #[.pointer (some ⟨g, 0, none⟩), .string s] w fun e w' => e = .returned (.tuple #[]) ∧ ∃ v', Wr B g v' most (bs ++ s.data.toList) over w' ∧ Kept (wrS B g) w w' := by
  obtain ⟨i0, hi, hz0, hz1, hz2⟩ := info_parts info5
  have H := hidden h
  have hm1 : Hid (bs.length + s.size ≤ maxLen) := by rw [Hid]; unfold maxLen; omega
  have hc1 : ∀ nq, (w.drewN nq).cell? ⟨g, 1, none⟩ = some v := fun nq => blk_cell (h.drewN nq).blk
  clear h
  go_enter Tryd.func61, Tryd.ntmps61
  go_wp2_with (first
    | (go_at_call 86; refine (room_yes H.out _ hk).mono ?_; rintro e w1 ⟨rfl, nq, rfl⟩)
    | (at_builtin; refine Lib.wpList_append_own_string _ rfl (.tmp 12) (.tmp 13) 27 9 rfl B 5 i0 Tryd.underlying27 Tryd.underlying9 hi hz0 hz1 hz2 v _ _ rfl (H.out.drewN nq).own s rfl hm1.out hl (H.out.drewN nq).base ?_; intro v' w1 hown' hgrow hat; have hb1 : w1.heap[g]? = _ := (hgrow.block g (H.out.drewN nq).lt (H.out.drewN nq).apart).trans (H.out.drewN nq).blk; have c1' : w1.cell? ⟨g, 1, none⟩ = some v := blk_cell hb1; have f1' : w1.frozen? ⟨g, 1, none⟩ = false := blk_free hb1; obtain ⟨a', cp', hv'⟩ : ∃ a' cp', v' = .slice a' (bs.length + s.size) cp' := (by rcases hown'.2 with ⟨q1, q2⟩ | ⟨_, cp', _, q1, _⟩; exact ⟨none, 0, by rw [q1]; congr 1; omega⟩; exact ⟨_, cp', q1⟩); rw [hv'] at hown' ⊢; clear hb1 hv' hat))
  have hown2 : w1.ownsRow B 5 1 (.slice a' (bs.length + s.size) cp') (bs ++ s.data.toList).length ((bs ++ s.data.toList).map U8) := by
    have e : (bs ++ s.data.toList).length = bs.length + s.size := by rw [List.length_append, size_list]
    rw [e, List.map_append]
    exact hown'
  have R := (H.out.drewN nq).grow hgrow hown2 (by rw [List.length_append, size_list]; exact hl)
  have RK : Kept (wrS B g) w (w1.setCell ⟨g, 1, none⟩ (.slice a' (bs.length + s.size) cp')) := (((Kept.refl (wrS B g) w).drewN nq).grown hgrow (fun k hk _ => Or.inr (H.out.own.lt k hk).1)).setCell (p := ⟨g, 1, none⟩) (Or.inl rfl) _
  go_end0
  exact ⟨rfl, _, R, RK⟩
theorem wRaw {B g : Nat} {most : Int} {st : List UInt8 × Bool} {w : World} (h : WS B g most st w) (s : ByteArray) (hl : st.1.length + s.size ≤ 140737488355328) :
    Calls Tryd.prog 61 #[.pointer (some ⟨g, 0, none⟩), .string s] w fun e w' => e = .returned (.tuple #[]) ∧ WS B g most (wput most st s.data.toList) w' ∧ Kept (wrS B g) w w' := by
  obtain ⟨v, hv, ho⟩ := h
  cases hk : wOk most st.1.length st.2 s.size with
  | true =>
    refine (raw_yes hv s (by omega) hk hl).mono ?_
    rintro e w' ⟨rfl, v', h1, h2⟩
    exact ⟨rfl, WS.of_yes (by rw [size_list]) hk h1, h2⟩
  | false =>
    refine (raw_no hv ho s (by omega) hk).mono ?_
    rintro e w' ⟨rfl, h1, h2⟩
    exact ⟨rfl, WS.of_no (by rw [size_list]) hk h1, kept_g h2⟩

/-! ### Text -/
theorem wput_len (most : Int) (st : List UInt8 × Bool) (new : List UInt8) : (wput most st new).1.length ≤ st.1.length + new.length := by
  unfold wput
  split <;> simp
/-! ### Done, Len, a new one -/
/-- What Done tells. -/
def wdone (st : List UInt8 × Bool) : ByteArray × Int := if st.2 then (⟨#[]⟩, 3) else (⟨st.1.toArray⟩, 0)
theorem own_string {w : World} {B : Nat} {v : Value} {bs : List UInt8} (h : w.ownsRow B 5 1 v bs.length (bs.map U8)) : (convert 27 9 v).run Tryd.prog w = .ok (.string ⟨bs.toArray⟩) w := by
  rcases h.2 with ⟨rfl, h0⟩ | ⟨g, cap, cur, rfl, hb, hg, _⟩
  · have hb : bs = [] := List.eq_nil_of_length_eq_zero h0
    subst hb
    exact run_convert_bytes_nil w 27 5 Tryd.underlying27 Tryd.underlying5 0 0 9 Tryd.underlying9
  · exact run_convert_bytes_back w 27 9 5 ⟨g, 0, none⟩ cap bs Tryd.underlying27 Tryd.underlying5 Tryd.underlying9 (fun j hj => h.cells rfl j _ (by simp [hj, U8]))
set_option maxHeartbeats 400000 in
theorem wDone {B g : Nat} {most : Int} {st : List UInt8 × Bool} {w : World} (h : WS B g most st w) :
    Calls Tryd.prog 62 #[.pointer (some ⟨g, 0, none⟩)] w fun e w' => e = .returned (.tuple #[.string (wdone st).1, .int .i64 (wdone st).2]) ∧ w = w' := by
  obtain ⟨v, hv, ho⟩ := h
  obtain ⟨bs, over⟩ := st
  have hc1 : w.cell? ⟨g, 1, none⟩ = some v := blk_cell hv.blk
  have hc2 : w.cell? ⟨g, 2, none⟩ = some (.bool over) := blk_cell hv.blk
  have hcv := own_string hv.own
  clear hv ho
  cases over with
  | true =>
    go_enter Tryd.func62, Tryd.ntmps62
    go_wp2
    go_ret2
    exact ⟨rfl, rfl⟩
  | false =>
    go_enter Tryd.func62, Tryd.ntmps62
    go_wp2
    go_ret2
    exact ⟨rfl, rfl⟩
theorem done_nil (w : World) : Calls Tryd.prog 62 #[.pointer none] w fun e w' => e = .returned (.tuple #[.string ⟨#[]⟩, .int .i64 6]) ∧ w = w' := by
  go_enter Tryd.func62, Tryd.ntmps62
  go_wp2
  go_ret2
  exact ⟨rfl, rfl⟩
theorem newWriter (most : Int) (w : World) (h0 : -9223372036854775808 ≤ most) (h1 : most ≤ 9223372036854775807) :
    Calls Tryd.prog 58 #[.int .i64 most] w fun e w' => e = .returned (.pointer (some ⟨w.heap.size, 0, none⟩)) ∧ w' = w.alloc (.cells #[.int .i64 (max most 0), .slice none 0 0, .bool false] 107) := by
  go_enter Tryd.func58, Tryd.ntmps58
  go_wp2
  go_ret
  exact ⟨rfl, rfl⟩
theorem WS.new {most : Int} (w : World) (h1 : most ≤ 9223372036854775807) {B : Nat} (hB : B ≤ w.heap.size) : WS B w.heap.size (max most 0) ([], false) (w.alloc (.cells #[.int .i64 (max most 0), .slice none 0 0, .bool false] 107)) :=
  ⟨_, ⟨heap_alloc_new _ _, World.ownsRow_nil _ _ _ _, by simp; omega, by omega, by omega, by simp⟩, fun h => by cases h⟩
end Go.Proofs.YtpjgghalnkfdkaaDoor
