/- The law's 'write', walked: what a step puts. -/
import Derived.Test.YtfeaaielopaonaaDoorWri2
import Derived.Test.YtfeaaielopaonaaDoorAwake
namespace Go.Proofs.YtfeaaielopaonaaDoor
open Go.RowKit
set_option linter.unusedVariables false

theorem vb10 (n : Nat) (h : n < 18446744073709551616) : (vbytes n).length ≤ 10 := by
  rw [vbytes_length n h]
  have h1 : n ||| 1 < 2 ^ 64 := Nat.or_lt_two_pow (by omega) (by omega)
  have h2 : Nat.log2 (n ||| 1) < 64 := (Nat.log2_lt (by have := Nat.right_le_or (n := n) (m := 1); omega)).2 h1
  omega

/-- What a Writer holds behind a step. -/
def wop (most : Int) (st : List UInt8 × Bool) (kind : Int) (N : Nat) (S : ByteArray) : List UInt8 × Bool :=
  if kind = 0 then wput most st (be 1 (N % 256)) else if kind = 1 then wput most st (be 2 (N % 65536)) else if kind = 2 then wput most st (be 4 (N % 4294967296)) else if kind = 3 then wput most st (be 8 N)
  else if kind = 4 then wput most st (vbytes N) else if kind = 5 then wput most (wput most st (vbytes S.size)) S.data.toList else if kind = 6 then wput most st S.data.toList else st
set_option maxHeartbeats 1000000 in
set_option maxRecDepth 100000 in
theorem write_0 {B g : Nat} {most : Int} {st : List UInt8 × Bool} {w : World} (h : WS B g most st w) (N : Nat) (S : ByteArray) (hN : N < 18446744073709551616) (hl : st.1.length + 10 + S.size ≤ 140737488355328) :
    Calls Tryd.prog 6 #[.pointer (some ⟨g, 0, none⟩), .agg #[.int .i64 0, .int .u64 N, .string S]] w fun e w' => e = .returned (.tuple #[]) ∧ WS B g most (wput most st (be 1 (N % 256))) w' ∧ WT B g w w' := by
  have hw : IntKind.u8.wrap (N : Int) = ((N % 256 : Nat) : Int) := by rw [IntKind.wrap_u8']; omega
  have hs : WS B g most st (w.alloc (.cells #[.int .i64 0, .int .u64 N, .string S] 28)) := by
    obtain ⟨v, hv, ho⟩ := h
    exact ⟨v, hv.alloc _, ho⟩
  have hu := wU8 hs (N % 256) (Nat.mod_lt _ (by decide)) (by omega)
  have HU := hidden hu
  clear hu h hs
  go_enter Tryd.func6, Tryd.ntmps6
  go_wp2_with (go_at_call 17; refine HU.out.mono ?_; rintro e w1 ⟨rfl, s1, k1⟩)
  go_end0
  exact ⟨rfl, s1, WT.trans (show WT B g w _ from (Kept.refl _ _).alloc _) k1⟩
set_option maxHeartbeats 1000000 in
set_option maxRecDepth 100000 in
theorem write_1 {B g : Nat} {most : Int} {st : List UInt8 × Bool} {w : World} (h : WS B g most st w) (N : Nat) (S : ByteArray) (hN : N < 18446744073709551616) (hl : st.1.length + 10 + S.size ≤ 140737488355328) :
    Calls Tryd.prog 6 #[.pointer (some ⟨g, 0, none⟩), .agg #[.int .i64 1, .int .u64 N, .string S]] w fun e w' => e = .returned (.tuple #[]) ∧ WS B g most (wput most st (be 2 (N % 65536))) w' ∧ WT B g w w' := by
  have hw : IntKind.u16.wrap (N : Int) = ((N % 65536 : Nat) : Int) := by rw [IntKind.wrap_u16]; omega
  have hs : WS B g most st (w.alloc (.cells #[.int .i64 1, .int .u64 N, .string S] 28)) := by
    obtain ⟨v, hv, ho⟩ := h
    exact ⟨v, hv.alloc _, ho⟩
  have hu := wU16 hs (N % 65536) (Nat.mod_lt _ (by decide)) (by omega)
  have HU := hidden hu
  clear hu h hs
  go_enter Tryd.func6, Tryd.ntmps6
  go_wp2_with (go_at_call 18; refine HU.out.mono ?_; rintro e w1 ⟨rfl, s1, k1⟩)
  go_end0
  exact ⟨rfl, s1, WT.trans (show WT B g w _ from (Kept.refl _ _).alloc _) k1⟩
set_option maxHeartbeats 1000000 in
set_option maxRecDepth 100000 in
theorem write_2 {B g : Nat} {most : Int} {st : List UInt8 × Bool} {w : World} (h : WS B g most st w) (N : Nat) (S : ByteArray) (hN : N < 18446744073709551616) (hl : st.1.length + 10 + S.size ≤ 140737488355328) :
    Calls Tryd.prog 6 #[.pointer (some ⟨g, 0, none⟩), .agg #[.int .i64 2, .int .u64 N, .string S]] w fun e w' => e = .returned (.tuple #[]) ∧ WS B g most (wput most st (be 4 (N % 4294967296))) w' ∧ WT B g w w' := by
  have hw : IntKind.u32.wrap (N : Int) = ((N % 4294967296 : Nat) : Int) := by rw [IntKind.wrap_u32']; omega
  have hs : WS B g most st (w.alloc (.cells #[.int .i64 2, .int .u64 N, .string S] 28)) := by
    obtain ⟨v, hv, ho⟩ := h
    exact ⟨v, hv.alloc _, ho⟩
  have hu := wU32 hs (N % 4294967296) (Nat.mod_lt _ (by decide)) (by omega)
  have HU := hidden hu
  clear hu h hs
  go_enter Tryd.func6, Tryd.ntmps6
  go_wp2_with (go_at_call 19; refine HU.out.mono ?_; rintro e w1 ⟨rfl, s1, k1⟩)
  go_end0
  exact ⟨rfl, s1, WT.trans (show WT B g w _ from (Kept.refl _ _).alloc _) k1⟩
set_option maxHeartbeats 1000000 in
set_option maxRecDepth 100000 in
theorem write_3 {B g : Nat} {most : Int} {st : List UInt8 × Bool} {w : World} (h : WS B g most st w) (N : Nat) (S : ByteArray) (hN : N < 18446744073709551616) (hl : st.1.length + 10 + S.size ≤ 140737488355328) :
    Calls Tryd.prog 6 #[.pointer (some ⟨g, 0, none⟩), .agg #[.int .i64 3, .int .u64 N, .string S]] w fun e w' => e = .returned (.tuple #[]) ∧ WS B g most (wput most st (be 8 N)) w' ∧ WT B g w w' := by
  have hs : WS B g most st (w.alloc (.cells #[.int .i64 3, .int .u64 N, .string S] 28)) := by
    obtain ⟨v, hv, ho⟩ := h
    exact ⟨v, hv.alloc _, ho⟩
  have hu := wU64 hs N hN (by omega)
  have HU := hidden hu
  clear hu h hs
  go_enter Tryd.func6, Tryd.ntmps6
  go_wp2_with (go_at_call 20; refine HU.out.mono ?_; rintro e w1 ⟨rfl, s1, k1⟩)
  go_end0
  exact ⟨rfl, s1, WT.trans (show WT B g w _ from (Kept.refl _ _).alloc _) k1⟩
set_option maxHeartbeats 1000000 in
set_option maxRecDepth 100000 in
theorem write_4 {B g : Nat} {most : Int} {st : List UInt8 × Bool} {w : World} (h : WS B g most st w) (N : Nat) (S : ByteArray) (hN : N < 18446744073709551616) (hl : st.1.length + 10 + S.size ≤ 140737488355328) :
    Calls Tryd.prog 6 #[.pointer (some ⟨g, 0, none⟩), .agg #[.int .i64 4, .int .u64 N, .string S]] w fun e w' => e = .returned (.tuple #[]) ∧ WS B g most (wput most st (vbytes N)) w' ∧ WT B g w w' := by
  have hs : WS B g most st (w.alloc (.cells #[.int .i64 4, .int .u64 N, .string S] 28)) := by
    obtain ⟨v, hv, ho⟩ := h
    exact ⟨v, hv.alloc _, ho⟩
  have hu := wVar hs N hN (by have := vb10 N hN; omega)
  have HU := hidden hu
  clear hu h hs
  go_enter Tryd.func6, Tryd.ntmps6
  go_wp2_with (go_at_call 11; refine HU.out.mono ?_; rintro e w1 ⟨rfl, s1, k1⟩)
  go_end0
  exact ⟨rfl, s1, WT.trans (show WT B g w _ from (Kept.refl _ _).alloc _) k1⟩
set_option maxHeartbeats 1000000 in
set_option maxRecDepth 100000 in
theorem write_5 {B g : Nat} {most : Int} {st : List UInt8 × Bool} {w : World} (h : WS B g most st w) (N : Nat) (S : ByteArray) (hN : N < 18446744073709551616) (hl : st.1.length + 10 + S.size ≤ 140737488355328) :
    Calls Tryd.prog 6 #[.pointer (some ⟨g, 0, none⟩), .agg #[.int .i64 5, .int .u64 N, .string S]] w fun e w' => e = .returned (.tuple #[]) ∧ WS B g most (wput most (wput most st (vbytes S.size)) S.data.toList) w' ∧ WT B g w w' := by
  have hs : WS B g most st (w.alloc (.cells #[.int .i64 5, .int .u64 N, .string S] 28)) := by
    obtain ⟨v, hv, ho⟩ := h
    exact ⟨v, hv.alloc _, ho⟩
  have hu := wText hs S (by have := vb10 S.size (by omega); omega)
  have HU := hidden hu
  clear hu h hs
  go_enter Tryd.func6, Tryd.ntmps6
  go_wp2_with (go_at_call 12; refine HU.out.mono ?_; rintro e w1 ⟨rfl, s1, k1⟩)
  go_end0
  exact ⟨rfl, s1, WT.trans (show WT B g w _ from (Kept.refl _ _).alloc _) k1⟩
set_option maxHeartbeats 1000000 in
set_option maxRecDepth 100000 in
theorem write_6 {B g : Nat} {most : Int} {st : List UInt8 × Bool} {w : World} (h : WS B g most st w) (N : Nat) (S : ByteArray) (hN : N < 18446744073709551616) (hl : st.1.length + 10 + S.size ≤ 140737488355328) :
    Calls Tryd.prog 6 #[.pointer (some ⟨g, 0, none⟩), .agg #[.int .i64 6, .int .u64 N, .string S]] w fun e w' => e = .returned (.tuple #[]) ∧ WS B g most (wput most st S.data.toList) w' ∧ WT B g w w' := by
  have hs : WS B g most st (w.alloc (.cells #[.int .i64 6, .int .u64 N, .string S] 28)) := by
    obtain ⟨v, hv, ho⟩ := h
    exact ⟨v, hv.alloc _, ho⟩
  have hu := wRaw hs S (by omega)
  have HU := hidden hu
  clear hu h hs
  go_enter Tryd.func6, Tryd.ntmps6
  go_wp2_with (go_at_call 21; refine HU.out.mono ?_; rintro e w1 ⟨rfl, s1, k1⟩)
  go_end0
  exact ⟨rfl, s1, WT.trans (show WT B g w _ from (Kept.refl _ _).alloc _) k1⟩
set_option maxHeartbeats 1000000 in
set_option maxRecDepth 100000 in
theorem write_look {B g : Nat} {most : Int} {st : List UInt8 × Bool} {w : World} (h : WS B g most st w) (kind : Int) (hk : kind < 0 ∨ 6 < kind) (N : Nat) (S : ByteArray) (hN : N < 18446744073709551616) (hl : st.1.length + 10 + S.size ≤ 140737488355328) :
    Calls Tryd.prog 6 #[.pointer (some ⟨g, 0, none⟩), .agg #[.int .i64 kind, .int .u64 N, .string S]] w fun e w' => e = .returned (.tuple #[]) ∧ WS B g most (st) w' ∧ WT B g w w' := by
  have q0 : (kind == 0) = false := by simp; omega
  have q1 : (kind == 1) = false := by simp; omega
  have q2 : (kind == 2) = false := by simp; omega
  have q3 : (kind == 3) = false := by simp; omega
  have q4 : (kind == 4) = false := by simp; omega
  have q5 : (kind == 5) = false := by simp; omega
  have q6 : (kind == 6) = false := by simp; omega
  have hs : WS B g most st (w.alloc (.cells #[.int .i64 kind, .int .u64 N, .string S] 28)) := by
    obtain ⟨v, hv, ho⟩ := h
    exact ⟨v, hv.alloc _, ho⟩
  have HS := hidden hs
  clear h hs hk
  go_enter Tryd.func6, Tryd.ntmps6
  go_wp2
  go_end0
  exact ⟨rfl, HS.out, (Kept.refl _ _).alloc _⟩
theorem write_any {B g : Nat} {most : Int} {st : List UInt8 × Bool} {w : World} (h : WS B g most st w) (kind : Int) (N : Nat) (S : ByteArray) (hN : N < 18446744073709551616) (hl : st.1.length + 10 + S.size ≤ 140737488355328) :
    Calls Tryd.prog 6 #[.pointer (some ⟨g, 0, none⟩), .agg #[.int .i64 kind, .int .u64 N, .string S]] w fun e w' => e = .returned (.tuple #[]) ∧ WS B g most (wop most st kind N S) w' ∧ WT B g w w' := by
  by_cases hk : kind < 0 ∨ 6 < kind
  · have e : wop most st kind N S = st := by
      unfold wop
      rw [if_neg (by omega), if_neg (by omega), if_neg (by omega), if_neg (by omega), if_neg (by omega), if_neg (by omega), if_neg (by omega)]
    rw [e]
    exact write_look h kind hk N S hN hl
  · have hc : kind = 0 ∨ kind = 1 ∨ kind = 2 ∨ kind = 3 ∨ kind = 4 ∨ kind = 5 ∨ kind = 6 := by omega
    rcases hc with rfl | rfl | rfl | rfl | rfl | rfl | rfl
    · exact write_0 h N S hN hl
    · exact write_1 h N S hN hl
    · exact write_2 h N S hN hl
    · exact write_3 h N S hN hl
    · exact write_4 h N S hN hl
    · exact write_5 h N S hN hl
    · exact write_6 h N S hN hl
end Go.Proofs.YtfeaaielopaonaaDoor
