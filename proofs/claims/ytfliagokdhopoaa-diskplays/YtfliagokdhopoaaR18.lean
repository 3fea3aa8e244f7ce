/- The law's step, whatever it is; looks. -/
import Derived.Test.YtfliagokdhopoaaR17
namespace Go.Proofs.Ytfliagokdhopoaa
open Go.RowKit
set_option linter.unusedVariables false
/-- What a step of the law makes of a Disk. -/
def St.step (n c : Nat) (s : St) (p : Op5) : St :=
  if p.kind = 1 then (if 0 ≤ p.N ∧ p.N < c ∧ Int.tmod p.more 8 = 0 then s.write p.N.toNat (flTo n p.byte (min n 40)) else s)
  else if p.kind = 2 then (if 0 ≤ p.N ∧ p.N < c then s.read else s)
  else if p.kind = 3 then s.flush
  else if p.kind = 5 then (if mayB s.pend.length 0 p.ks = true then s.crash p.ks else s)
  else if p.kind = 9 then s.stop p.N
  else s
theorem SB.step {M : Nat} {s : St} (h : SB M s) (n c : Nat) (p : Op5) : SB (M + 1) (s.step n c p) := by
  unfold St.step
  have hu := h.up (Nat.le_succ M)
  split
  · split
    · exact h.write _ _
    · exact hu
  split
  · split
    · exact h.read
    · exact hu
  split
  · exact h.flush
  split
  · split
    · exact (h.crash _).up (Nat.le_succ _)
    · exact hu
  split
  · exact (h.stop _).up (Nat.le_succ _)
  · exact hu
theorem step_any {A : Nat → Prop} {B n c g pb pc rb rc x xb xc M : Nat} {s : St} {w : World} (h : Pair A B n c g pb pc rb rc x xb xc s s w) (hM : SB M s) (hm : M ≤ 4398046511102) (hB : B ≤ w.heap.size) (hn5 : 512 ≤ n) (p : Op5) (hp : p.ok w) (hkB : ∀ a k c, p.kv = .slice (some a) k c → 0 < k → a.block < B) :
    Calls Try.prog 26 #[.pointer (some ⟨g, 0, none⟩), .pointer (some ⟨x, 0, none⟩), .agg #[.int .i64 p.kind, .int .i64 p.N, .int .u8 p.byte, .int .i64 p.more, p.kv]] w fun e w' => e = .returned (.bool true) ∧ Pair A B n c g pb pc rb rc x xb xc (s.step n c p) (s.step n c p) w' ∧ KF B g pb rb x xb w w' := by
  unfold St.step
  by_cases h1 : p.kind = 1
  · rw [if_pos h1]
    by_cases hy : 0 ≤ p.N ∧ p.N < c ∧ Int.tmod p.more 8 = 0
    · rw [if_pos hy]
      exact step_1y h hM hm hB hn5 p hp h1 p.N.toNat (by omega) (by omega) hy.2.2
    · rw [if_neg hy]
      have ht := tm8 p.more
      refine step_1n h hM hm hB hn5 p hp h1 ((n : Int) + Int.tmod p.more 8).toNat (by omega) ?_
      by_cases hN : 0 ≤ p.N ∧ p.N < c
      · exact Or.inr (fun e => hy ⟨hN.1, hN.2, by omega⟩)
      · exact Or.inl hN
  rw [if_neg h1]
  by_cases h2 : p.kind = 2
  · rw [if_pos h2]
    by_cases hN : 0 ≤ p.N ∧ p.N < c
    · rw [if_pos hN]
      exact step_2y h hM hm hB p hp h2 p.N.toNat (by omega) (by omega)
    · rw [if_neg hN]
      exact step_2n h hM hm hB p hp h2 hN
  rw [if_neg h2]
  by_cases h3 : p.kind = 3
  · rw [if_pos h3]
    exact step_3 h hM hm hB p hp h3
  rw [if_neg h3]
  by_cases h5 : p.kind = 5
  · rw [if_pos h5]
    cases hy : mayB s.pend.length 0 p.ks
    · rw [if_neg (by simp)]
      exact step_5n h hM hm hB p hp h5 hkB hy
    · rw [if_pos rfl]
      exact step_5y h hM hm hB p hp h5 hkB hy
  rw [if_neg h5]
  by_cases h9 : p.kind = 9
  · rw [if_pos h9]
    exact step_9 h hM hm hB p hp h9
  rw [if_neg h9]
  by_cases h4 : p.kind = 4
  · exact step_4 h hM hm hB p hp h4
  by_cases h6 : p.kind = 6
  · exact step_6 h hM hm hB p hp h6
  by_cases h10 : p.kind = 10
  · exact step_10 h hM hm hB p hp h10
  exact step_7 (M := M) h p hp h1 h2 h3 h4 h5 h6 h9 h10
theorem ok_plain (k : Int) (hk : I64 k) (w : World) : Op5.ok w ⟨k, 0, 0, 0, .slice none 0 0, []⟩ :=
  ⟨by simp, hk, ⟨by simp, by simp⟩, ⟨by simp, by simp⟩, Or.inl ⟨rfl, rfl⟩, by simp, (fun z hz => by cases hz), (fun a k c e => by simp at e)⟩
/-- A step that only looks. -/
theorem step_looks (k : Int) (hk : I64 k) (h1 : k ≠ 1) (h2 : k ≠ 2) (h3 : k ≠ 3) (h5 : k ≠ 5) (h9 : k ≠ 9) {A : Nat → Prop} {B n c g pb pc rb rc x xb xc M : Nat} {s : St} {w : World} (h : Pair A B n c g pb pc rb rc x xb xc s s w) (hM : SB M s) (hm : M ≤ 4398046511102) (hB : B ≤ w.heap.size) (hn5 : 512 ≤ n) :
    Calls Try.prog 26 #[.pointer (some ⟨g, 0, none⟩), .pointer (some ⟨x, 0, none⟩), .agg #[.int .i64 k, .int .i64 0, .int .u8 0, .int .i64 0, .slice none 0 0]] w fun e w' => e = .returned (.bool true) ∧ Pair A B n c g pb pc rb rc x xb xc s s w' ∧ KF B g pb rb x xb w w' := by
  have := step_any h hM hm hB hn5 ⟨k, 0, 0, 0, .slice none 0 0, []⟩ (ok_plain k hk w) (fun a k c e => by simp at e)
  unfold St.step at this
  simp only [if_neg h1, if_neg h2, if_neg h3, if_neg h5, if_neg h9] at this
  exact this
set_option maxHeartbeats 4000000 in
set_option maxRecDepth 100000 in
theorem looks_any {A : Nat → Prop} {B n c g pb pc rb rc x xb xc M : Nat} {s : St} {w : World} (h : Pair A B n c g pb pc rb rc x xb xc s s w) (hM : SB M s) (hm : M ≤ 4398046511102) (hB : B ≤ w.heap.size) (hn5 : 512 ≤ n) :
    Calls Try.prog 27 #[.pointer (some ⟨g, 0, none⟩), .pointer (some ⟨x, 0, none⟩)] w fun e w' => e = .returned (.bool true) ∧ Pair A B n c g pb pc rb rc x xb xc s s w' ∧ KF B g pb rb x xb w w' := by
  have HP := hidden h
  have HM := hidden hM
  clear h hM
  have c4 := fun w (h : Pair A B n c g pb pc rb rc x xb xc s s w) hB => step_looks 4 ⟨by decide, by decide⟩ (by decide) (by decide) (by decide) (by decide) (by decide) h HM.out hm hB hn5
  have c6 := fun w (h : Pair A B n c g pb pc rb rc x xb xc s s w) hB => step_looks 6 ⟨by decide, by decide⟩ (by decide) (by decide) (by decide) (by decide) (by decide) h HM.out hm hB hn5
  have c7 := fun w (h : Pair A B n c g pb pc rb rc x xb xc s s w) hB => step_looks 7 ⟨by decide, by decide⟩ (by decide) (by decide) (by decide) (by decide) (by decide) h HM.out hm hB hn5
  have c10 := fun w (h : Pair A B n c g pb pc rb rc x xb xc s s w) hB => step_looks 10 ⟨by decide, by decide⟩ (by decide) (by decide) (by decide) (by decide) (by decide) h HM.out hm hB hn5
  have C4 := hidden c4
  have C6 := hidden c6
  have C7 := hidden c7
  have C10 := hidden c10
  have tok : True := trivial
  clear c4 c6 c7 c10
  go_enter Try.func27, Try.ntmps27
  go_wp2_with (first
    | (go_at_call 26; have _t := C4; clear C4; refine (_t.out w HP.out hB).mono ?_; rintro e w1 ⟨rfl, p1, k1⟩; have P1 := hidden p1; have K1 := hidden k1; have hB1 := Nat.le_trans hB k1.kb.size; clear p1 k1)
    | (go_at_call 26; have _t := C6; clear C6; refine (_t.out w1 P1.out hB1).mono ?_; rintro e w2 ⟨rfl, p1, k1⟩; have P2 := hidden p1; have K2 := hidden (K1.out.trans k1); have hB2 := Nat.le_trans hB1 k1.kb.size; clear p1 k1)
    | (go_at_call 26; have _t := C7; clear C7; refine (_t.out w2 P2.out hB2).mono ?_; rintro e w3 ⟨rfl, p1, k1⟩; have P3 := hidden p1; have K3 := hidden (K2.out.trans k1); have hB3 := Nat.le_trans hB2 k1.kb.size; clear p1 k1)
    | (go_at_call 26; have _t := C10; clear C10; refine (_t.out w3 P3.out hB3).mono ?_; rintro e w4 ⟨rfl, p1, k1⟩; have P4 := hidden p1; have K4 := hidden (K3.out.trans k1); clear p1 k1))
  go_returns
  exact ⟨rfl, P4.out, K4.out⟩
end Go.Proofs.Ytfliagokdhopoaa
