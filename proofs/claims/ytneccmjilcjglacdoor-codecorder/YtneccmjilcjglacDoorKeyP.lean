/- A key's bytes; codec.Key, walked. -/
import Derived.Test.YtneccmjilcjglacDoorSameN
import Derived.Test.YtneccmjilcjglacDoorNumR
namespace Go.Proofs.YtneccmjilcjglacDoor
open Go.RowKit
set_option linter.unusedVariables false

/-- The numbers of a key as bytes. -/
def numsL (l : List Nat) : List UInt8 := l.flatMap (be 8)
theorem numsL_snoc (l : List Nat) (n : Nat) : numsL (l ++ [n]) = numsL l ++ be 8 n := by simp [numsL]
theorem numsL_len (l : List Nat) : (numsL l).length = 8 * l.length := by
  induction l with
  | nil => rfl
  | cons a l ih =>
    have e : numsL (a :: l) = be 8 a ++ numsL l := by simp [numsL]
    rw [e, List.length_append, be_length, ih, List.length_cons]
    omega
def keyL (prefix' : Nat) (l : List Nat) (name : ByteArray) : List UInt8 := be 1 prefix' ++ numsL l ++ name.data.toList
theorem keyL_len (p : Nat) (l : List Nat) (name : ByteArray) : (keyL p l name).length = 1 + 8 * l.length + name.size := by
  rw [keyL, List.length_append, List.length_append, be_length, numsL_len, size_list]
theorem kfit {most : Int} {bs new : List UInt8} (h : (bs.length : Int) + new.length ≤ most) : wput most (bs, false) new = (bs ++ new, false) := by
  unfold wput
  rw [if_pos]
  simp only [wOk, Bool.not_false, Bool.true_and, decide_eq_true_eq]
  omega
theorem take_snoc' (l : List Nat) (k : Nat) (h : k < l.length) : l.take (k + 1) = l.take k ++ [l.getD k 0] := by
  rw [List.take_succ_eq_append_getElem h]
  simp [h]
set_option maxHeartbeats 400000 in
theorem key_many (p : Nat) (v : Value) (l : List Nat) (name : ByteArray) (w : World) (hv : Cells w v l) (h : 4 < l.length) (hl : l.length ≤ 140737488355328) :
    Calls Tryd.prog 13 #[.int .u8 p, v, .string name] w fun e w' => e = .returned (.tuple #[.string ⟨#[]⟩, .int .i64 1]) ∧ Same w w' := by
  obtain ⟨a, cap, rfl, _⟩ := hv
  go_enter Tryd.func13, Tryd.ntmps13
  go_wp2
  go_returns
  exact ⟨rfl, Kept.refl _ _⟩
set_option maxHeartbeats 2000000 in
set_option maxRecDepth 100000 in
theorem key_in (p : Nat) (v : Value) (l : List Nat) (name : ByteArray) (w : World) (hp : p < 256) (hv : Cells w v l) (h : l.length ≤ 4) (hl : ∀ x ∈ l, x < 18446744073709551616) (hs : name.size ≤ 140737488351232) :
    Calls Tryd.prog 13 #[.int .u8 p, v, .string name] w fun e w' => e = .returned (.tuple #[.string ⟨(keyL p l name).toArray⟩, .int .i64 0]) ∧ Same w w' := by
  obtain ⟨a, cap, rfl, hc⟩ := hv
  have HC := hidden hc
  have HL := hidden hl
  clear hc hl
  obtain ⟨M, hM⟩ : ∃ M : Int, M = 1 + 8 * (l.length : Int) + name.size := ⟨_, rfl⟩
  have g1 : ∀ B g w, WS B g M ([], false) w → Calls Tryd.prog 39 #[.pointer (some ⟨g, 0, none⟩), .int .u8 p] w fun e w' => e = .returned (.tuple #[]) ∧ WS B g M (be 1 p ++ numsL (l.take 0), false) w' ∧ Kept (wrS B g) w w' := fun B g w hh => by
    have k := wU8 hh p hp (by simp)
    rw [kfit (by rw [be_length]; simp; omega)] at k
    simpa [numsL] using k
  have g2 : ∀ B g w, WS B g M (be 1 p ++ numsL (l.take l.length), false) w → Calls Tryd.prog 41 #[.pointer (some ⟨g, 0, none⟩), .string name] w fun e w' => e = .returned (.tuple #[]) ∧ WS B g M (keyL p l name, false) w' ∧ Kept (wrS B g) w w' := fun B g w hh => by
    rw [List.take_length] at hh
    have hlen : (be 1 p ++ numsL l).length = 1 + 8 * l.length := by rw [List.length_append, be_length, numsL_len]
    have k := wRaw hh name (by simp only [hlen]; omega)
    rw [kfit (by rw [hlen, size_list]; omega)] at k
    exact k
  have G1 := hidden g1
  have G2 := hidden g2
  have d := fun B g w hh => wDone (B := B) (g := g) (most := M) (st := (keyL p l name, false)) (w := w) hh
  have D := hidden d
  have hMv : Hid (M = 1 + 8 * (l.length : Int) + name.size) := hM
  have hn := fun w hh => newW M w (by omega) hh
  rw [hM] at hn
  have HN := hidden hn
  clear g1 g2 d hM hn
  go_enter Tryd.func13, Tryd.ntmps13
  go_wp2_with (first
    | (go_at_call 36; refine (HN.out _ (by omega)).mono ?_; rintro e w1 ⟨rfl, s1, k1, z1⟩; rw [← hMv.out] at s1; clear z1)
    | (go_at_call 39; refine (G1.out _ _ _ s1).mono ?_; rintro e w2 ⟨rfl, s2, k2⟩; clear s1))
  have K2 : Same w w2 := Same.wr k1 k2 (Nat.le_refl _) (Nat.le_refl _)
  go_loopw [27] (fun i wr => ∃ k : Nat, k ≤ l.length ∧ i = .int .i64 k ∧ WS w.heap.size w.heap.size M (be 1 p ++ numsL (l.take k), false) wr ∧ Same w wr) (fun i _ => l.length - (intOf i).toNat)
  case atStart => exact ⟨0, Nat.zero_le _, rfl, s2, K2⟩
  case round =>
    obtain ⟨k, hk, rfl, hw, hS⟩ := hrel
    by_cases hlt : k < l.length
    · have hne : l ≠ [] := by rintro rfl; simp at hlt
      obtain ⟨b, off, rfl, hc⟩ := HC.out hne
      have r1 : wr.cell? ⟨b, off + k, none⟩ = some (.int .u64 ((l.getD k 0 : Nat) : Int)) := Kept.cell hS (fun h => h) (hc k hlt)
      have hx : l.getD k 0 < 18446744073709551616 := HL.out _ (by rw [List.getD_eq_getElem?_getD, List.getElem?_eq_getElem hlt]; simp)
      have hlen : (be 1 p ++ numsL (l.take k)).length = 1 + 8 * k := by rw [List.length_append, be_length, numsL_len, List.length_take]; omega
      have hst := wU64 hw (l.getD k 0) hx (by simp only [hlen]; omega)
      rw [kfit (by rw [hlen, be_length, hMv.out]; omega), List.append_assoc, ← numsL_snoc, ← take_snoc' l k hlt] at hst
      have HS := hidden hst
      clear hc hne hx hlen hst
      generalize l.getD k 0 = x at r1 HS
      go_wp2_with (go_at_call 40; refine HS.out.mono ?_; rintro e w3 ⟨rfl, s3, k3⟩)
      go_roundw
      case rel => exact ⟨k + 1, by omega, by go_num, s3, Same.wr hS k3 (Nat.le_refl _) (Nat.le_refl _)⟩
      case measure => simp [intOf]; omega
    · obtain rfl : k = l.length := by omega
      go_wp2_with (first
        | (go_at_call 41; refine (G2.out _ _ _ hw).mono ?_; rintro e w3 ⟨rfl, s3, k3⟩)
        | (go_at_call 22; refine (D.out _ _ _ s3).mono ?_; rintro e w4 ⟨rfl, rfl⟩))
      go_returns
      exact ⟨rfl, Same.wr hS k3 (Nat.le_refl _) (Nat.le_refl _)⟩
end Go.Proofs.YtneccmjilcjglacDoor
