/- seq's branches: glued, without. (Made by mkm11.py.) -/
import Derived.Test.YtelngbkbdihdnaaM10
namespace Go.Proofs.Ytelngbkbdihdnaa
open Go.RowKit
set_option linter.unusedVariables false
theorem BT.cnt {w : World} {g : Nat} {k : ByteArray} {x : Int} {lo hi : Value} {n : Nat} (h : w.heap[g]? = some (.cells (BC k x lo hi n) 99 (0, 0))) : w.cell? ⟨g, 4, none⟩ = some (.int .i64 n) := blk_cell h
def Wo (n : Nat) : Prop := ∀ (t : T) (v : Value) (w : World) (k : ByteArray), t.size ≤ n → BT w v t → Srt t.list → t.size ≤ 562949953421312 →
    Calls Try.prog 50 #[v, .string k] w fun e w' => ∃ v' t', e = .returned v' ∧ BT w' v' t' ∧ t'.list = delL k t.list ∧ Same w w'
set_option maxHeartbeats 4000000 in
set_option maxRecDepth 100000 in
theorem glued_two (n : Nat) (IH : Wo n) {tl tr : T} {g1 g2 : Nat} {w : World} (h1 : BT w (.pointer (some ⟨g1, 0, none⟩)) tl) (h2 : BT w (.pointer (some ⟨g2, 0, none⟩)) tr) (c1 : w.cell? ⟨g1, 4, none⟩ = some (.int .i64 tl.size)) (c2 : w.cell? ⟨g2, 4, none⟩ = some (.int .i64 tr.size)) (p1 : 0 < tl.size) (p2 : 0 < tr.size) (hn : tl.size + tr.size ≤ n) (s1 : Srt tl.list) (s2 : Srt tr.list) (hb : tl.size + tr.size ≤ 562949953421312) :
    Calls Try.prog 81 #[.pointer (some ⟨g1, 0, none⟩), .pointer (some ⟨g2, 0, none⟩)] w fun e w' => ∃ v' t', e = .returned v' ∧ BT w' v' t' ∧ t'.list = tl.list ++ tr.list ∧ Same w w' := by
  have HL : Hid (∀ W, Same w W → BT W (.pointer (some ⟨g1, 0, none⟩)) tl) := fun W k => h1.same k
  have HR : Hid (∀ W, Same w W → BT W (.pointer (some ⟨g2, 0, none⟩)) tr) := fun W k => h2.same k
  have ll1 := T.list_len tl
  have rl1 := T.list_len tr
  have HC : Hid (∀ W, Same w W → W.cell? ⟨g1, 4, none⟩ = some (.int .i64 tl.size) ∧ W.cell? ⟨g2, 4, none⟩ = some (.int .i64 tr.size)) := fun W k => ⟨Kept.cell k (fun h => h) c1, Kept.cell k (fun h => h) c2⟩
  clear h1 h2
  by_cases hcmp : tr.size < tl.size
  · have q1 : (tr.size : Int) < (tl.size : Int) := by omega
    obtain ⟨⟨ka, ky⟩, hlast⟩ : ∃ a, tl.list[tl.list.length - 1]? = some a := ⟨_, List.getElem?_eq_getElem (by omega)⟩
    have hdel := delL_last s1 hlast
    rw [ll1] at hlast
    have HAT : Hid (∀ W, Same w W → Calls Try.prog 59 #[.pointer (some ⟨g1, 0, none⟩), .int .i64 ((tl.size - 1 : Nat) : Int)] W fun e w' => e = .returned (It ka ky) ∧ Same W w') := fun W k => at_any (tl.size - 1) ka ky (HL.out W k) hlast (by omega)
    have HWO : Hid (∀ W, Same w W → Calls Try.prog 50 #[.pointer (some ⟨g1, 0, none⟩), .string ka] W fun e w' => ∃ v' t', e = .returned v' ∧ BT w' v' t' ∧ t'.list = delL ka tl.list ∧ Same W w') := fun W k => IH tl _ W ka (by omega) (HL.out W k) s1 (by omega)
    have HDL := hidden hdel
    have q2 : (tl.size : Int) - 1 = ((tl.size - 1 : Nat) : Int) := by omega
    clear hlast hdel
    go_enter Try.func81, Try.ntmps81
    go_wp2
    go_quiet (fail)
    obtain ⟨w2, hw2, k2⟩ : ∃ W, W = w.drewN nq ∧ Same w W := ⟨_, rfl, (Kept.refl _ w).drewN nq⟩
    rw [← hw2]
    obtain ⟨d1, d2⟩ := HC.out w2 k2
    have K2 := hidden k2
    clear hw2 k2 c1 c2
    go_wp2_with (go_at_call 59; go_must (refine (HAT.out _ K2.out).mono ?_; rintro e w3 ⟨rfl, k3⟩; have K3 := hidden (Kept.trans K2.out k3); clear k3))
    obtain ⟨w4, hw4⟩ : ∃ W, W = w3.alloc (.cells #[.string ka, .int .i64 ky] 54) := ⟨_, rfl⟩
    rw [← hw4]
    have k4 : Same w w4 := by rw [hw4]; exact Kept.trans K3.out (same_alloc w3 _)
    have b4 : w4.heap[w3.heap.size]? = some (.cells #[.string ka, .int .i64 ky] 54 (0, 0)) := by rw [hw4]; exact heap_alloc_new w3 _
    have x0 : w4.cell? ⟨w3.heap.size, 0, none⟩ = some (.string ka) := blk_cell b4
    have x1 : w4.cell? ⟨w3.heap.size, 1, none⟩ = some (.int .i64 ky) := blk_cell b4
    have K4 := hidden k4
    clear hw4 k4 b4
    go_region_held3 (fun w' => w'.cell? ⟨w3.heap.size, 0, none⟩ = some (.string ka) ∧ w'.cell? ⟨w3.heap.size, 1, none⟩ = some (.int .i64 ky))
      (first | go_keep | (go_split_ands; exact ⟨by assumption, by assumption⟩))
      ((first
        | (go_at_call 50; go_must (refine (HWO.out _ (Kept.trans K4.out (Kept.refl _ w4).drew)).mono ?_; rintro e w5 ⟨v5, t5, rfl, hv5, hl5, k5⟩; obtain ⟨p5, rfl⟩ := hv5.ptr; have V5 := hidden hv5; have L5 := hidden hl5; have k5' := Kept.trans (Kept.refl _ w4).drew k5; have S5 := hidden (Kept.trans K4.out k5'); have x0' := Kept.cell k5' (fun h => h) x0; have x1' := Kept.cell k5' (fun h => h) x1; have Z5 : Hid (t5.size ≤ tl.size) := (by rw [Hid, ← T.list_len, hl5, ← T.list_len]; exact delL_len ka _); clear hv5 hl5 k5 k5'))
        | (go_at_call 80; go_must (refine (bal_any ka ky V5.out (HR.out _ S5.out) (by have := Z5.out; omega)).mono ?_; rintro e w6 ⟨v6, t6, rfl, hv6, hl6, k6⟩; obtain ⟨p6, rfl⟩ := hv6.ptr; have V6 := hidden hv6; have L6 := hidden hl6; have S6 := hidden (Kept.trans S5.out k6); have x0'' := Kept.cell k6 (fun h => h) x0'; have x1'' := Kept.cell k6 (fun h => h) x1'; clear hv6 hl6 k6))))
    go_wp2
    go_returns
    refine ⟨_, _, rfl, V6.out, ?_, S6.out⟩
    rw [L6.out, L5.out]
    have e := HDL.out
    rw [List.append_cons, e]
  · have q1 : ¬ (tr.size : Int) < (tl.size : Int) := by omega
    obtain ⟨⟨ka, ky⟩, hlast⟩ : ∃ a, tr.list[0]? = some a := ⟨_, List.getElem?_eq_getElem (by omega)⟩
    have hdel := delL_first s2 hlast
    have HAT : Hid (∀ W, Same w W → Calls Try.prog 59 #[.pointer (some ⟨g2, 0, none⟩), .int .i64 0] W fun e w' => e = .returned (It ka ky) ∧ Same W w') := fun W k => at_any 0 ka ky (HR.out W k) hlast (by omega)
    have HWO : Hid (∀ W, Same w W → Calls Try.prog 50 #[.pointer (some ⟨g2, 0, none⟩), .string ka] W fun e w' => ∃ v' t', e = .returned v' ∧ BT w' v' t' ∧ t'.list = delL ka tr.list ∧ Same W w') := fun W k => IH tr _ W ka (by omega) (HR.out W k) s2 (by omega)
    have HDL := hidden hdel
    clear hlast hdel
    go_enter Try.func81, Try.ntmps81
    go_wp2
    go_quiet (fail)
    obtain ⟨w2, hw2, k2⟩ : ∃ W, W = w.drewN nq ∧ Same w W := ⟨_, rfl, (Kept.refl _ w).drewN nq⟩
    rw [← hw2]
    obtain ⟨d1, d2⟩ := HC.out w2 k2
    have K2 := hidden k2
    clear hw2 k2 c1 c2
    go_wp2_with (go_at_call 59; go_must (refine (HAT.out _ K2.out).mono ?_; rintro e w3 ⟨rfl, k3⟩; have K3 := hidden (Kept.trans K2.out k3); clear k3))
    obtain ⟨w4, hw4⟩ : ∃ W, W = w3.alloc (.cells #[.string ka, .int .i64 ky] 54) := ⟨_, rfl⟩
    rw [← hw4]
    have k4 : Same w w4 := by rw [hw4]; exact Kept.trans K3.out (same_alloc w3 _)
    have b4 : w4.heap[w3.heap.size]? = some (.cells #[.string ka, .int .i64 ky] 54 (0, 0)) := by rw [hw4]; exact heap_alloc_new w3 _
    have x0 : w4.cell? ⟨w3.heap.size, 0, none⟩ = some (.string ka) := blk_cell b4
    have x1 : w4.cell? ⟨w3.heap.size, 1, none⟩ = some (.int .i64 ky) := blk_cell b4
    have K4 := hidden k4
    clear hw4 k4 b4
    go_region_held3 (fun w' => w'.cell? ⟨w3.heap.size, 0, none⟩ = some (.string ka) ∧ w'.cell? ⟨w3.heap.size, 1, none⟩ = some (.int .i64 ky))
      (first | go_keep | (go_split_ands; exact ⟨by assumption, by assumption⟩))
      ((first
        | (go_at_call 50; go_must (refine (HWO.out _ (Kept.trans K4.out (Kept.refl _ w4).drew)).mono ?_; rintro e w5 ⟨v5, t5, rfl, hv5, hl5, k5⟩; obtain ⟨p5, rfl⟩ := hv5.ptr; have V5 := hidden hv5; have L5 := hidden hl5; have k5' := Kept.trans (Kept.refl _ w4).drew k5; have S5 := hidden (Kept.trans K4.out k5'); have x0' := Kept.cell k5' (fun h => h) x0; have x1' := Kept.cell k5' (fun h => h) x1; have Z5 : Hid (t5.size ≤ tr.size) := (by rw [Hid, ← T.list_len, hl5, ← T.list_len]; exact delL_len ka _); clear hv5 hl5 k5 k5'))
        | (go_at_call 80; go_must (refine (bal_any ka ky (HL.out _ S5.out) V5.out (by have := Z5.out; omega)).mono ?_; rintro e w6 ⟨v6, t6, rfl, hv6, hl6, k6⟩; obtain ⟨p6, rfl⟩ := hv6.ptr; have V6 := hidden hv6; have L6 := hidden hl6; have S6 := hidden (Kept.trans S5.out k6); have x0'' := Kept.cell k6 (fun h => h) x0'; have x1'' := Kept.cell k6 (fun h => h) x1'; clear hv6 hl6 k6))))
    go_wp2
    go_returns
    refine ⟨_, _, rfl, V6.out, ?_, S6.out⟩
    rw [L6.out, L5.out]
    rw [HDL.out]
theorem glued_of (n : Nat) (IH : Wo n) {l r : T} {lo hi : Value} {w : World} (h1 : BT w lo l) (h2 : BT w hi r) (hn : l.size + r.size ≤ n) (hs : Srt (l.list ++ r.list)) (hb : l.size + r.size ≤ 562949953421312) :
    Calls Try.prog 81 #[lo, hi] w fun e w' => ∃ v' t', e = .returned v' ∧ BT w' v' t' ∧ t'.list = l.list ++ r.list ∧ Same w w' := by
  obtain ⟨s1, s2, s3⟩ := List.pairwise_append.1 hs
  cases l with
  | nil =>
    obtain rfl : lo = .pointer none := h1
    obtain ⟨p2, rfl⟩ := h2.ptr
    have H2 := hidden h2
    clear h2
    go_enter Try.func81, Try.ntmps81
    go_wp2
    go_returns
    exact ⟨_, _, rfl, H2.out, rfl, Kept.refl _ _⟩
  | node lk lv ll lr =>
    cases r with
    | nil =>
      obtain rfl : hi = .pointer none := h2
      have H1 := hidden h1
      obtain ⟨g1, a1, a2, rfl, _⟩ := h1
      go_enter Try.func81, Try.ntmps81
      go_wp2
      go_returns
      exact ⟨_, _, rfl, H1.out, by simp [T.list], Kept.refl _ _⟩
    | node rk rv rl rr =>
      have H1 := h1
      have H2 := h2
      obtain ⟨g1, a1, a2, rfl, hb1, _⟩ := h1
      obtain ⟨g2, a3, a4, rfl, hb2, _⟩ := h2
      exact glued_two n IH H1 H2 (BT.cnt hb1) (BT.cnt hb2) (by simp [T.size]; omega) (by simp [T.size]; omega) hn s1 s2 hb
set_option maxHeartbeats 4000000 in
set_option maxRecDepth 100000 in
theorem wo_any : ∀ n, Wo n
  | 0 => fun t v w k hn h hs hb => by
    cases t with
    | node bk bv l r => exact absurd hn (by simp [T.size])
    | nil =>
      obtain rfl : v = .pointer none := h
      go_enter Try.func50, Try.ntmps50
      go_wp2
      go_returns
      exact ⟨_, .nil, rfl, rfl, rfl, Kept.refl _ _⟩
  | n + 1 => fun t v w k hn h hs hb => by
    have IH := hidden (wo_any n)
    cases t with
    | nil =>
      obtain rfl : v = .pointer none := h
      go_enter Try.func50, Try.ntmps50
      go_wp2
      go_returns
      exact ⟨_, .nil, rfl, rfl, rfl, Kept.refl _ _⟩
    | node bk bv l r =>
      obtain ⟨gh, lo, hi, rfl, hbk, hl, hr⟩ := h
      obtain ⟨pl, rfl⟩ := hl.ptr
      obtain ⟨ph, rfl⟩ := hr.ptr
      obtain ⟨s1, s2, s3, s4, s5⟩ := srt_split hs
      have hsz : (T.node bk bv l r).size = l.size + 1 + r.size := rfl
      rw [hsz] at hn hb
      have HL : Hid (∀ W, Same w W → BT W (.pointer pl) l) := fun W k => hl.same k
      have HR : Hid (∀ W, Same w W → BT W (.pointer ph) r) := fun W k => hr.same k
      have HC : Hid (∀ W, Same w W → W.cell? ⟨gh, 0, none⟩ = some (.string bk) ∧ W.cell? ⟨gh, 1, none⟩ = some (.int .i64 bv) ∧ W.cell? ⟨gh, 2, none⟩ = some (.pointer pl) ∧ W.cell? ⟨gh, 3, none⟩ = some (.pointer ph)) := fun W k => BT.cells (blk_kept k (fun h => h) hbk)
      have HSL : Hid (Srt (l.list ++ (bk, bv) :: r.list)) := hs
      have IL : Hid (∀ W, Same w W → Calls Try.prog 50 #[.pointer pl, .string k] W fun e w' => ∃ v' t', e = .returned v' ∧ BT w' v' t' ∧ t'.list = delL k l.list ∧ Same W w') := fun W kk => IH.out l _ W k (by omega) (HL.out W kk) s1 (by omega)
      have IR : Hid (∀ W, Same w W → Calls Try.prog 50 #[.pointer ph, .string k] W fun e w' => ∃ v' t', e = .returned v' ∧ BT w' v' t' ∧ t'.list = delL k r.list ∧ Same W w') := fun W kk => IH.out r _ W k (by omega) (HR.out W kk) s2 (by omega)
      have IG : Hid (∀ W, Same w W → Calls Try.prog 81 #[.pointer pl, .pointer ph] W fun e w' => ∃ v' t', e = .returned v' ∧ BT w' v' t' ∧ t'.list = l.list ++ r.list ∧ Same W w') := fun W kk => glued_of n IH.out (HL.out W kk) (HR.out W kk) (by omega) (List.Pairwise.sublist (List.Sublist.append_left (List.sublist_cons_self _ _) _) hs) (by omega)
      obtain ⟨a0, _⟩ := HC.out w (Kept.refl _ _)
      clear hl hr hbk s1 s2 s3 s4 s5 hs
      cases hlt : ltS k bk
      · cases hgt : ltS bk k
        · skip
          have HCMP : Hid (∀ W, Calls Try.prog 72 #[.string k, .string bk] W fun e w' => e = .returned (.int .i64 (0)) ∧ W = w') := fun W => by
            have := cmp_str k bk W
            simpa [hlt, hgt] using this
          go_enter Try.func50, Try.ntmps50
          go_wp2_with (go_at_call 72; go_must (refine (HCMP.out _).mono ?_; rintro e w1 ⟨rfl, rfl⟩))
          obtain ⟨_, d1, d2, d3⟩ := HC.out w (Kept.refl _ _)
          go_region_held3 (fun w' => w'.cell? ⟨gh, 2, none⟩ = some (.pointer pl) ∧ w'.cell? ⟨gh, 3, none⟩ = some (.pointer ph))
            (first | go_keep | (go_split_ands; exact ⟨by assumption, by assumption⟩))
            ((go_at_call 81; go_must (refine (IG.out _ (Kept.refl _ w).drew).mono ?_; rintro e w3 ⟨v3, t3, rfl, hv3, hl3, k3⟩; obtain ⟨p3, rfl⟩ := hv3.ptr; have V3 := hidden hv3; have L3 := hidden hl3; have k3' := Kept.trans (Kept.refl _ w).drew k3; have S3 := hidden k3'; have d2' := Kept.cell k3' (fun h => h) d2; have d3' := Kept.cell k3' (fun h => h) d3; clear hv3 hl3 k3 k3')))
          go_wp2
          go_returns
          refine ⟨_, _, rfl, V3.out, ?_, S3.out⟩
          rw [L3.out]
          exact (delL_here HSL.out hlt hgt).symm
        · skip
          have HCMP : Hid (∀ W, Calls Try.prog 72 #[.string k, .string bk] W fun e w' => e = .returned (.int .i64 (1)) ∧ W = w') := fun W => by
            have := cmp_str k bk W
            simpa [hlt, hgt] using this
          go_enter Try.func50, Try.ntmps50
          go_wp2_with (go_at_call 72; go_must (refine (HCMP.out _).mono ?_; rintro e w1 ⟨rfl, rfl⟩))
          obtain ⟨_, d1, d2, d3⟩ := HC.out w (Kept.refl _ _)
          go_region_held3 (fun w' => w'.cell? ⟨gh, 0, none⟩ = some (.string bk) ∧ w'.cell? ⟨gh, 1, none⟩ = some (.int .i64 bv) ∧ w'.cell? ⟨gh, 2, none⟩ = some (.pointer pl) ∧ w'.cell? ⟨gh, 3, none⟩ = some (.pointer ph))
            (first | go_keep | (go_split_ands; exact ⟨by assumption, by assumption, by assumption, by assumption⟩))
            ((first
              | (go_at_call 50; go_must (refine (IR.out _ (Kept.refl _ w).drew).mono ?_; rintro e w3 ⟨v3, t3, rfl, hv3, hl3, k3⟩; obtain ⟨p3, rfl⟩ := hv3.ptr; have V3 := hidden hv3; have L3 := hidden hl3; have k3' := Kept.trans (Kept.refl _ w).drew k3; have S3 := hidden k3'; have d0' := Kept.cell k3' (fun h => h) a0; have d1' := Kept.cell k3' (fun h => h) d1; have d2' := Kept.cell k3' (fun h => h) d2; have d3' := Kept.cell k3' (fun h => h) d3; have Z3 : Hid (t3.size ≤ r.size) := (by rw [Hid, ← T.list_len, hl3, ← T.list_len]; exact delL_len k _); clear hv3 hl3 k3 k3'))
              | (go_at_call 80; go_must (refine (bal_any bk bv (HL.out _ S3.out) V3.out (by have := Z3.out; omega)).mono ?_; rintro e w4 ⟨v4, t4, rfl, hv4, hl4, k4⟩; obtain ⟨p4, rfl⟩ := hv4.ptr; have V4 := hidden hv4; have L4 := hidden hl4; have S4 := hidden (Kept.trans S3.out k4); have d0'' := Kept.cell k4 (fun h => h) d0'; have d1'' := Kept.cell k4 (fun h => h) d1'; have d2'' := Kept.cell k4 (fun h => h) d2'; have d3'' := Kept.cell k4 (fun h => h) d3'; clear hv4 hl4 k4))))
          go_wp2
          go_returns
          refine ⟨_, _, rfl, V4.out, ?_, S4.out⟩
          rw [L4.out, L3.out]
          exact (delL_right HSL.out hgt).symm
      · skip
        have HCMP : Hid (∀ W, Calls Try.prog 72 #[.string k, .string bk] W fun e w' => e = .returned (.int .i64 (-1)) ∧ W = w') := fun W => by
          have := cmp_str k bk W
          simpa [hlt] using this
        go_enter Try.func50, Try.ntmps50
        go_wp2_with (go_at_call 72; go_must (refine (HCMP.out _).mono ?_; rintro e w1 ⟨rfl, rfl⟩))
        obtain ⟨_, d1, d2, d3⟩ := HC.out w (Kept.refl _ _)
        go_region_held3 (fun w' => w'.cell? ⟨gh, 0, none⟩ = some (.string bk) ∧ w'.cell? ⟨gh, 1, none⟩ = some (.int .i64 bv) ∧ w'.cell? ⟨gh, 2, none⟩ = some (.pointer pl) ∧ w'.cell? ⟨gh, 3, none⟩ = some (.pointer ph))
          (first | go_keep | (go_split_ands; exact ⟨by assumption, by assumption, by assumption, by assumption⟩))
          ((first
            | (go_at_call 50; go_must (refine (IL.out _ (Kept.refl _ w).drew).mono ?_; rintro e w3 ⟨v3, t3, rfl, hv3, hl3, k3⟩; obtain ⟨p3, rfl⟩ := hv3.ptr; have V3 := hidden hv3; have L3 := hidden hl3; have k3' := Kept.trans (Kept.refl _ w).drew k3; have S3 := hidden k3'; have d0' := Kept.cell k3' (fun h => h) a0; have d1' := Kept.cell k3' (fun h => h) d1; have d2' := Kept.cell k3' (fun h => h) d2; have d3' := Kept.cell k3' (fun h => h) d3; have Z3 : Hid (t3.size ≤ l.size) := (by rw [Hid, ← T.list_len, hl3, ← T.list_len]; exact delL_len k _); clear hv3 hl3 k3 k3'))
            | (go_at_call 80; go_must (refine (bal_any bk bv V3.out (HR.out _ S3.out) (by have := Z3.out; omega)).mono ?_; rintro e w4 ⟨v4, t4, rfl, hv4, hl4, k4⟩; obtain ⟨p4, rfl⟩ := hv4.ptr; have V4 := hidden hv4; have L4 := hidden hl4; have S4 := hidden (Kept.trans S3.out k4); have d0'' := Kept.cell k4 (fun h => h) d0'; have d1'' := Kept.cell k4 (fun h => h) d1'; have d2'' := Kept.cell k4 (fun h => h) d2'; have d3'' := Kept.cell k4 (fun h => h) d3'; clear hv4 hl4 k4))))
        go_wp2
        go_returns
        refine ⟨_, _, rfl, V4.out, ?_, S4.out⟩
        rw [L4.out, L3.out]
        exact (delL_left HSL.out hlt).symm
theorem without_any (k : ByteArray) {t : T} {v : Value} {w : World} (h : BT w v t) (hs : Srt t.list) (hb : t.size ≤ 562949953421312) :
    Calls Try.prog 50 #[v, .string k] w fun e w' => ∃ v' t', e = .returned v' ∧ BT w' v' t' ∧ t'.list = delL k t.list ∧ Same w w' := wo_any t.size t v w k (Nat.le_refl _) h hs hb
end Go.Proofs.Ytelngbkbdihdnaa
