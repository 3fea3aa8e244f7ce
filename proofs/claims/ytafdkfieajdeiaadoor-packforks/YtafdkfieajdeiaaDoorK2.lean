/- pack: slices.Clone of bytes; slotAt, Chunk. -/
import Derived.Test.YtafdkfieajdeiaaDoorK1
import Derived.Test.YtafdkfieajdeiaaDoorKM
namespace Go.Proofs.YtafdkfieajdeiaaDoor
open Go.RowKit
set_option linter.unusedVariables false

theorem Bt.lies {w : World} {ao : Option Addr} {n cap : Nat} {l : List UInt8} (h : Bt w (.slice ao n cap) l) : Lies w ao n (l.map U8) := by
  intro h0
  obtain ⟨b, off, rfl, hc⟩ := h.cell (by have := h.len; omega)
  refine ⟨_, rfl, fun j u hu => ?_⟩
  rw [List.getElem?_map, Option.map_eq_some_iff] at hu
  obtain ⟨x, hx, rfl⟩ := hu
  obtain ⟨hj, rfl⟩ := List.getElem?_eq_some_iff.1 hx
  rw [add_none]
  exact hc j hj
theorem U8_all (l : List UInt8) : ∀ u ∈ l.map U8, u.oneCell' = true := by
  intro u hu
  obtain ⟨b, _, rfl⟩ := List.mem_map.1 hu
  exact U8_one b
set_option maxHeartbeats 1000000 in
set_option maxRecDepth 100000 in
theorem cloneB (v : Value) (l : List UInt8) (w : World) (hb : Bt w v l) (hl : l.length ≤ 140737488355328) :
    Calls Tryd.prog 39 #[v] w fun e w' => ∃ u, e = .returned u ∧ w'.ownsRow w.heap.size 5 1 u l.length (l.map U8) ∧ Same w w' := by
  obtain ⟨i0, hi, hz0, hz1, hz2⟩ := info_parts info5
  obtain ⟨ao, cap, rfl, hcap⟩ := hb.form
  cases ao with
  | none =>
    have hl0 : l = [] := by
      rcases Nat.eq_zero_or_pos l.length with h | h
      · exact List.eq_nil_of_length_eq_zero h
      · obtain ⟨b, off, e, _⟩ := hb.cell h
        cases e
    subst hl0
    have hnil : ∀ W : World, (binOp .eql 32 (.slice none 0 cap) (.slice none 0 0)).run Tryd.prog W = .ok (.bool true) W := fun W => by
      first | rfl | simp [binOp, go_sem]
    clear hb hcap
    go_enter Tryd.func39, Tryd.ntmps39
    go_wp2
    go_returns
    exact ⟨_, rfl, World.ownsRow_nil _ _ _ _, Kept.refl _ _⟩
  | some a =>
    have hnil : ∀ W : World, (binOp .eql 32 (.slice (some a) l.length cap) (.slice none 0 0)).run Tryd.prog W = .ok (.bool false) W := fun W => by
      first | rfl | simp [binOp, go_sem]
    have HB := hidden hb
    have m1 : Hid (0 + l.length ≤ maxLen) := by rw [Hid]; unfold maxLen; omega
    have m2 : Hid ((0 + l.length) * 1 ≤ 140737488355328) := by rw [Hid]; omega
    clear hb hcap
    go_enter Tryd.func39, Tryd.ntmps39
    go_wp2_with (refine wpList_append_any rfl _ _ 32 rfl w.heap.size 5 i0 (.int .u8 0) 1 1 Tryd.underlying32 hi hz0 hz1 hz2 rfl (by decide) _ 0 0 [] rfl (World.ownsRow_made w #[] 0 (Nat.le_refl _) (by decide) (by decide)) (some a) l.length cap (l.map U8) rfl (by rw [List.length_map, Nat.mul_one]) ((HB.out.same (same_alloc _ _)).lies) (U8_all l) m1.out m2.out (by simp) ?_; intro a1 c1 w1 ho1 hg1)
    rw [Nat.zero_add, List.nil_append] at ho1
    go_returns
    exact ⟨_, rfl, by simpa using ho1, ((Kept.refl (fun _ => False) w).alloc _).grown hg1 (fun k hk hl => by simp [Value.ownBlock] at hk; omega)⟩
/-- The slot that begins at a place of bytes, if there is one: where its chunk lies, how long it is. -/
def slotOf (l : List UInt8) (a : Nat) : Option (Nat × Nat) :=
  if a + 8 ≤ l.length ∧ 1 ≤ num ((l.drop a).take 4) ∧ num ((l.drop a).take 4) ≤ l.length - (a + 8) ∧ (l.drop a).take 8 = slotB ((l.drop (a + 8)).take (num ((l.drop a).take 4))) then some (a + 8, num ((l.drop a).take 4)) else none
def slotV (s : Option (Nat × Nat)) : Value := .tuple #[.agg #[.int .i64 ((s.getD (0, 0)).1 : Nat), .int .i64 ((s.getD (0, 0)).2 : Nat)], .bool s.isSome]
theorem rnum4 (l : List UInt8) (h : 4 ≤ l.length) : rnum (⟨l.toArray⟩, 0) 4 = num (l.take 4) := by
  have hs : ¬ (⟨l.toArray⟩ : ByteArray).size < 4 := by rw [ba_size]; omega
  unfold rnum rtake
  simp only [if_true, if_neg hs]
  congr 1
  simp [ByteArray.extract, ByteArray.copySlice]
theorem take_drop_sub (l : List UInt8) (i j : Nat) (h : i ≤ j) : (l.take j).drop i = (l.drop i).take (j - i) := by rw [List.drop_take]
theorem ba_eq {a b : ByteArray} (e : a.toList = b.toList) : a = b := by
  rw [Lib.toList_data, Lib.toList_data] at e
  cases a; cases b
  simp only at e
  congr 1
  exact Array.toList_inj.1 e
theorem beqS_ne2 {a b : ByteArray} (h : a ≠ b) : (a.toList == b.toList) = false := by
  rw [beq_eq_false_iff_ne]
  exact fun e => h (ba_eq e)
/-- A result of two cells that lies in a block of its own. -/
theorem res2 {w W W' : World} {t : TypeId} {x y : Value} (h0 : W = w.alloc (.cells #[x, y] t)) (k : Same W W') :
    W'.cell? ⟨w.heap.size, 0, none⟩ = some x ∧ W'.cell? ⟨w.heap.size, 1, none⟩ = some y ∧ W'.frozen? ⟨w.heap.size, 0, none⟩ = false ∧ W'.frozen? ⟨w.heap.size, 1, none⟩ = false ∧
      ∀ u v, ((W'.setCell ⟨w.heap.size, 0, none⟩ u).setCell ⟨w.heap.size, 1, none⟩ v).cell? ⟨w.heap.size, 0, none⟩ = some u ∧ ((W'.setCell ⟨w.heap.size, 0, none⟩ u).setCell ⟨w.heap.size, 1, none⟩ v).cell? ⟨w.heap.size, 1, none⟩ = some v ∧ Same w ((W'.setCell ⟨w.heap.size, 0, none⟩ u).setCell ⟨w.heap.size, 1, none⟩ v) := by
  subst h0
  have B := blk_kept k (fun h => h) (blk_new w _)
  have C : ∀ u v, _ := fun u v => blk_set (j := 1) (blk_set (j := 0) B u) v
  exact ⟨blk_cell B, blk_cell B, blk_free B, blk_free B, fun u v => ⟨blk_cell (C u v), blk_cell (C u v), ((Kept.trans (same_alloc w _) k).setNew (p := ⟨w.heap.size, 0, none⟩) (Nat.le_refl _) u).setNew (p := ⟨w.heap.size, 1, none⟩) (Nat.le_refl _) v⟩⟩
set_option maxHeartbeats 4000000 in
set_option maxRecDepth 100000 in
theorem slotAt_any (v : Value) (l : List UInt8) (a : Int) (w : World) (hT : Tab w) (hb : Bt w v l) (hl : l.length ≤ 140737488355328) (h0 : -9223372036854775808 ≤ a) (h1 : a ≤ 9223372036854775807) :
    Calls Tryd.prog 59 #[v, .int .i64 a] w fun e w' => e = .returned (slotV (if a < 0 then none else slotOf l a.toNat)) ∧ Same w w' := by
  obtain ⟨ao, cap, rfl, hcap⟩ := hb.form
  obtain ⟨r0, r1, rf0, rf1, rS⟩ := res2 (w := w) (t := 34) (x := .int .i64 0) (y := .int .i64 0) rfl (Kept.refl _ _)
  by_cases hin : 0 ≤ a ∧ a + 8 ≤ l.length
  · obtain ⟨k, rfl⟩ := Int.eq_ofNat_of_zero_le hin.1
    have hneg : ¬ ((k : Int) < 0) := by omega
    rw [if_neg hneg, Int.toNat_natCast]
    have hk : k + 8 ≤ l.length := by omega
    obtain ⟨p1, hs1, hb1⟩ := hb.sub (i := k) (j := k + 8) (by omega) hk (k : Int) ((k : Int) + 8) rfl (by omega)
    rw [show k + 8 - k = 8 by omega] at hs1 hb1
    have hc1 := (hb1 _ (same_alloc w (.cells #[.int .i64 0, .int .i64 0] 34))).text
    rw [take_drop_sub l k (k + 8) (by omega), show k + 8 - k = 8 by omega] at hc1
    have hH : ((l.drop k).take 8).length = 8 := by simp; omega
    have hH4 : (l.drop k).take 4 = ((l.drop k).take 8).take 4 := by rw [List.take_take]; rfl
    have hso : slotOf l k = if 1 ≤ num (((l.drop k).take 8).take 4) ∧ num (((l.drop k).take 8).take 4) ≤ l.length - (k + 8) ∧ (l.drop k).take 8 = slotB ((l.drop (k + 8)).take (num (((l.drop k).take 8).take 4))) then some (k + 8, num (((l.drop k).take 8).take 4)) else none := by
      unfold slotOf
      rw [hH4]
      simp only [hk, true_and]
    rw [hso]
    generalize (l.drop k).take 8 = H at *
    have hn32 : num (H.take 4) < 4294967296 := by
      have := num_lt (H.take 4)
      rw [List.length_take, hH] at this
      exact this
    have hrn : rnum (⟨H.toArray⟩, 0) 4 = num (H.take 4) := rnum4 H (by omega)
    generalize num (H.take 4) = n at *
    have g1 : ∀ g w, Rd g (⟨H.toArray⟩, 0) w → Calls Tryd.prog 54 #[.pointer (some ⟨g, 0, none⟩)] w fun x w' => x = .returned (.int .u32 (n : Nat)) ∧ Rd g (rtake (⟨H.toArray⟩, 0) 4).2 w' ∧ Kept (only g) w w' := fun g w h => by
      have := rU32 h
      rw [hrn] at this
      exact this
    have hsz : (⟨H.toArray⟩ : ByteArray).size ≤ 281474976710656 := by rw [ba_size]; omega
    have G1 := hidden g1
    have HT := hidden hT
    have HSZ := hidden hsz
    have hnw : IntKind.u64.wrap (n : Int) = (n : Int) := by rw [IntKind.wrap_u64]; omega
    have hlw : IntKind.u64.wrap ((l.length : Int) - ((k : Int) + 8)) = (l.length : Int) - ((k : Int) + 8) := by rw [IntKind.wrap_u64]; omega
    have hnw2 : IntKind.i64.wrap (n : Int) = (n : Int) := by rw [IntKind.wrap_i64]; omega
    clear g1 hT hsz hso hrn hH4 hb1 hH hin
    by_cases hr : 1 ≤ n ∧ n ≤ l.length - (k + 8)
    · obtain ⟨hr1, hr2⟩ := hr
      obtain ⟨p2, hs2, hb2⟩ := hb.sub (i := k + 8) (j := k + 8 + n) (by omega) (by omega) ((k : Int) + 8) ((k : Int) + 8 + n) (by omega) (by omega)
      rw [show k + 8 + n - (k + 8) = n by omega, take_drop_sub l (k + 8) (k + 8 + n) (by omega), show k + 8 + n - (k + 8) = n by omega] at hb2
      rw [show k + 8 + n - (k + 8) = n by omega] at hs2
      have hcl : ((l.drop (k + 8)).take n).length = n := by simp; omega
      generalize (l.drop (k + 8)).take n = C at *
      have g2 : ∀ W, Same w W → Calls Tryd.prog 41 #[.slice p2 n (cap - (k + 8))] W fun e w' => e = .returned (.string ⟨(slotB C).toArray⟩) ∧ Same W w' := fun W k => slotHeadOf_any _ C W (HT.out.same k) (hb2 W k) (by omega)
      have G2 := hidden g2
      simp only [hr1, hr2, true_and]
      clear g2 hb2 hb hcl r0 r1 rf0 rf1 rS
      generalize slotB C = SB at *
      by_cases hh : H = SB
      · subst hh
        rw [if_pos rfl]
        go_enter Tryd.func59, Tryd.ntmps59
        go_wp2_with (first
          | (go_at_call 53; refine (newR _ _ HSZ.out).mono ?_; rintro e w1 ⟨rfl, s1, k1, z1⟩; clear z1; replace s1 : Rd (w.heap.size + 1) (⟨H.toArray⟩, 0) w1 := by simpa using s1)
          | (go_at_call 54; refine (G1.out _ _ s1).mono ?_; rintro e w2 ⟨rfl, s2, k2⟩; have K2 := Same.rd k1 k2 (by simp); clear k1 k2 s1 s2)
          | (go_at_call 41; refine (G2.out _ (Kept.trans (same_alloc _ _) K2)).mono ?_; rintro e w3 ⟨rfl, k3⟩; obtain ⟨r0, r1, rf0, rf1, rS⟩ := res2 rfl (Kept.trans K2 k3)))
        obtain ⟨q0, q1, q2⟩ := rS (.int .i64 ((k : Int) + 8)) (.int .i64 (n : Int))
        generalize (w3.setCell ⟨w.heap.size, 0, none⟩ (.int .i64 ((k : Int) + 8))).setCell ⟨w.heap.size, 1, none⟩ (.int .i64 (n : Int)) = WF at q0 q1 q2 ⊢
        clear rS r0 r1 rf0 rf1
        exact bodyPost_ret (v := .tuple #[.agg #[.int .i64 ((k : Int) + 8), .int .i64 (n : Int)], .bool true]) (by simp [results, Tryd.results59, go_sem, q0, q1]; try rfl) rfl ⟨by simp [slotV], q2⟩
      · rw [if_neg hh]
        have hne : (H == SB) = false := by simp [hh]
        clear hh
        go_enter Tryd.func59, Tryd.ntmps59
        go_wp2_with (first
          | (go_at_call 53; refine (newR _ _ HSZ.out).mono ?_; rintro e w1 ⟨rfl, s1, k1, z1⟩; clear z1; replace s1 : Rd (w.heap.size + 1) (⟨H.toArray⟩, 0) w1 := by simpa using s1)
          | (go_at_call 54; refine (G1.out _ _ s1).mono ?_; rintro e w2 ⟨rfl, s2, k2⟩; have K2 := Same.rd k1 k2 (by simp); clear k1 k2 s1 s2)
          | (go_at_call 41; refine (G2.out _ (Kept.trans (same_alloc _ _) K2)).mono ?_; rintro e w3 ⟨rfl, k3⟩; obtain ⟨r0, r1, rf0, rf1, rS⟩ := res2 rfl (Kept.trans K2 k3)))
        obtain ⟨q0, q1, q2⟩ := rS (.int .i64 0) (.int .i64 0)
        generalize (w3.setCell ⟨w.heap.size, 0, none⟩ (.int .i64 0)).setCell ⟨w.heap.size, 1, none⟩ (.int .i64 0) = WF at q0 q1 q2 ⊢
        clear rS r0 r1 rf0 rf1
        exact bodyPost_ret (v := .tuple #[.agg #[.int .i64 0, .int .i64 0], .bool false]) (by simp [results, Tryd.results59, go_sem, q0, q1]; try rfl) rfl ⟨by simp [slotV], q2⟩
    · rw [if_neg (fun h => hr ⟨h.1, h.2.1⟩)]
      have hd : (decide ((n : Int) < 1) || decide ((l.length : Int) - ((k : Int) + 8) < (n : Int))) = true := by
        rw [Bool.or_eq_true, decide_eq_true_eq, decide_eq_true_eq]
        omega
      clear hr hb r0 r1 rf0 rf1 rS
      go_enter Tryd.func59, Tryd.ntmps59
      go_wp2_with (first
        | (go_at_call 53; refine (newR _ _ HSZ.out).mono ?_; rintro e w1 ⟨rfl, s1, k1, z1⟩; clear z1; replace s1 : Rd (w.heap.size + 1) (⟨H.toArray⟩, 0) w1 := by simpa using s1)
        | (go_at_call 54; refine (G1.out _ _ s1).mono ?_; rintro e w2 ⟨rfl, s2, k2⟩; have K2 := Same.rd k1 k2 (by simp); clear k1 k2 s1 s2; obtain ⟨r0, r1, rf0, rf1, rS⟩ := res2 rfl K2))
      all_goals
        obtain ⟨q0, q1, q2⟩ := rS (.int .i64 0) (.int .i64 0)
        generalize (w2.setCell ⟨w.heap.size, 0, none⟩ (.int .i64 0)).setCell ⟨w.heap.size, 1, none⟩ (.int .i64 0) = WF at q0 q1 q2 ⊢
        clear rS r0 r1 rf0 rf1
        exact bodyPost_ret (v := .tuple #[.agg #[.int .i64 0, .int .i64 0], .bool false]) (by simp [results, Tryd.results59, go_sem, q0, q1]; try rfl) rfl ⟨by simp [slotV], q2⟩
  · have hn : (if a < 0 then none else slotOf l a.toNat) = none := by
      by_cases ha : a < 0
      · rw [if_pos ha]
      · rw [if_neg ha]
        unfold slotOf
        rw [if_neg (fun h => hin ⟨by omega, by have := h.1; omega⟩)]
    rw [hn]
    have hd : (decide (a < 0) || decide ((l.length : Int) - 8 < a)) = true := by
      rw [Bool.or_eq_true, decide_eq_true_eq, decide_eq_true_eq]
      omega
    clear hin hn hb
    go_enter Tryd.func59, Tryd.ntmps59
    go_wp2
    all_goals
      go_returns
      exact ⟨by simp [slotV], same_alloc _ _⟩
end Go.Proofs.YtafdkfieajdeiaaDoor
