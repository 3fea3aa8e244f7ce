/- pack: the document's Chunk. -/
import Derived.Test.YtafdkfieajdeiaaDoorKR2
namespace Go.Proofs.YtafdkfieajdeiaaDoor
open Go.RowKit
set_option linter.unusedVariables false

/-- What a Chunk tells: the bytes, if there are any. -/
structure ChunkP (r : Option (List UInt8)) (w : World) (e : Ending) (w' : World) : Prop where
  ex : ∃ u, e = .returned (.tuple #[u, .int .i64 (if r.isSome then 0 else 130)]) ∧ Bt w' u (r.getD []) ∧ Same w w'
theorem chunkP_any (v : Value) (l : List UInt8) (o n : Int) (w : World) (hT : Tab w) (hb : Bt w v l) (hl : l.length ≤ 140737488355328) (o0 : -9223372036854775808 ≤ o) (o1 : o ≤ 9223372036854775807) (n0 : -9223372036854775808 ≤ n) (n1 : n ≤ 9223372036854775807) :
    Calls Tryd.prog 27 #[v, .agg #[.int .i64 o, .int .i64 n]] w fun e w' => ChunkP (chunkOf l o n) w e w' := (chunk_any v l o n w hT hb hl o0 o1 n0 n1).mono fun e w' h => ⟨h⟩
set_option maxHeartbeats 4000000 in
set_option maxRecDepth 100000 in
theorem chunkR_any (v : Value) (l : List UInt8) (o n : Int) (w : World) (hb : Bt w v l) (hl : l.length ≤ 140737488355328) (o0 : -9223372036854775808 ≤ o) (o1 : o ≤ 9223372036854775807) (n0 : -9223372036854775808 ≤ n) (n1 : n ≤ 9223372036854775807) :
    Calls Tryd.prog 28 #[v, .agg #[.int .i64 o, .int .i64 n]] w fun e w' => ChunkP (chunkOf l o n) w e w' := by
  obtain ⟨ao, cap, rfl, hcap⟩ := hb.form
  by_cases hin : 8 ≤ o ∧ o ≤ l.length ∧ 1 ≤ n ∧ n ≤ l.length - o
  · obtain ⟨a, ha⟩ : ∃ a : Nat, o = (a : Int) + 8 := ⟨(o - 8).toNat, by omega⟩
    obtain ⟨m, rfl⟩ : ∃ m : Nat, n = (m : Int) := ⟨n.toNat, by omega⟩
    obtain ⟨h1, h2, h3, h4⟩ := hin
    have e8 : o - 8 = (a : Int) := by omega
    have hch : chunkOf l o (m : Int) = if slotOf l a = some (a + 8, m) then some ((l.drop (a + 8)).take m) else none := by
      unfold chunkOf
      rw [show (o - 8).toNat = a by omega, show o.toNat = a + 8 by omega, Int.toNat_natCast]
      by_cases h : slotOf l a = some (a + 8, m)
      · rw [if_pos h, if_pos ⟨by omega, h, by omega⟩]
      · rw [if_neg h, if_neg (fun hh => h hh.2.1)]
    have gS : ∀ W, Same w W → Calls Tryd.prog 58 #[.slice ao l.length cap, .int .i64 (a : Int), .int .i64 (l.length : Int)] W fun e w' => SlotP (slotOf l a) W e w' := fun W k => by
      have := slotR_any _ l a l.length W (hb.same k) hl (Nat.le_refl _) (by omega)
      rwa [List.take_length] at this
    have GS := hidden gS
    have b1 : ∀ W W' : World, W = w.alloc (.cells #[.int .i64 o, .int .i64 (m : Int)] 34) → Same W W' → W'.cell? ⟨w.heap.size, 0, none⟩ = some (.int .i64 o) ∧ W'.cell? ⟨w.heap.size, 1, none⟩ = some (.int .i64 (m : Int)) := fun W W' e k => by
      subst e
      have := blk_kept k (fun h => h) (blk_new w _)
      exact ⟨blk_cell this, blk_cell this⟩
    have B1 := hidden b1
    clear b1
    have hob : o ≤ 140737488355328 := by omega
    have HA8 := hidden ha
    clear ha
    by_cases hs : slotOf l a = some (a + 8, m)
    · rw [hch, if_pos hs]
      rw [hs] at GS
      obtain ⟨p2, s2, b2⟩ := hb.sub (i := a + 8) (j := a + 8 + m) (by omega) (by have := HA8.out; omega) o (o + m) (by have := HA8.out; omega) (by have := HA8.out; omega)
      rw [show a + 8 + m - (a + 8) = m by omega, take_drop_sub l (a + 8) (a + 8 + m) (by omega), show a + 8 + m - (a + 8) = m by omega] at b2
      rw [show a + 8 + m - (a + 8) = m by omega] at s2
      have hcl : ((l.drop (a + 8)).take m).length = m := by have := HA8.out; simp; omega
      generalize (l.drop (a + 8)).take m = C at *
      obtain ⟨i0, hi, hz0, hz1, hz2⟩ := info_parts info5
      have B2 : Hid (∀ W, Same w W → Lies W p2 m (C.map U8)) := hidden (fun W k => (b2 W k).lies)
      have UC := hidden (U8_all C)
      have lC : Hid ((C.map U8).length = m * 1) := by rw [Hid, List.length_map, hcl, Nat.mul_one]
      have HC := hidden hcl
      have m1 : Hid (0 + m ≤ maxLen) := by rw [Hid]; unfold maxLen; omega
      have m2 : Hid ((0 + m) * 1 ≤ 140737488355328) := by rw [Hid]; omega
      clear gS hch hb b2 hcl hs
      go_enter Tryd.func28, Tryd.ntmps28
      go_wp2_with (first
        | (go_at_call 58; refine (GS.out _ (same_alloc _ _)).mono ?_; rintro e w1 ⟨n', rfl, hq, k1⟩; obtain rfl := hq _ rfl; obtain ⟨c0, c1⟩ := B1.out _ _ rfl k1; have K1 := hidden (Kept.trans (same_alloc w _) k1); have d0 : ∀ q, (w1.alloc q).cell? ⟨w.heap.size, 0, none⟩ = some (.int .i64 o) := fun q => blk_cell (blk_alloc (blk_kept k1 (fun h => h) (blk_new w _)) q); have d1 : ∀ q, (w1.alloc q).cell? ⟨w.heap.size, 1, none⟩ = some (.int .i64 (m : Int)) := fun q => blk_cell (blk_alloc (blk_kept k1 (fun h => h) (blk_new w _)) q); clear k1 hq)
        | (refine wpList_append_any rfl _ _ 32 rfl w1.heap.size 5 i0 (.int .u8 0) 1 1 Tryd.underlying32 hi hz0 hz1 hz2 rfl (by decide) _ 0 0 [] rfl (World.ownsRow_made w1 #[] 0 (Nat.le_refl _) (by decide) (by decide)) p2 m _ (C.map U8) rfl lC.out (B2.out _ (K1.out.alloc _)) UC.out m1.out m2.out (by simp) ?_; intro a2 c2 w2 ho2 hg2; rw [Nat.zero_add, List.nil_append] at ho2; have K2 := hidden (show Same w w2 from (K1.out.alloc _).grown hg2 (fun k hk hl => by simp [Value.ownBlock] at hk; have := K1.out.size; omega)); have O2 := hidden ho2; clear ho2 hg2))
      go_returns
      refine ⟨_, rfl, ?_, K2.out⟩
      have h1 : w2.ownsRow w1.heap.size 5 1 (.slice a2 m c2) C.length (C.map U8) := by rw [HC.out]; exact O2.out
      simpa using Bt.own h1
    · rw [hch, if_neg hs]
      have hno : ∀ n', (∀ q, slotOf l a = some q → q.2 = n') → (slotOf l a).isSome = true → n' ≠ m := fun n' hq hs2 e => by
        obtain ⟨q, hq2⟩ := Option.isSome_iff_exists.1 hs2
        obtain ⟨q1, q2⟩ := q
        have e1 := hq _ hq2
        have e2 := (slotOf_in hq2).1
        simp only at e1
        exact hs (by rw [hq2, e2, e1, e])
      have HNO := hidden hno
      generalize slotOf l a = R at *
      clear gS hch hb hs hno
      cases R with
      | none =>
        go_enter Tryd.func28, Tryd.ntmps28
        go_wp2_with (go_at_call 58; refine (GS.out _ (same_alloc _ _)).mono ?_; rintro e w1 ⟨n', rfl, hq, k1⟩; obtain ⟨c0, c1⟩ := B1.out _ _ rfl k1; have K1 := hidden (Kept.trans (same_alloc w _) k1); clear k1 hq; simp only [Option.isSome_none])
        go_returns
        exact ⟨_, rfl, Bt.nil _, K1.out⟩
      | some q =>
        go_enter Tryd.func28, Tryd.ntmps28
        go_wp2_with (go_at_call 58; refine (GS.out _ (same_alloc _ _)).mono ?_; rintro e w1 ⟨n', rfl, hq, k1⟩; have hne := HNO.out n' hq rfl; obtain ⟨c0, c1⟩ := B1.out _ _ rfl k1; have K1 := hidden (Kept.trans (same_alloc w _) k1); have hne2 : ¬ (n' : Int) = (m : Int) := (by omega); clear k1 hq hne; simp only [Option.isSome_some])
        go_returns
        exact ⟨_, rfl, Bt.nil _, K1.out⟩
  · have hch : chunkOf l o n = none := by
      unfold chunkOf
      rw [if_neg]
      rintro ⟨q1, q2, q3⟩
      have := slotOf_in q2
      exact hin ⟨q1, by omega, by omega, by omega⟩
    rw [hch]
    clear hch hb
    by_cases h1 : 8 ≤ o
    · by_cases h2 : o ≤ l.length
      · by_cases h3 : 1 ≤ n
        · have h4 : ¬ n ≤ l.length - o := fun h4 => hin ⟨h1, h2, h3, h4⟩
          clear hin
          go_enter Tryd.func28, Tryd.ntmps28
          go_wp2
          go_returns
          exact ⟨_, rfl, Bt.nil _, same_alloc _ _⟩
        · clear hin
          go_enter Tryd.func28, Tryd.ntmps28
          go_wp2
          go_returns
          exact ⟨_, rfl, Bt.nil _, same_alloc _ _⟩
      · clear hin
        go_enter Tryd.func28, Tryd.ntmps28
        go_wp2
        go_returns
        exact ⟨_, rfl, Bt.nil _, same_alloc _ _⟩
    · clear hin
      go_enter Tryd.func28, Tryd.ntmps28
      go_wp2
      go_returns
      exact ⟨_, rfl, Bt.nil _, same_alloc _ _⟩
end Go.Proofs.YtafdkfieajdeiaaDoor
