/- pack: Chunk. -/
import Derived.Test.YtafdkfieajdeiaaDoorK2
namespace Go.Proofs.YtafdkfieajdeiaaDoor
open Go.RowKit
set_option linter.unusedVariables false

/-- The chunk that lies in bytes as a slot says. -/
def chunkOf (l : List UInt8) (o n : Int) : Option (List UInt8) :=
  if 8 ≤ o ∧ slotOf l (o - 8).toNat = some (o.toNat, n.toNat) ∧ 0 ≤ n then some ((l.drop o.toNat).take n.toNat) else none
theorem slotOf_in {l : List UInt8} {a o n : Nat} (h : slotOf l a = some (o, n)) : o = a + 8 ∧ 1 ≤ n ∧ o + n ≤ l.length := by
  unfold slotOf at h
  split at h
  · rename_i hc
    simp only [Option.some.injEq, Prod.mk.injEq] at h
    obtain ⟨rfl, rfl⟩ := h
    exact ⟨rfl, hc.2.1, by have := hc.2.2.1; omega⟩
  · cases h
set_option maxHeartbeats 4000000 in
set_option maxRecDepth 100000 in
theorem chunk_any (v : Value) (l : List UInt8) (o n : Int) (w : World) (hT : Tab w) (hb : Bt w v l) (hl : l.length ≤ 140737488355328) (o0 : -9223372036854775808 ≤ o) (o1 : o ≤ 9223372036854775807) (n0 : -9223372036854775808 ≤ n) (n1 : n ≤ 9223372036854775807) :
    Calls Tryd.prog 27 #[v, .agg #[.int .i64 o, .int .i64 n]] w fun e w' => ∃ u, e = .returned (.tuple #[u, .int .i64 (if (chunkOf l o n).isSome then 0 else 130)]) ∧ Bt w' u ((chunkOf l o n).getD []) ∧ Same w w' := by
  obtain ⟨ao, cap, rfl, hcap⟩ := hb.form
  by_cases ho : 8 ≤ o
  · have g1 : ∀ W, Same w W → Calls Tryd.prog 59 #[.slice ao l.length cap, .int .i64 (o - 8)] W fun e w' => e = .returned (slotV (slotOf l (o - 8).toNat)) ∧ Same W w' := fun W k => by
      have := slotAt_any _ l (o - 8) W (hT.same k) (hb.same k) hl (by omega) (by omega)
      rwa [if_neg (by omega)] at this
    have G1 := hidden g1
    clear g1
    cases hs : slotOf l (o - 8).toNat with
    | none =>
      have hch : chunkOf l o n = none := by unfold chunkOf; rw [if_neg (by simp [hs])]
      rw [hch]
      rw [hs] at G1
      have HB := hidden hb
      clear hb hT hch hs
      go_enter Tryd.func27, Tryd.ntmps27
      go_wp2_with (go_at_call 59; refine (G1.out _ (same_alloc _ _)).mono ?_; rintro e w1 ⟨rfl, k1⟩; have b1 := blk_kept k1 (fun h => h) (blk_new w _); have c0 : w1.cell? ⟨w.heap.size, 0, none⟩ = some (.int .i64 o) := blk_cell b1; have c1 : w1.cell? ⟨w.heap.size, 1, none⟩ = some (.int .i64 n) := blk_cell b1; have d0 : ∀ q, (w1.alloc q).cell? ⟨w.heap.size, 0, none⟩ = some (.int .i64 o) := fun q => blk_cell (blk_alloc b1 q); have d1 : ∀ q, (w1.alloc q).cell? ⟨w.heap.size, 1, none⟩ = some (.int .i64 n) := fun q => blk_cell (blk_alloc b1 q); simp only [slotV, Option.getD_none, Option.isSome_none])
      go_returns
      exact ⟨_, rfl, Bt.nil _, ((Kept.trans (same_alloc w _) k1).alloc _)⟩
    | some q =>
      obtain ⟨a, m⟩ := q
      obtain ⟨e1, e2, e3⟩ := slotOf_in hs
      have hao : (a : Int) = o := by omega
      rw [hs] at G1
      have HB := hidden hb
      by_cases hm : (m : Int) = n
      · subst hm hao
        have hch : chunkOf l (a : Int) (m : Int) = some ((l.drop a).take m) := by
          unfold chunkOf
          rw [if_pos ⟨ho, by rw [hs]; simp, by omega⟩]
          simp
        rw [hch]
        obtain ⟨p2, hs2, hb2⟩ := hb.sub (i := a) (j := a + m) (by omega) e3 (a : Int) ((a : Int) + m) rfl (by omega)
        rw [show a + m - a = m by omega, take_drop_sub l a (a + m) (by omega), show a + m - a = m by omega] at hb2
        rw [show a + m - a = m by omega] at hs2
        have hcl : ((l.drop a).take m).length = m := by simp; omega
        generalize (l.drop a).take m = C at *
        have g2 : ∀ W, Same w W → Calls Tryd.prog 39 #[.slice p2 m (cap - a)] W fun e w' => ∃ u, e = .returned u ∧ w'.ownsRow W.heap.size 5 1 u C.length (C.map U8) ∧ Same W w' := fun W k => cloneB _ C W (hb2 W k) (by omega)
        have G2 := hidden g2
        clear g2 hb2 hb hT hch hs hcl e1
        go_enter Tryd.func27, Tryd.ntmps27
        go_wp2_with (first
          | (go_at_call 59; refine (G1.out _ (same_alloc _ _)).mono ?_; rintro e w1 ⟨rfl, k1⟩; have b1 := blk_kept k1 (fun h => h) (blk_new w _); have c0 : w1.cell? ⟨w.heap.size, 0, none⟩ = some (.int .i64 (a : Int)) := blk_cell b1; have c1 : w1.cell? ⟨w.heap.size, 1, none⟩ = some (.int .i64 (m : Int)) := blk_cell b1; have d0 : ∀ q, (w1.alloc q).cell? ⟨w.heap.size, 0, none⟩ = some (.int .i64 (a : Int)) := fun q => blk_cell (blk_alloc b1 q); have d1 : ∀ q, (w1.alloc q).cell? ⟨w.heap.size, 1, none⟩ = some (.int .i64 (m : Int)) := fun q => blk_cell (blk_alloc b1 q); simp only [slotV, Option.getD_some, Option.isSome_some])
          | (go_at_call 39; refine (G2.out _ ((Kept.trans (same_alloc w _) k1).alloc _)).mono ?_; rintro e w2 ⟨u, rfl, ho2, k2⟩))
        go_returns
        exact ⟨u, rfl, Bt.ownM (OwnM.of ho2), Kept.trans ((Kept.trans (same_alloc w _) k1).alloc _) k2⟩
      · have hch : chunkOf l o n = none := by
          unfold chunkOf
          rw [if_neg]
          rintro ⟨_, h2, h3⟩
          rw [hs] at h2
          simp only [Option.some.injEq, Prod.mk.injEq] at h2
          omega
        rw [hch]
        subst hao
        clear hb hT hch hs e1
        go_enter Tryd.func27, Tryd.ntmps27
        go_wp2_with (go_at_call 59; refine (G1.out _ (same_alloc _ _)).mono ?_; rintro e w1 ⟨rfl, k1⟩; have b1 := blk_kept k1 (fun h => h) (blk_new w _); have c0 : w1.cell? ⟨w.heap.size, 0, none⟩ = some (.int .i64 (a : Int)) := blk_cell b1; have c1 : w1.cell? ⟨w.heap.size, 1, none⟩ = some (.int .i64 n) := blk_cell b1; have d0 : ∀ q, (w1.alloc q).cell? ⟨w.heap.size, 0, none⟩ = some (.int .i64 (a : Int)) := fun q => blk_cell (blk_alloc b1 q); have d1 : ∀ q, (w1.alloc q).cell? ⟨w.heap.size, 1, none⟩ = some (.int .i64 n) := fun q => blk_cell (blk_alloc b1 q); simp only [slotV, Option.getD_some, Option.isSome_some])
        go_returns
        exact ⟨_, rfl, Bt.nil _, (Kept.trans (same_alloc w _) k1).alloc _⟩
  · have hch : chunkOf l o n = none := by unfold chunkOf; rw [if_neg (fun h => ho h.1)]
    rw [hch]
    have HB := hidden hb
    clear hb hT hch
    go_enter Tryd.func27, Tryd.ntmps27
    go_wp2
    go_returns
    exact ⟨_, rfl, Bt.nil _, same_alloc _ _⟩
end Go.Proofs.YtafdkfieajdeiaaDoor
