/- A Disk whatever its power is: Pending, told exactly. -/
import Derived.Test.YteoajgphahobiaaY1
namespace Go.Proofs.Yteoajgphahobiaa
open Go.RowKit
set_option linter.unusedVariables false
/-- What Pending has laid so far. -/
def pdTo (zs : List Int) (k : Nat) : List Value := (List.range zs.length).map fun j => if j < k then .int .i64 (zs.getD j 0) else .int .i64 0
theorem pdTo_len (zs : List Int) (k : Nat) : (pdTo zs k).length = zs.length := by simp [pdTo]
theorem pdTo_zero (zs : List Int) : pdTo zs 0 = List.replicate zs.length (.int .i64 0) := by
  apply List.ext_getElem
  · simp [pdTo]
  · intro j h1 h2
    simp [pdTo]
theorem pdTo_succ (zs : List Int) (k : Nat) (hk : k < zs.length) : (pdTo zs k).toArray.setIfInBounds k (.int .i64 zs[k]) = (pdTo zs (k + 1)).toArray := by
  apply Array.ext'
  rw [Array.toList_setIfInBounds, List.toList_toArray, List.toList_toArray]
  apply List.ext_getElem
  · simp [pdTo]
  · intro j h1 h2
    rw [List.getElem_set]
    simp only [pdTo, List.getElem_map, List.getElem_range]
    by_cases hj : k = j
    · subst hj
      simp [List.getD, hk]
    · rw [if_neg hj]
      by_cases h3 : j < k
      · rw [if_pos h3, if_pos (by omega)]
      · rw [if_neg h3, if_neg (by omega)]
theorem pdTo_all (zs : List Int) (j : Nat) (hj : j < zs.length) : (pdTo zs zs.length).toArray[j]? = some (.int .i64 zs[j]) := by
  simp [pdTo, hj]
set_option maxHeartbeats 1000000 in
set_option maxRecDepth 100000 in
theorem y_pending (n pb c pc rb rc g m : Nat) (qv : Value) (qs : List Value) (lim : Bool) (lf : Int) (r wn f : Nat) (w : World) (hm : m ≤ 4398046511104)
    (hb : w.heap[g]? = some (.cells (DP n pb c pc rb rc qv lim lf r wn f) 74 (0, 0))) (hq : w.ownsRow 0 58 2 qv m qs)
    (zs : List Int) (hzl : zs.length = m) (hN : ∀ k (h : k < zs.length), ∃ (N : Nat) (a : Option Addr) (x y : Nat), qs[k * 2]? = some (.int .i64 N) ∧ qs[k * 2 + 1]? = some (.slice a x y) ∧ zs[k] = (N : Int)) :
    Calls Try.prog 20 #[.pointer (some ⟨g, 0, none⟩)] w fun e w' => e = .returned (.slice (some ⟨w.heap.size, 0, none⟩) m m) ∧ Ints w' (.slice (some ⟨w.heap.size, 0, none⟩) m m) zs ∧ Same w w' := by
  obtain ⟨a, qc, rfl⟩ := own_form hq
  have c3 : w.cell? ⟨g, 3, none⟩ = some (.slice a m qc) := blk_cell hb
  have hmk := make_ints m hm
  have hnew := World.new_ne w ⟨g, 3, none⟩ c3
  have hc3 : ∀ o, (w.alloc o).cell? ⟨g, 3, none⟩ = some (.slice a m qc) := fun o => blk_cell (blk_alloc hb o)
  have hZ0 : (List.replicate m (Value.int .i64 0)).toArray = (pdTo zs 0).toArray := by rw [pdTo_zero, hzl]
  generalize hZe : (List.replicate m (Value.int .i64 0)).toArray = Z at hmk
  rw [hZe] at hZ0
  have HZ0 := hidden hZ0
  clear hZ0 hZe
  have HQ := hidden hq
  have HN := hidden hN
  clear hq hN hb
  go_enter Try.func20, Try.ntmps20
  go_wp2
  go_loopw [19] (fun i wr => ∃ k : Nat, k ≤ m ∧ i = .int .i64 k ∧ wr.heap[w.heap.size]? = some (.cells (pdTo zs k).toArray 3 (0, 0)) ∧ Same w wr) (fun i wr => m - (intOf i).toNat)
  case atStart => exact ⟨0, Nat.zero_le _, rfl, by rw [← HZ0.out]; exact heap_alloc_new w _, same_alloc _ _⟩
  case round =>
    obtain ⟨k, hk, rfl, hb, hK⟩ := hrel
    by_cases hlt : k < m
    · obtain ⟨N, ua, x, y, n1, n2, n3⟩ := HN.out k (by omega)
      have hps := pdTo_succ zs k (by omega)
      rw [n3] at hps
      have HPS := hidden hps
      have hqr := own_kept HQ.out hK (fun _ _ h => h)
      obtain ⟨gq, rfl⟩ : ∃ gq : Nat, a = some ⟨gq, 0, none⟩ := by
        rcases HQ.out.2 with ⟨_, h⟩ | ⟨gq, cap, cur, h, _⟩
        · omega
        · exact ⟨gq, by simpa using (Value.slice.inj h).1⟩
      have z1 := hqr.cells (g := gq) rfl (k * 2) _ n1
      have z2 := hqr.cells (g := gq) rfl (k * 2 + 1) _ n2
      rw [add_none, Nat.zero_add] at z1 z2
      have hcell : ∃ p, wr.cell? ⟨w.heap.size, k, none⟩ = some p := ⟨(pdTo zs k)[k]'(by rw [pdTo_len]; omega), by rw [blk_cell hb]; simp [pdTo_len, hzl, hlt]⟩
      obtain ⟨p, p1⟩ := hcell
      have p2 : wr.frozen? ⟨w.heap.size, k, none⟩ = false := blk_free hb
      have hp1 : ∀ o, (wr.alloc o).cell? ⟨w.heap.size, k, none⟩ = some p := fun o => (Kept.cell (same_alloc wr o) (fun h => h) p1)
      have hp2 : ∀ o, (wr.alloc o).frozen? ⟨w.heap.size, k, none⟩ = false := fun o => blk_free (blk_alloc hb o)
      have hne3 := World.new_ne wr _ p1
      have hne5 := World.new_ne wr _ z1
      have q0 : (0 : Int) ≤ (k : Int) := Int.natCast_nonneg _
      have q1 : (k : Int) < (m : Int) := by omega
      have HB := hidden hb
      have HK := hidden hK
      clear hqr n1 n2 n3 hps hb hK hc3
      go_wp2
      go_roundw
      case rel => exact ⟨k + 1, by omega, by go_num, by rw [← HPS.out]; exact blk_set (blk_alloc HB.out _) _, (HK.out.alloc _).setNew (p := ⟨w.heap.size, k, none⟩) (Nat.le_refl _) _⟩
      case measure => simp [intOf]; omega
    · have q1 : ¬ (k : Int) < (m : Int) := by omega
      have HK := hidden hK
      have HB := hidden hb
      obtain rfl : k = zs.length := by omega
      clear hK hb hc3
      go_wp2
      go_returns
      refine ⟨rfl, Or.inr ⟨_, _, by rw [hzl], fun j hj => ?_⟩, HK.out⟩
      rw [add_none, Nat.zero_add, blk_cell HB.out]
      exact pdTo_all zs j hj
end Go.Proofs.Yteoajgphahobiaa
