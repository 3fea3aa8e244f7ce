/- disk: Pending. -/
import Derived.Test.YteoajgphahobiaaD4
namespace Go.Proofs.Yteoajgphahobiaa
open Go.RowKit
set_option linter.unusedVariables false

set_option maxHeartbeats 1000000 in
set_option maxRecDepth 100000 in
theorem d_pending (n pb c pc rb rc g m : Nat) (qv : Value) (qs : List Value) (r wn f : Nat) (w : World) (hm : m ≤ 4398046511104)
    (hb : w.heap[g]? = some (.cells (DC n pb c pc rb rc qv r wn f) 74 (0, 0))) (hq : w.ownsRow 0 58 2 qv m qs)
    (hN : ∀ k, k < m → ∃ (N : Nat) (a : Option Addr) (x y : Nat), qs[k * 2]? = some (.int .i64 N) ∧ qs[k * 2 + 1]? = some (.slice a x y) ∧ N < c) :
    Calls Try.prog 20 #[.pointer (some ⟨g, 0, none⟩)] w fun e w' => e = .returned (.slice (some ⟨w.heap.size, 0, none⟩) m m) ∧ Same w w' := by
  obtain ⟨a, qc, rfl⟩ := own_form hq
  have c3 : w.cell? ⟨g, 3, none⟩ = some (.slice a m qc) := blk_cell hb
  have hmk := make_ints m hm
  have hnew := World.new_ne w ⟨g, 3, none⟩ c3
  have hc3 : ∀ o, (w.alloc o).cell? ⟨g, 3, none⟩ = some (.slice a m qc) := fun o => blk_cell (blk_alloc hb o)
  have hzs : ((List.replicate m (Value.int .i64 0)).toArray).size = m := by simp
  generalize (List.replicate m (Value.int .i64 0)).toArray = Z at hmk hzs
  have HQ := hidden hq
  have HN := hidden hN
  clear hq hN hb
  go_enter Try.func20, Try.ntmps20
  go_wp2
  go_loopw [19] (fun i wr => ∃ k : Nat, k ≤ m ∧ i = .int .i64 k ∧ (∃ cs : Array Value, wr.heap[w.heap.size]? = some (.cells cs 3 (0, 0)) ∧ cs.size = m) ∧ Same w wr) (fun i wr => m - (intOf i).toNat)
  case atStart => exact ⟨0, Nat.zero_le _, rfl, ⟨Z, heap_alloc_new w _, hzs⟩, same_alloc _ _⟩
  case round =>
    obtain ⟨k, hk, rfl, ⟨cs, hb, hcs⟩, hK⟩ := hrel
    by_cases hlt : k < m
    · obtain ⟨N, ua, x, y, n1, n2, n3⟩ := HN.out k hlt
      have hqr := own_kept HQ.out hK (fun _ _ h => h)
      obtain ⟨gq, rfl⟩ : ∃ gq : Nat, a = some ⟨gq, 0, none⟩ := by
        rcases HQ.out.2 with ⟨_, h⟩ | ⟨gq, cap, cur, h, _⟩
        · omega
        · exact ⟨gq, by simpa using (Value.slice.inj h).1⟩
      have z1 := hqr.cells (g := gq) rfl (k * 2) _ n1
      have z2 := hqr.cells (g := gq) rfl (k * 2 + 1) _ n2
      rw [add_none, Nat.zero_add] at z1 z2
      have hcell : ∃ p, wr.cell? ⟨w.heap.size, k, none⟩ = some p := ⟨cs[k]'(by omega), by rw [blk_cell hb]; simp [hcs, hlt]⟩
      obtain ⟨p, p1⟩ := hcell
      have p2 : wr.frozen? ⟨w.heap.size, k, none⟩ = false := blk_free hb
      have hp1 : ∀ o, (wr.alloc o).cell? ⟨w.heap.size, k, none⟩ = some p := fun o => (Kept.cell (same_alloc wr o) (fun h => h) p1)
      have hp2 : ∀ o, (wr.alloc o).frozen? ⟨w.heap.size, k, none⟩ = false := fun o => blk_free (blk_alloc hb o)
      have hne3 := World.new_ne wr _ p1
      have hne5 := World.new_ne wr _ z1
      have q0 : (0 : Int) ≤ (k : Int) := Int.natCast_nonneg _
      have q1 : (k : Int) < (m : Int) := by omega
      have HB := hidden hb
      have HK := hidden hK
      clear hqr n1 n2 hb hK hc3
      go_wp2
      go_roundw
      case rel => exact ⟨k + 1, by omega, by go_num, ⟨_, blk_set (blk_alloc HB.out _) _, by simpa using hcs⟩, (HK.out.alloc _).setNew (p := ⟨w.heap.size, k, none⟩) (Nat.le_refl _) _⟩
      case measure => simp [intOf]; omega
    · have q1 : ¬ (k : Int) < (m : Int) := by omega
      have HK := hidden hK
      clear hK hb hc3
      go_wp2
      go_returns
      exact ⟨rfl, HK.out⟩
end Go.Proofs.Yteoajgphahobiaa
