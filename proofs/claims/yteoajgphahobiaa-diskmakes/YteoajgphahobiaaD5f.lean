/- disk: Flush of a Disk whose power lasts. -/
import Derived.Test.YteoajgphahobiaaD4
namespace Go.Proofs.Yteoajgphahobiaa
open Go.RowKit
set_option linter.unusedVariables false

set_option maxHeartbeats 1000000 in
set_option maxRecDepth 100000 in
theorem d_flush (n pb c pc rb rc g m gq qc : Nat) (qs xs : List Value) (r wn f : Nat) (w : World)
    (hb : w.heap[g]? = some (.cells (DC n pb c pc rb rc (.slice (some ⟨gq, 0, none⟩) m qc) r wn f) 74 (0, 0))) (hq : w.ownsRow 0 58 2 (.slice (some ⟨gq, 0, none⟩) m qc) m qs)
    (hN : ∀ k, k < m → ∃ (N : Nat) (a : Option Addr) (x y : Nat), qs[k * 2]? = some (.int .i64 N) ∧ qs[k * 2 + 1]? = some (.slice a x y) ∧ N < c) (hp : w.ownsRow 0 22 1 (.slice (some ⟨pb, 0, none⟩) c pc) c xs) (hm : m ≤ 1048576) (hf : f ≤ 1048576) :
    Calls Try.prog 25 #[.pointer (some ⟨g, 0, none⟩)] w fun e w' => e = .returned (.int .i64 m) ∧ w'.heap[g]? = some (.cells (DC n pb c pc rb rc (.slice none 0 0) r wn (f + 1)) 74 (0, 0)) ∧ Kept (fun k => k = g ∨ k = pb) w w' := by
  have c3 : w.cell? ⟨g, 3, none⟩ = some (.slice (some ⟨gq, 0, none⟩) m qc) := blk_cell hb
  have c4 : w.cell? ⟨g, 4, none⟩ = some (.bool false) := blk_cell hb
  have B := hidden (d_spend g w c4)
  have HB := hidden hb
  have HQ := hidden hq
  have HN := hidden hN
  have HP := hidden hp
  have hne : pb ≠ g := fun e => own_apart hp hb (by decide) (by rw [← e]; rfl)
  have hne2 : g ≠ pb := hne.symm
  have hqp : gq ≠ pb := fun e => by
    rcases own_rows hq hp (by decide) with h | h
    · cases h
    · exact h (by rw [e]; rfl)
  have hpg : pb ≠ gq := hqp.symm
  clear hb hq hN hp
  go_enter Try.func25, Try.ntmps25
  go_wp2_with (first
    | (go_at_call 44; refine (B.out).mono ?_; rintro e w1 ⟨rfl, rfl⟩))
  go_loopw [24] (fun i wr => ∃ k : Nat, k ≤ m ∧ i = .int .i64 k ∧ (∃ ys, wr.ownsRow 0 22 1 (.slice (some ⟨pb, 0, none⟩) c pc) c ys) ∧ Kept (fun x => x = pb) w wr) (fun i wr => m - (intOf i).toNat)
  case atStart => exact ⟨0, Nat.zero_le _, rfl, ⟨xs, HP.out⟩, Kept.refl _ _⟩
  case round =>
    obtain ⟨k, hk, rfl, ⟨ys, hy⟩, hK⟩ := hrel
    have hb := blk_kept hK (fun e => hne2 e) HB.out
    have d1 : wr.cell? ⟨g, 1, none⟩ = some (.slice (some ⟨pb, 0, none⟩) c pc) := blk_cell hb
    have d3 : wr.cell? ⟨g, 3, none⟩ = some (.slice (some ⟨gq, 0, none⟩) m qc) := blk_cell hb
    have d8 : wr.cell? ⟨g, 8, none⟩ = some (.int .i64 f) := blk_cell hb
    have f3 : wr.frozen? ⟨g, 3, none⟩ = false := blk_free hb
    have f8 : wr.frozen? ⟨g, 8, none⟩ = false := blk_free hb
    have HB1 := hidden hb
    have HK := hidden hK
    have HY := hidden hy
    clear hb hK
    by_cases hlt : k < m
    · obtain ⟨N, a, x, y, n1, n2, n3⟩ := HN.out k hlt
      have hqr := own_kept HQ.out HK.out (fun i hi e => by simp [Value.ownBlock] at hi; omega)
      have z1 := hqr.cells (g := gq) rfl (k * 2) _ n1
      have z2 := hqr.cells (g := gq) rfl (k * 2 + 1) _ n2
      rw [add_none, Nat.zero_add] at z1 z2
      have hyl : ys.length = c := by simpa using hy.1
      obtain ⟨p, hp⟩ : ∃ p, ys[N]? = some p := ⟨ys[N]'(by omega), List.getElem?_eq_getElem (by omega)⟩
      obtain ⟨p1, p2⟩ := own_cell hy p hp
      have q0 : (0 : Int) ≤ (k : Int) := Int.natCast_nonneg _
      have q1 : (k : Int) < (m : Int) := by omega
      have q2 : (0 : Int) ≤ (N : Int) := Int.natCast_nonneg _
      have q3 : (N : Int) < (c : Int) := by omega
      have hp1 : ∀ o, (wr.alloc o).cell? ⟨pb, N, none⟩ = some p := fun o => (Kept.cell (same_alloc wr o) (fun h => h) p1)
      have hp2 : ∀ o, (wr.alloc o).frozen? ⟨pb, N, none⟩ = false := fun o => (own_cell (hy.alloc o) p hp).2
      have hne6 : pb ≠ wr.heap.size := Nat.ne_of_lt (World.block_lt_of_cell? wr _ p1)
      have hne7 : wr.heap.size ≠ pb := hne6.symm
      have hne3 := World.new_ne wr _ p1
      have hne4 := World.new_ne wr _ d1
      have hne5 := World.new_ne wr _ z1
      clear hqr hy hp n1 n2
      go_wp2
      go_region_held3 (fun w' => w'.cell? ⟨g, 1, none⟩ = some (.slice (some ⟨pb, 0, none⟩) c pc) ∧ w'.cell? ⟨wr.heap.size, 0, none⟩ = some (.int .i64 N) ∧ w'.cell? ⟨wr.heap.size, 1, none⟩ = some (.slice a x y)) (go_keep) (fail)
      all_goals
        go_wp2
        go_roundw
        case rel => exact ⟨k + 1, by omega, by go_num, ⟨_, own_set (ownsRow_drew (HY.out.alloc _)) n3 _⟩, (HK.out.alloc _).drew.setCell (p := ⟨pb, N, none⟩) rfl _⟩
        case measure => simp [intOf]; omega
    · have q1 : ¬ (k : Int) < (m : Int) := by omega
      go_wp2
      go_returns
      refine ⟨rfl, ?_, ((HK.out.mono (T := fun k => k = g ∨ k = pb) (fun _ _ h => Or.inr h)).setCell (p := ⟨g, 3, none⟩) (Or.inl rfl) _).setCell (p := ⟨g, 8, none⟩) (Or.inl rfl) _⟩
      exact blk_set (j := 8) (blk_set (j := 3) HB1.out _) _
end Go.Proofs.Yteoajgphahobiaa
