/- journal: both Writers made; what both calls tell, in a law's walk. -/
import Derived.Test.YtljbmpnpbjnbkaaDoorJE2
import Derived.Test.YtljbmpnpbjnbkaaDoorJE3
namespace Go.Proofs.YtljbmpnpbjnbkaaDoor
open Go.RowKit
set_option linter.unusedVariables false
set_option linter.unusedSimpArgs false
set_option maxHeartbeats 1000000 in
set_option maxRecDepth 100000 in
theorem newD_dl (size sectors gen : Nat) (w : World) (h : JMay size sectors) : Calls Tryd.prog 10 #[.int .i64 size, .int .i64 sectors, .int .u64 gen] w fun e w' => e = .returned (.tuple #[.pointer (some ⟨w.heap.size, 0, none⟩), .int .i64 0]) ∧ DL w.heap.size ⟨size, sectors, gen, [], 0, 0⟩ w' (.slice none 0 0) [] ∧ Same w w' := by
  have HP := hidden (fun W => refPower size 512 4096 W (by unfold Pow; omega) (by unfold Pow; omega))
  rw [show decide ((512 : Int) ≤ size ∧ (size : Int) ≤ 4096 ∧ Pow size) = true from decide_eq_true h.1] at HP
  have q1 : ¬ (sectors : Int) < 1 := by have := h.2.1; omega
  have q2 : ¬ (4096 : Int) < (sectors : Int) := by have := h.2.2; omega
  clear h
  go_enter Tryd.func10, Tryd.ntmps10
  go_wp2_with (go_at_call 30; refine (HP.out _).mono ?_; rintro e w1 ⟨rfl, rfl⟩)
  go_returns
  exact ⟨rfl, ⟨blk_new _ _, rfl, World.ownsRow_nil _ _ _ _, fun i x u hx _ => by simp at hx, fun i j u u' k hu => by simp at hu⟩, same_alloc _ _⟩
theorem JX.new {B gp : Nat} {s : JSt} {d : DSt} {w1 w2 : World} (hB : B ≤ gp) (h1 : JW gp s w1) (hr : rowOf w1 gp 4 = none) (k : Same w1 w2) (h2 : DL w1.heap.size d w2 (.slice none 0 0) []) : JX B gp w1.heap.size s d (.slice none 0 0) [] w2 := by
  have hl := h1.lt
  have hj := h1.jkept k (fun h => h)
  have hj' : ∀ i, jS gp w2 i → i = gp := fun i hi => by
    rcases (hj i).1 hi with e | e
    · exact e
    · rw [hr] at e
      cases e
  refine ⟨h1.same k, fun i hi => by rw [hj' i hi]; exact hB, h2, fun i hi => ?_⟩
  have hi' : i = w1.heap.size := by
    rcases hi with e | e | ⟨j, u, hu, e⟩
    · exact e
    · cases e
    · simp at hu
  subst hi'
  exact ⟨by omega, fun e => by have := hj' _ e; omega⟩
/-- The sectors of a Take, as what may be written. -/
def SecW (w : World) (v : Value) (m n0 : Nat) : Prop :=
  ∃ (a : Option Addr) (cap : Nat), v = .slice a m cap ∧ ∀ i, i < m → ∃ (b y len c : Nat) (cs : Array Value), a = some ⟨b, 0, none⟩ ∧ n0 ≤ y ∧ w.cell? ⟨b, i * 2 + 1, none⟩ = some (.slice (some ⟨y, 0, none⟩) len c) ∧ 0 < len  ∧ (∃ bs, w.heap[b]? = some (.cells bs 41 (0, 0))) ∧ w.heap[y]? = some (.cells cs 5 (0, 0)) ∧ 0 < cs.size
theorem Secs.w {w : World} {v : Value} {t B : Nat} {ls : List (List UInt8)} (h : Secs w v t ls B) (hl : ∀ l ∈ ls, 0 < l.length) : SecW w v ls.length B := by
  obtain ⟨us, h1, h2, h3⟩ := h
  rcases h2.2 with ⟨rfl, h0⟩ | ⟨b, cap, cur, rfl, hB, hbl, _⟩
  · exact ⟨none, 0, by rw [h0], fun i hi => by omega⟩
  · refine ⟨_, cap, rfl, fun i hi => ?_⟩
    obtain ⟨u, hu⟩ : ∃ u, us[i]? = some u := ⟨_, List.getElem?_eq_getElem (by omega)⟩
    obtain ⟨hi2, rfl⟩ := List.getElem?_eq_some_iff.1 hu
    obtain ⟨z1, z2⟩ := secCells_at us t i _ hu
    have c2 := h2.cells (g := b) rfl _ _ z2
    rw [add_none, Nat.zero_add] at c2
    obtain ⟨y, hy, e, hby⟩ := h3 i hi hi2
    rw [e] at c2
    have hp := hl _ (List.getElem_mem hi)
    refine ⟨b, y, _, _, _, rfl, hy, by rw [Nat.mul_comm]; exact c2, hp, ⟨_, hbl⟩, hby, by simpa using hp⟩
theorem SecW.same {w w' : World} {v : Value} {m n0 : Nat} (h : SecW w v m n0) (k : Same w w') : SecW w' v m n0 := by
  obtain ⟨a, cap, e, hc⟩ := h
  refine ⟨a, cap, e, fun i hi => ?_⟩
  obtain ⟨b, y, len, c, cs, h1, h2, h3, h4, ⟨bs, h6⟩, h7, h8⟩ := hc i hi
  have h6' := blk_kept k (fun h => h) h6
  exact ⟨b, y, len, c, cs, h1, h2, k.cell (fun h => h) h3, h4, ⟨bs, h6'⟩, blk_kept k (fun h => h) h7, h8⟩
theorem SecW.set {w : World} {v : Value} {m n0 y j : Nat} {cs0 : Array Value} (h : SecW w v m n0) (hy : w.heap[y]? = some (.cells cs0 5 (0, 0))) (u : Value) : SecW (w.setCell ⟨y, j, none⟩ u) v m n0 := by
  obtain ⟨a, cap, e, hc⟩ := h
  have hk : Kept (fun k => k = y) w (w.setCell ⟨y, j, none⟩ u) := (Kept.refl (fun k => k = y) w).setCell (p := ⟨y, j, none⟩) rfl _
  refine ⟨a, cap, e, fun i hi => ?_⟩
  obtain ⟨b, z, len, c, cs, h1, h2, h3, h4, ⟨bs, h6⟩, h7, h8⟩ := hc i hi
  have hby : b ≠ y := fun e => by
    subst e
    rw [h6] at hy
    exact absurd hy (by simp)
  have h6' := blk_kept hk hby h6
  have h3' := hk.cell (p := ⟨b, i * 2 + 1, none⟩) hby h3
  by_cases hz : z = y
  · subst hz
    rw [h7] at hy
    cases hy
    exact ⟨b, z, len, c, cs0.setIfInBounds j u, h1, h2, h3', h4, ⟨bs, h6'⟩, blk_set h7 u, by simpa using h8⟩
  · exact ⟨b, z, len, c, cs, h1, h2, h3', h4, ⟨bs, h6'⟩, blk_kept hk hz h7, h8⟩
end Go.Proofs.YtljbmpnpbjnbkaaDoor
