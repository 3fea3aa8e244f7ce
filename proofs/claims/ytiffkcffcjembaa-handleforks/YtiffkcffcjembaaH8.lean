/- The document's table: find, Get, Count. -/
import Derived.Test.YtiffkcffcjembaaH7
namespace Go.Proofs.Ytiffkcffcjembaa
open Go.RowKit Go.Maps
set_option linter.unusedVariables false
set_option linter.unusedSimpArgs false
/-- The document's table in memory: a row of handles. -/
structure RT (w : World) (gr : Nat) (l : List HT) : Prop where
  ex : ∃ v, w.heap[gr]? = some (.cells #[v] 29 (0, 0)) ∧ w.ownsRow 0 44 3 v l.length (c3 l)
theorem RT.kept {w w' : World} {S : Nat → Prop} {gr : Nat} {l : List HT} (h : RT w gr l) (hk : Kept S w w') (h1 : ¬ S gr) (h2 : ∀ b cs, w.heap[b]? = some (.cells cs 44 (0, 0)) → ¬ S b) : RT w' gr l := by
  obtain ⟨v, hb, ho⟩ := h.ex
  refine ⟨v, blk_kept hk h1 hb, own_kept ho hk (fun k hk' => ?_)⟩
  rcases ho.2 with ⟨rfl, _⟩ | ⟨g, cap, cur, rfl, _, hh, _⟩
  · simp [Value.ownBlock] at hk'
  · obtain rfl : g = k := by simpa [Value.ownBlock] using hk'
    exact h2 g _ hh
theorem RT.same {w w' : World} {gr : Nat} {l : List HT} (h : RT w gr l) (hk : Same w w') : RT w' gr l := h.kept hk (fun h => h) (fun _ _ _ h => h)
set_option maxHeartbeats 1000000 in
set_option maxRecDepth 100000 in
theorem r_find (gr : Nat) (l : List HT) (x : Int) (m : Nat) (r : Int) (w : World) (h : RT w gr l) (hl : l.length ≤ 64) (hm : m ≤ l.length) (hno : ∀ i p, i < m → l[i]? = some p → p.1 ≠ x) (hat : ∀ p, l[m]? = some p → p.1 = x) (hr1 : Hid (m < l.length → r = m)) (hr2 : Hid (m = l.length → r = -1)) :
    Calls Try.prog 32 #[P0 gr, .int .i64 x] w fun e w' => e = .returned (.int .i64 r) ∧ Same w w' := by
  obtain ⟨v, hb, ho⟩ := h.ex
  obtain ⟨va, vc, rfl⟩ := own_form ho
  have c0 : w.cell? ⟨gr, 0, none⟩ = some (.slice va l.length vc) := (blk_cell hb).trans rfl
  have HO := hidden ho
  clear hb ho
  obtain ⟨L, hL⟩ : ∃ L, L = l.length := ⟨_, rfl⟩
  rw [← hL] at c0 hl hm hr1 hr2
  have HL := hidden hL
  clear hL
  go_enter Try.func32, Try.ntmps32
  go_wp2
  go_loopw [12] (fun i wr => ∃ k : Nat, k ≤ m ∧ i = .int .i64 k ∧ Same w wr) (fun i _ => 65 - (intOf i).toNat)
  case atStart => exact ⟨0, Nat.zero_le _, rfl, Kept.refl _ _⟩
  case round =>
    obtain ⟨k, hk, rfl, hs⟩ := hrel
    have S1 := hidden hs
    by_cases hlt : k < L
    · obtain ⟨p, hp⟩ : ∃ p, l[k]? = some p := ⟨_, List.getElem?_eq_getElem (by rw [← HL.out]; exact hlt)⟩
      obtain ⟨g, gc, e1, _, _, _, c1⟩ := own_at HO.out (by rw [← HL.out]; omega)
      obtain ⟨rfl, _, rfl⟩ : va = some ⟨g, 0, none⟩ ∧ True ∧ vc = gc := by simpa using e1
      obtain ⟨t0, t1, t2⟩ := c3_at l k p hp
      have d1 := S1.out.cell (fun h => h) (c1 _ _ t0)
      have d2 := S1.out.cell (fun h => h) (c1 _ _ t1)
      have d3 := S1.out.cell (fun h => h) (c1 _ _ t2)
      have hk1 : (k : Int) < L := by omega
      clear t0 t1 t2 c1 e1 hs
      by_cases hkm : k = m
      · have e0 : p.1 = x := by subst hkm; exact hat p hp
        have HR : Hid ((k : Int) = r) := hidden (by rw [hr1.out (by omega), hkm])
        rw [e0] at d1
        clear hat hno hkm hk e0 hp
        go_wp2
        go_ret
        exact ⟨ret_int HR.out, S1.out.alloc _⟩
      · have e0 : p.1 ≠ x := hno k p (by omega) hp
        have e1 : (p.1 == x) = false := by simpa using e0
        clear hat hno hp
        go_wp2
        go_roundw
        case rel => exact ⟨k + 1, by omega, by go_num, S1.out.alloc _⟩
        case measure => simp [intOf]; omega
    · have hm4 : m = L := by omega
      clear hat hno
      go_wp2
      go_ret
      exact ⟨ret_int (hr2.out hm4).symm, hs⟩
set_option maxHeartbeats 1000000 in
set_option maxRecDepth 100000 in
theorem r_count (gr : Nat) (l : List HT) (x : Int) (w : World) (h : RT w gr l) (hl : l.length ≤ 64) :
    Calls Try.prog 22 #[P0 gr, .int .i64 x] w fun e w' => e = .returned (.int .i64 (ci l x l.length : Nat)) ∧ Same w w' := by
  obtain ⟨v, hb, ho⟩ := h.ex
  obtain ⟨va, vc, rfl⟩ := own_form ho
  have c0 : w.cell? ⟨gr, 0, none⟩ = some (.slice va l.length vc) := (blk_cell hb).trans rfl
  have HO := hidden ho
  clear hb ho
  obtain ⟨L, hL⟩ : ∃ L, L = l.length := ⟨_, rfl⟩
  rw [← hL] at c0 hl ⊢
  have HL := hidden hL
  clear hL
  go_enter Try.func22, Try.ntmps22
  go_wp2
  go_loopw [5, 13] (fun c i wr => ∃ k : Nat, k ≤ L ∧ i = .int .i64 k ∧ c = .int .i64 (ci l x k : Nat) ∧ Same w wr) (fun _ i _ => 65 - (intOf i).toNat)
  case atStart => exact ⟨0, Nat.zero_le _, rfl, by simp [ci], Kept.refl _ _⟩
  case round =>
    obtain ⟨k, hk, rfl, rfl, hs⟩ := hrel
    have S1 := hidden hs
    by_cases hlt : k < L
    · obtain ⟨p, hp⟩ : ∃ p, l[k]? = some p := ⟨_, List.getElem?_eq_getElem (by rw [← HL.out]; exact hlt)⟩
      obtain ⟨g, gc, e1, _, _, _, c1⟩ := own_at HO.out (by rw [← HL.out]; omega)
      obtain ⟨rfl, _, rfl⟩ : va = some ⟨g, 0, none⟩ ∧ True ∧ vc = gc := by simpa using e1
      obtain ⟨t0, t1, t2⟩ := c3_at l k p hp
      have d1 := S1.out.cell (fun h => h) (c1 _ _ t0)
      have d2 := S1.out.cell (fun h => h) (c1 _ _ t1)
      have d3 := S1.out.cell (fun h => h) (c1 _ _ t2)
      have hk1 : (k : Int) < L := by omega
      have hcl := ci_le l x k
      rw [← HL.out] at hcl
      have hsu := ci_succ l x k p hp
      clear t0 t1 t2 c1 e1 hs
      by_cases hkm : p.2.1 = x
      · rw [if_pos hkm] at hsu
        have HSU := hidden hsu
        have e1 : (p.2.1 == x) = true := by simpa using hkm
        clear hsu hkm hp
        go_wp2
        go_roundw
        case rel => exact ⟨k + 1, by omega, by go_num, by rw [HSU.out]; go_num, S1.out.alloc _⟩
        case measure => simp [intOf]; omega
      · rw [if_neg hkm] at hsu
        have HSU := hidden hsu
        have e1 : (p.2.1 == x) = false := by simpa using hkm
        clear hsu hkm hp
        go_wp2
        go_roundw
        case rel => exact ⟨k + 1, by omega, by go_num, by rw [HSU.out]; go_num, S1.out.alloc _⟩
        case measure => simp [intOf]; omega
    · have hm4 : k = L := by omega
      subst hm4
      go_wp2
      go_ret
      exact ⟨rfl, hs⟩
end Go.Proofs.Ytiffkcffcjembaa
