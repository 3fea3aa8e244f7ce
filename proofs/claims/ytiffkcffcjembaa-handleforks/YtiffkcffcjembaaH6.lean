/- The law's sameInts, sameHandles of equal rows; a table's All. -/
import Derived.Test.YtiffkcffcjembaaH5
import Derived.Test.YtiffkcffcjembaaShH
namespace Go.Proofs.Ytiffkcffcjembaa
open Go.RowKit Go.Maps
set_option linter.unusedVariables false
set_option linter.unusedSimpArgs false
theorem own_is {w : World} {B e s n : Nat} {v : Value} {xs : List Value} (h : w.ownsRow B e s v n xs) : ∃ a cap, v = .slice a n cap := own_form h
set_option maxHeartbeats 1000000 in
set_option maxRecDepth 100000 in
theorem sameInts_eq (a b : Value) (l : List Int) (B C : Nat) (w : World) (ha : w.ownsRow B 3 1 a l.length (l.map (Value.int .i64))) (hb : w.ownsRow C 3 1 b l.length (l.map (Value.int .i64))) (hl : l.length ≤ 9223372036854775806) :
    Calls Try.prog 24 #[a, b] w fun e w' => e = .returned (.bool true) ∧ Same w w' := by
  obtain ⟨aa, ac, rfl⟩ := own_form ha
  obtain ⟨ba, bc, rfl⟩ := own_form hb
  have HA := hidden ha
  have HB := hidden hb
  clear ha hb
  obtain ⟨L, hL⟩ : ∃ L, L = l.length := ⟨_, rfl⟩
  rw [← hL] at hl ⊢
  have HL := hidden hL
  clear hL
  go_enter Try.func24, Try.ntmps24
  go_wp2
  go_loopw [13] (fun i wr => ∃ k : Nat, k ≤ L ∧ i = .int .i64 k ∧ Same w wr) (fun i _ => L - (intOf i).toNat)
  case atStart => exact ⟨0, Nat.zero_le _, rfl, Kept.refl _ _⟩
  case round =>
    obtain ⟨k, hk, rfl, hs⟩ := hrel
    have S1 := hidden hs
    clear hs
    by_cases hlt : k < L
    · obtain ⟨x, hx⟩ : ∃ x, l[k]? = some x := ⟨_, List.getElem?_eq_getElem (by rw [← HL.out]; exact hlt)⟩
      obtain ⟨g, gc, e1, _, _, _, c1⟩ := own_at HA.out (by rw [← HL.out]; omega)
      obtain ⟨q, qc, e2, _, _, _, c2⟩ := own_at HB.out (by rw [← HL.out]; omega)
      obtain ⟨rfl, _, rfl⟩ : aa = some ⟨g, 0, none⟩ ∧ True ∧ ac = gc := by simpa using e1
      obtain ⟨rfl, _, rfl⟩ : ba = some ⟨q, 0, none⟩ ∧ True ∧ bc = qc := by simpa using e2
      have d1 : wr.cell? ⟨g, k, none⟩ = some (.int .i64 x) := S1.out.cell (fun h => h) (c1 k _ (by simp [hx]))
      have d2 : wr.cell? ⟨q, k, none⟩ = some (.int .i64 x) := S1.out.cell (fun h => h) (c2 k _ (by simp [hx]))
      have hk1 : (k : Int) < L := by omega
      clear c1 c2 e1 e2 hx
      go_wp2
      go_quiet (fail)
      go_wp2
      go_roundw
      case rel => exact ⟨k + 1, by omega, by go_num, S1.out.drewN _⟩
      case measure => simp [intOf]; omega
    · go_wp2
      go_ret
      exact ⟨rfl, S1.out⟩
set_option maxHeartbeats 1000000 in
set_option maxRecDepth 100000 in
theorem sameHandles_eq (a b : Value) (l : List HT) (B C : Nat) (w : World) (ha : w.ownsRow B 44 3 a l.length (c3 l)) (hb : w.ownsRow C 44 3 b l.length (c3 l)) (hl : l.length ≤ 9223372036854775806) :
    Calls Try.prog 23 #[a, b] w fun e w' => e = .returned (.bool true) ∧ Same w w' := by
  obtain ⟨aa, ac, rfl⟩ := own_form ha
  obtain ⟨ba, bc, rfl⟩ := own_form hb
  have HA := hidden ha
  have HB := hidden hb
  clear ha hb
  obtain ⟨L, hL⟩ : ∃ L, L = l.length := ⟨_, rfl⟩
  rw [← hL] at hl ⊢
  have HL := hidden hL
  clear hL
  go_enter Try.func23, Try.ntmps23
  go_wp2
  go_loopw [13] (fun i wr => ∃ k : Nat, k ≤ L ∧ i = .int .i64 k ∧ Same w wr) (fun i _ => L - (intOf i).toNat)
  case atStart => exact ⟨0, Nat.zero_le _, rfl, Kept.refl _ _⟩
  case round =>
    obtain ⟨k, hk, rfl, hs⟩ := hrel
    have S1 := hidden hs
    clear hs
    by_cases hlt : k < L
    · obtain ⟨x, hx⟩ : ∃ x, l[k]? = some x := ⟨_, List.getElem?_eq_getElem (by rw [← HL.out]; exact hlt)⟩
      obtain ⟨g, gc, e1, _, _, _, c1⟩ := own_at HA.out (by rw [← HL.out]; omega)
      obtain ⟨q, qc, e2, _, _, _, c2⟩ := own_at HB.out (by rw [← HL.out]; omega)
      obtain ⟨rfl, _, rfl⟩ : aa = some ⟨g, 0, none⟩ ∧ True ∧ ac = gc := by simpa using e1
      obtain ⟨rfl, _, rfl⟩ : ba = some ⟨q, 0, none⟩ ∧ True ∧ bc = qc := by simpa using e2
      obtain ⟨t0, t1, t2⟩ := c3_at l k x hx
      have d1 := S1.out.cell (fun h => h) (c1 _ _ t0)
      have d2 := S1.out.cell (fun h => h) (c1 _ _ t1)
      have d3 := S1.out.cell (fun h => h) (c1 _ _ t2)
      have d4 := S1.out.cell (fun h => h) (c2 _ _ t0)
      have d5 := S1.out.cell (fun h => h) (c2 _ _ t1)
      have d6 := S1.out.cell (fun h => h) (c2 _ _ t2)
      clear t0 t1 t2
      have hk1 : (k : Int) < L := by omega
      clear c1 c2 e1 e2 hx
      go_wp2
      go_quiet (fail)
      go_wp2
      go_roundw
      case rel => exact ⟨k + 1, by omega, by go_num, S1.out.drewN _⟩
      case measure => simp [intOf]; omega
    · go_wp2
      go_ret
      exact ⟨rfl, S1.out⟩
end Go.Proofs.Ytiffkcffcjembaa
