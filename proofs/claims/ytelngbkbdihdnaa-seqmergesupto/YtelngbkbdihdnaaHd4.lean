/- seq's heap of heads: dropFirst. -/
import Derived.Test.YtelngbkbdihdnaaHd3
import Derived.Lib.SliceRun
namespace Go.Proofs.Ytelngbkbdihdnaa
open Go.RowKit
set_option linter.unusedVariables false
theorem zero_H (w : World) : (zeroValue 103).run Try.prog w = .ok (.agg #[.slice none 0 0, .int .i64 0]) w := by kernel_rfl
theorem clear1_H (b o c : Nat) (w : World) (hc0 : (w.cell? ⟨b, o, none⟩).isSome = true) (hc1 : (w.cell? ⟨b, o + 1, none⟩).isSome = true) (hf : ∀ j, w.frozen? ⟨b, j, none⟩ = false) (ty : TypeId) :
    (Builtin.clear_ #[101] ty #[.slice (some ⟨b, o, none⟩) 1 c]).run Try.prog w = .ok (.tuple #[]) ((w.setCell ⟨b, o, none⟩ (.slice none 0 0)).setCell ⟨b, o + 1, none⟩ (.int .i64 0)) := by
  have hzc : (Builtin.zeroCells (Value.cells (.agg #[.slice none 0 0, .int .i64 0])) 1).toList = [.slice none 0 0, .int .i64 0] := by
    first
      | kernel_rfl
      | (simp [Builtin.zeroCells, Value.cells, List.ofFn]; done)
      | (simp [Builtin.zeroCells]; rfl)
  have hst := run_storeCells_cells (P := Try.prog) b o [.slice none 0 0, .int .i64 0] 0 w (by
    intro j hj
    simp at hj
    rcases (show j = 0 ∨ j = 1 by omega) with rfl | rfl
    · simpa using hc0
    · simpa using hc1) (by intro j hj; simpa using hf _) (by intro v hv; simp at hv; rcases hv with rfl | rfl <;> rfl)
  simp only [Nat.add_zero] at hst
  simp [Builtin.clear_, run_underlying Try.underlying101, hzc, hst]
  rfl
theorem hown_take {w : World} {B g n m cap : Nat} {e : TypeId} {L : List Hd} (h : w.ownsRow B e 2 (.slice (some ⟨g, 0, none⟩) n cap) n (flH L)) (hm : m ≤ n) : w.ownsRow B e 2 (.slice (some ⟨g, 0, none⟩) m cap) m (flH (L.take m)) := by
  obtain ⟨h1, h2⟩ := h
  rw [flH_take]
  refine ⟨by rw [List.length_take]; omega, ?_⟩
  rcases h2 with ⟨h2, _⟩ | ⟨g', cap', cur, hv, hb, hg, hn, hc, hs, ht⟩
  · cases h2
  · obtain ⟨rfl, rfl⟩ : g = g' ∧ cap = cap' := by simpa using hv
    refine Or.inr ⟨g, cap, cur, rfl, hb, hg, by omega, hc, hs, ?_⟩
    rw [← ht, List.take_take]
    congr 1
    omega
set_option maxHeartbeats 1000000 in
set_option maxRecDepth 100000 in
theorem drop_H (b cap n : Nat) (L : List Hd) (w : World) (hL : L.length = n) (h1 : 0 < L.length) (hn : n ≤ 1073741824) (hcap : n ≤ cap) (hb : w.ownsRow 0 103 2 (.slice (some ⟨b, 0, none⟩) n cap) n (flH L)) (hV : ∀ x ∈ L, ∃ a m c, x.v = .slice a m c) (hA : ∀ x ∈ dropL L h1, HdOk b w x) (hD : Down ltH (dropL L h1) 0) :
    Calls Try.prog 66 #[.slice (some ⟨b, 0, none⟩) n cap, befV] w fun e w' => e = .returned (.slice (some ⟨b, 0, none⟩) (n - 1) cap) ∧ ∃ L', L'.Perm (dropL L h1) ∧ IsHeap ltH L' ∧ w'.ownsRow 0 103 2 (.slice (some ⟨b, 0, none⟩) (n - 1) cap) (n - 1) (flH L') ∧ Kept (fun k => k = b) w w' := by
  obtain ⟨m, hm⟩ : ∃ m, n = m + 1 := ⟨n - 1, by omega⟩
  subst hm
  have hml : m < L.length := by omega
  obtain ⟨c1, c2, cf⟩ := hown_cell hb hml
  obtain ⟨c3, c4, -⟩ := hown_cell hb h1
  obtain ⟨y, hy⟩ : ∃ y, L[0] = y := ⟨_, rfl⟩
  obtain ⟨x, hx⟩ : ∃ x, L[m] = x := ⟨_, rfl⟩
  obtain ⟨xa, xm, xc, hxv⟩ := hV L[m] (List.getElem_mem _)
  have HB := hidden hb
  rw [hx] at c1 c2 hxv
  rw [hy] at c3 c4
  simp only [Nat.zero_mul, Nat.zero_add] at c3 c4
  obtain ⟨xv, xk, xp⟩ := x
  dsimp only at c1 c2 hxv
  subst hxv
  have hs0 := hown_set (i := 0) HB.out ⟨.slice xa xm xc, xk, xp⟩
  have hs1 := hown_set (i := m) hs0 ⟨.slice none 0 0, ByteArray.empty, 0⟩
  simp only [Nat.zero_mul, Nat.zero_add] at hs0 hs1
  have hlen : (L.set 0 ⟨.slice xa xm xc, xk, xp⟩).length = m + 1 := by rw [List.length_set]; exact hL
  obtain ⟨g1, g2, gf⟩ := hown_cell hs0 (i := m) (by omega)
  have hcl := clear1_H b (m * 2) (cap - m) _ (by rw [g1]; rfl) (by rw [g2]; rfl) gf
  have e1 : L.length - 1 = m := by omega
  have hrow := hown_take (m := m) hs1 (by omega)
  have e2 : ((L.set 0 ⟨.slice xa xm xc, xk, xp⟩).set m ⟨.slice none 0 0, ByteArray.empty, 0⟩).take m = dropL L h1 := by
    rw [dropL]
    simp only [e1, hx]
    rw [List.take_set_of_le (Nat.le_refl m)]
  rw [e2] at hrow
  have HKK : Kept (fun k => k = b) w ((((w.setCell ⟨b, 0, none⟩ (.slice xa xm xc)).setCell ⟨b, 1, none⟩ (.int .i64 (xp : Int))).setCell ⟨b, m * 2, none⟩ (.slice none 0 0)).setCell ⟨b, m * 2 + 1, none⟩ (.int .i64 0)) := ((((Kept.refl (fun k => k = b) w).setCell (p := ⟨b, 0, none⟩) rfl _).setCell (p := ⟨b, 1, none⟩) rfl _).setCell (p := ⟨b, m * 2, none⟩) rfl _).setCell (p := ⟨b, m * 2 + 1, none⟩) rfl _
  have SK := hidden (sink_H b cap m (dropL L h1) _ (by rw [dropL_len]; omega) (by omega) hrow (fun x hx => (hA x hx).kept HKK) hD)
  have HKK' := hidden HKK
  have q1 : (m : Int) ≤ (cap : Int) := by omega
  clear hb hA hV hD hx hy hrow e1 e2 hL HKK hs0 hs1 g1 g2 gf hlen
  go_enter Try.func66, Try.ntmps66
  go_wp2_with (first
    | (rw [hcl])
    | (go_at_call 65; go_must (refine (SK.out).mono ?_; rintro e w1 ⟨rfl, L', hp, hh, hr, hk⟩)))
  go_returns
  exact ⟨rfl, L', hp, hh, hr, HKK'.out.trans hk⟩
/-- A heap's first one is another one: its place is to be found. -/
theorem down_first {κ : Type} {lt : κ → κ → Bool} {L : List κ} (hh : IsHeap lt L) (x : κ) : Down lt (L.set 0 x) 0 := by
  refine ⟨fun j hj j0 hne => ?_, fun j hj j0 e h0 => by omega⟩
  rw [List.length_set] at hj
  have := hh j hj j0
  rw [List.getElem_set_ne (by omega), List.getElem_set_ne (by omega)]
  exact this
theorem dropL_first {κ : Type} {L : List κ} (x : κ) (h : 0 < L.length) (h' : 0 < (L.set 0 x).length) : dropL (L.set 0 x) h' = dropL L h := by
  unfold dropL
  rcases Nat.lt_or_ge 1 L.length with h1 | h1
  · simp only [List.length_set, List.set_set]
    rw [List.getElem_set_ne (by omega)]
  · have e : L.length = 1 := by omega
    simp [e]
end Go.Proofs.Ytelngbkbdihdnaa
