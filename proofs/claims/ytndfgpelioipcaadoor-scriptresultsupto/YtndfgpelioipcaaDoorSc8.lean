/- script: newGrammar, walked. -/
import Derived.Test.YtndfgpelioipcaaDoorSc7
namespace Go.Proofs.YtndfgpelioipcaaDoor
open Go.RowKit Go.Maps Go.WideMaps
set_option linter.unusedVariables false
set_option linter.unusedSimpArgs false
theorem sameKey_int (a b : Int) : (Lit.int .i64 a).sameKey (.int .i64 b) = decide (a = b) := by
  by_cases h : a = b
  · subst h; simp [Lit.sameKey]
  · rw [sameKey_ne (fun e => h (by cases e; rfl)), decide_eq_false h]
theorem grown_same {w w' : World} {r : Nat} (h : w.grownBy w' (some r)) {a : World} (k : Same a w) (hr : a.heap.size ≤ r) : Same a w' := k.grown h (fun j hj hl => by cases hj; omega)
set_option maxHeartbeats 4000000 in
set_option maxRecDepth 100000 in
theorem grammar_any (w : World) : Calls Tryd.prog 23 #[] w fun e w' => (∃ bf bk, e = .returned (.agg #[.map (some bf), .map (some bk)]) ∧ Gr w.heap.size w' bf bk) ∧ Same w w' := by
  have hmm := @run_makeMap Tryd.prog
  have hF0 : FM (((w.alloc (.cells #[.map none, .map none] 51)).alloc (.map #[] 0)).alloc (.map #[] 0)) (w.heap.size + 2) 0 (((w.alloc (.cells #[.map none, .map none] 51)).alloc (.map #[] 0)).alloc (.map #[] 0)) :=
    ⟨by have := World.ownsMap_made ((w.alloc (.cells #[.map none, .map none] 51)).alloc (.map #[] 0)) Tryd.prog 3 formR; simpa [Dn] using this, ⟨rfl, rfl, rfl, Nat.le_refl _, fun _ _ _ => rfl⟩⟩
  have HF := hidden hF0
  clear hF0
  go_enter Tryd.func23, Tryd.ntmps23
  go_wp2_with (first
    | (refine ins_step (by rfl) _ _ _ (by rfl) HF.out (by decide) (by rfl) (by rfl) (by rfl) ?_; intro wN hf; clear HF; have HF := hidden hf; clear hf)
    | (at_range; refine wpList_range_own _ rfl _ 48 rfl 3 68 lawI Tryd.underlying48 formR (w.heap.size + 1 + 1) 19 (Dn 19) rfl (HF.out.own.alloc _) ?_; intro w0 hrg0 hg0 hs0))
  go_frame
  have e1 : (wN.alloc (.cells #[.map (some (w.heap.size + 1 + 1)), .map (some (w.heap.size + 1))] 51)).heap.size = wN.heap.size + 1 := by simp
  rw [e1] at hrg0 hs0 ⊢
  have hN : w.heap.size + 3 ≤ wN.heap.size := by have := HF.out.grown.size; simp at this; omega
  obtain ⟨G, hG⟩ : ∃ G, G = wN.heap.size := ⟨_, rfl⟩
  have hSN : Same w wN := ⟨HF.out.grown.os, HF.out.grown.tape, HF.out.grown.output, by omega, fun k hk _ => by
    rw [HF.out.grown.block k (by simp; omega) (by intro h; have := Option.some.inj h; omega)]
    exact (((same_alloc w _).alloc _).alloc _).block k hk (fun h => h)⟩
  have hbox0 : wN.heap[w.heap.size]? = some (.cells #[.map none, .map none] 51 (0, 0)) := by
    rw [HF.out.grown.block _ (by simp; omega) (by intro h; have := Option.some.inj h; omega)]
    exact blk_alloc (blk_alloc (blk_new w _) _) _
  have hkm : wN.ownsMap Tryd.prog 9 (plainElem Tryd.prog 3) (w.heap.size + 1) 0 (.map [] : DataW Unit) := by
    have h1 := World.ownsMap_made (w.alloc (.cells #[.map none, .map none] 51)) Tryd.prog 9 (plainElem (H := Unit) Tryd.prog 3)
    have h2 : (((w.alloc (.cells #[.map none, .map none] 51)).alloc (.map #[] 0)).alloc (.map #[] 0)).ownsMap Tryd.prog 9 (plainElem (H := Unit) Tryd.prog 3) (w.heap.size + 1) 0 (.map []) := by have := h1.alloc (.map #[] 0); simpa using this
    exact h2.kept HF.out.grown (by intro h; have := Option.some.inj h; omega)
  have HB0 := hidden ((hg0.block w.heap.size (by simp; omega) (by simp)).trans (blk_alloc hbox0 _))
  have HB1 := hidden ((hg0.block wN.heap.size (by simp) (by simp)).trans (blk_new wN _))
  have HKm := hidden ((hkm.alloc _).kept hg0 (by simp))
  have HS0 := hidden (show Same w w0 from (hSN.alloc _).grown hg0 (fun j hj => by cases hj))
  have hsz := hrg0.owns.size_le
  have HR0 := hidden hrg0
  rw [← hG] at HB1 HR0 hs0 hN ⊢
  have hKz : KM (.map []) (fun x => Maps.has (Dn 19) (.int .i64 x)) := KM.zero _ (fun k h1 h2 => by rw [Dn_has, decide_eq_true (by omega)])
  have HKz := hidden hKz
  clear hG hSN hbox0 hkm HF hrg0 hg0 e1 hKz
  go_loopw [2] (fun _ wr => ∃ (left : Lit → Bool) (cnt nk : Nat) (Dk : DataW Unit), wr.ranges Tryd.prog 3 formR (w.heap.size + 1 + 1) (G + 1) 19 (Dn 19) left cnt ∧ nk + cnt ≤ 19 ∧ wr.ownsMap Tryd.prog 9 (plainElem Tryd.prog 3) (w.heap.size + 1) nk Dk ∧ KM Dk (fun x => left (.int .i64 x)) ∧
      wr.heap[w.heap.size]? = some (.cells #[.map none, .map none] 51 (0, 0)) ∧ wr.heap[G]? = some (.cells #[.map (some (w.heap.size + 1 + 1)), .map (some (w.heap.size + 1))] 51 (0, 0)) ∧ Same w wr) (fun _ wr => wr.rangeLeft (w.heap.size + 1 + 1) (G + 1))
  case atStart => exact ⟨_, _, 0, .map [], HR0.out, by omega, HKm.out, HKz.out, HB0.out, HB1.out, HS0.out⟩
  case round =>
    obtain ⟨left, cnt, nk, Dk, hrg, hcs, hK, hM, hb0, hb1, hS⟩ := hrel
    have HRg := hidden hrg
    have HK := hidden hK
    have HM := hidden hM
    have HB0 := hidden hb0
    have HB1 := hidden hb1
    have HS := hidden hS
    clear hrg hK hM hb0 hb1 hS
    go_wp2_with (first
      | (at_next; refine wpList_next_ranges (α := Int) (β := ByteArray × ByteArray) _ rfl _ rfl 3 lawI formR (Value.int .i64) (fun c => .agg #[.string c.1, .string c.2]) (fun key kl hk => by obtain ⟨x, rfl, _⟩ := Maps.keyOf_int_inv Tryd.underlying3 hk; exact ⟨x, rfl⟩) (fun v y hv => by obtain ⟨c, rfl, _⟩ := formR_inv hv; exact ⟨c, rfl⟩) (w.heap.size + 1 + 1) (G + 1) 19 _ _ _ rfl HRg.out ?_ ?_)
      | go_in)
    · intro hc0 hl0
      have c0 : wr.cell? ⟨G, 0, none⟩ = some (.map (some (w.heap.size + 1 + 1))) := blk_cell HB1.out
      have c1 : wr.cell? ⟨G, 1, none⟩ = some (.map (some (w.heap.size + 1))) := blk_cell HB1.out
      have f0 : wr.frozen? ⟨w.heap.size, 0, none⟩ = false := blk_free HB0.out
      have f1 : wr.frozen? ⟨w.heap.size, 1, none⟩ = false := blk_free HB0.out
      have c2 : wr.cell? ⟨w.heap.size, 0, none⟩ = some (.map none) := blk_cell HB0.out
      have c3 : wr.cell? ⟨w.heap.size, 1, none⟩ = some (.map none) := blk_cell HB0.out
      have HL0 := hidden hl0
      clear hl0
      go_wp2
      have S9 := (HS.out.setNew (p := ⟨w.heap.size, 0, none⟩) (Nat.le_refl _) (.map (some (w.heap.size + 1 + 1)))).setNew (p := ⟨w.heap.size, 1, none⟩) (Nat.le_refl _) (.map (some (w.heap.size + 1)))
      have hb9 := blk_set (blk_set HB0.out (j := 0) (.map (some (w.heap.size + 1 + 1)))) (j := 1) (.map (some (w.heap.size + 1)))
      have g9 : Gr w.heap.size ((wr.setCell ⟨w.heap.size, 0, none⟩ (.map (some (w.heap.size + 1 + 1)))).setCell ⟨w.heap.size, 1, none⟩ (.map (some (w.heap.size + 1)))) (w.heap.size + 1 + 1) (w.heap.size + 1) :=
        ⟨by omega, by omega, ((HRg.out.owns.setCell (a := ⟨w.heap.size, 0, none⟩) (by simp; omega) _).setCell (a := ⟨w.heap.size, 1, none⟩) (by simp; omega) _).mono (by omega), Dk, ((HK.out.setCell (a := ⟨w.heap.size, 0, none⟩) (by simp) _).setCell (a := ⟨w.heap.size, 1, none⟩) (by simp) _).mono (by omega), by
          have := HM.out
          exact ⟨this.isMap, fun l => by rw [this.has]; simp only [HL0.out], fun l h1 h2 => this.at_ l h1 (HL0.out _)⟩⟩
      generalize (wr.setCell ⟨w.heap.size, 0, none⟩ (.map (some (w.heap.size + 1 + 1)))).setCell ⟨w.heap.size, 1, none⟩ (.map (some (w.heap.size + 1))) = w9 at *
      have d0 : w9.cell? ⟨w.heap.size, 0, none⟩ = some (.map (some (w.heap.size + 1 + 1))) := blk_cell hb9
      have d1 : w9.cell? ⟨w.heap.size, 1, none⟩ = some (.map (some (w.heap.size + 1))) := blk_cell hb9
      exact bodyPost_ret (v := .agg #[.map (some (w.heap.size + 1 + 1)), .map (some (w.heap.size + 1))]) (by simp [results, Tryd.results23, go_sem, d0, d1]) rfl ⟨⟨_, _, rfl, g9⟩, S9⟩
    · intro x c1 c2 kl y1 y2 w1 cnt1 hkey hlk hv hat hrg1 hlt hg1 hs1 hen
      obtain ⟨x', hx1, rfl, hwx⟩ := Maps.keyOf_int_inv Tryd.underlying3 hkey
      obtain rfl : x = x' := by simpa using hx1
      obtain ⟨c', hc', hy⟩ := formR_inv hv
      have hh := has_true_of_atKey hat
      rw [Dn_has] at hh
      have hx := of_decide_eq_true hh
      have hat0 := hat (.map [])
      rw [Dn_at, if_pos hx] at hat0
      have hy1 := (Prod.mk.inj hy).1
      rw [hy1] at hat0
      obtain ⟨k, rfl⟩ := Int.eq_ofNat_of_zero_le (show 0 ≤ x by omega)
      have hc1 : c1 = BA (nmL k) := by
        simp only [Value.agg.injEq, formD, Int.toNat_natCast, DataW.agg.injEq, List.cons.injEq, DataW.lit.injEq, Lit.string.injEq, and_true] at hat0 hc'
        have h5 : [Value.string c1, Value.string c2] = [Value.string c'.1, Value.string c'.2] := congrArg Array.toList hc'
        have e0 : c1 = c'.1 := by simp at h5; exact h5.1
        rw [e0, hat0.1, BA_of]
      subst hc1
      have HM2 := hidden (HM.out.step (left2 := fun x => left (.int .i64 x) && !(Lit.int .i64 x).sameKey (.int .i64 (k : Int))) k (by omega) (by omega) (fun x => by rw [sameKey_int]))
      have hnz := nm_size k (by omega) (by omega)
      have HK1 := hidden (HK.out.kept hg1 (by intro h; have := Option.some.inj h; omega))
      have B0 := hidden ((hg1.block w.heap.size (blk_lt HB0.out) (by intro h; have := Option.some.inj h; omega)).trans HB0.out)
      have B1 := hidden ((hg1.block G (blk_lt HB1.out) (by intro h; have := Option.some.inj h; omega)).trans HB1.out)
      have HS1 := hidden (grown_same hg1 HS.out (by omega))
      have HR1 := hidden hrg1
      have e0 : ∀ o, (w1.alloc o).cell? ⟨G, 0, none⟩ = some (.map (some (w.heap.size + 1 + 1))) := fun o => blk_cell (blk_alloc B1.out o)
      have e1 : ∀ o, (w1.alloc o).cell? ⟨G, 1, none⟩ = some (.map (some (w.heap.size + 1))) := fun o => blk_cell (blk_alloc B1.out o)
      have HX := hidden (show 1 ≤ k ∧ k ≤ 19 by omega)
      clear hv hat hh hx hat0 hc' hy hy1 hkey hrg1 hg1 hlk hx1
      go_wp2_with (first
        | (at_mapUpdate; refine wpList_mapUpdate_own _ rfl _ _ _ 49 rfl 9 3 lawS Tryd.underlying49 _ (w.heap.size + 1) nk Dk rfl (HK1.out.alloc _) (by unfold maxLen; omega) _ _ _ rfl rfl (keyOf_string_mk Tryd.underlying9 (s := BA (nmL k)) (by rw [BA_size]; unfold maxLen; omega)) _ [] (plainElem_int Tryd.underlying3 hwx) ?_; intro w2 hk2 hg2; go_frame)
        | go_in)
      have hbl := blk_lt B1.out
      have hR2 := (HR1.out.alloc (.cells #[.string (BA (nmL k)), .string c2] 68)).kept hg2 (by intro h; have := Option.some.inj h; omega) (by intro h; have := Option.some.inj h; omega)
      go_roundw
      case rel =>
        exact ⟨_, cnt1, nk + 1, _, hR2, by omega, hk2, HM2.out, (hg2.block _ (by simp; have := HS1.out.size; omega) (by intro h; have := Option.some.inj h; omega)).trans (blk_alloc B0.out _), (hg2.block _ (by simp; omega) (by intro h; have := Option.some.inj h; omega)).trans (blk_alloc B1.out _), grown_same hg2 (HS1.out.alloc _) (by omega)⟩
      case measure => rw [hR2.left_eq, HRg.out.left_eq]; exact hlt
end Go.Proofs.YtndfgpelioipcaaDoor
