/- slices.Values of texts, gone over; slices.AppendSeq, Collect. -/
import Derived.Test.YtelngbkbdihdnaaItBs
import Derived.Test.YtelngbkbdihdnaaM14
import Derived.RangeFuncBox
import Derived.RangeFuncLeaves
import Derived.RangeFuncBound
import Derived.OwnWalkIn
import Derived.TacticsInMore
import Derived.LoopIn
import Derived.Test.YtelngbkbdihdnaaSNobody
namespace Go.Proofs.Ytelngbkbdihdnaa
open Go.RowKit Go.Shelf
set_option linter.unusedVariables false
attribute [local go_sem] Oper.semAt_some
abbrev encS (x : ByteArray) : Array Value := #[.string x]
set_option maxHeartbeats 1000000 in
set_option maxRecDepth 100000 in
theorem values_fn (a : Option Addr) (m c : Nat) (w : World) : Calls Try.prog 68 #[.slice a m c] w fun e w' => e = .returned (.func (.func 85) #[] #[.pointer (some ⟨w.heap.size, 0, none⟩)]) ∧ w.alloc (.cells #[.slice a m c] 32) = w' := by
  go_enter Try.func68, Try.ntmps68
  go_wp2
  go_returns
  exact ⟨rfl, rfl⟩
set_option maxRecDepth 100000 in
set_option maxHeartbeats 1000000 in
theorem vals_stops (n b : Nat) (hn : 1 ≤ n) (S : Nat → Prop) (w : World) (a : Option Addr) (cap : Nat) (l : List ByteArray) (h : w.cell? ⟨b, 0, none⟩ = some (.slice a l.length cap)) (hl : l.length * 16 ≤ 140737488355328)
    (hc : ∀ j (hj : j < l.length), ∃ ad, a = some ad ∧ ¬ S ad.block ∧ w.cell? (ad.add j) = some (.string l[j])) :
    SeqStopsK Fence.wide n Try.prog 85 #[.pointer (some ⟨b, 0, none⟩)] encS (Kept S) (fun ys => ys = l) (fun pre => pre <+: l) l.length w := fun lp J Jx W hW hJ _ hY h0 => by
  have hc0 : W.cell? ⟨b, 0, none⟩ = some (.slice a l.length cap) := (hW.cell (World.block_lt_of_cell? w _ h)).trans h
  have HC : Hid (∀ W1, Kept S W W1 → ∀ j (hj : j < l.length), ∃ ad, a = some ad ∧ W1.cell? (ad.add j) = some (.string l[j])) := fun W1 kk j hj => by
    obtain ⟨ad, e, hs, hce⟩ := hc j hj
    exact ⟨ad, e, Kept.cell kk (by rw [add_block]; exact hs) ((hW.cell (World.block_lt_of_cell? w _ hce)).trans hce)⟩
  have HY := hidden hY
  obtain ⟨m, hm⟩ : ∃ m, l.length = m := ⟨_, rfl⟩
  have HM := hidden hm
  rw [hm] at hc0 hl
  clear hc hW h hY hJ hm
  refine callsIn_of_wp Try.func85 rfl trivial ?_ rfl
  simp only [Try.ntmps85, List.size_toArray, List.length_cons, List.length_nil, Nat.reduceAdd, Nat.reduceSub, Array.replicate_succ, Array.replicate_zero, List.push_toArray, List.append_toArray, List.nil_append, List.cons_append]
  gi_wp2
  gi_loopw [7] (fun p wr => ∃ i : Nat, p = .int .i64 i ∧ i ≤ m ∧ J (l.take i) wr ∧ Kept S W wr) (fun p _ => m - (intOf p).toNat)
  case atStart => exact ⟨0, rfl, Nat.zero_le _, h0, Kept.refl _ _⟩
  case round =>
    obtain ⟨i, rfl, hi, hJs, hB⟩ := hrel
    have HJ := hidden hJs
    have HB := hidden hB
    clear hJs hB
    by_cases h1 : i < m
    · have hil : i < l.length := by rw [HM.out]; exact h1
      obtain ⟨ad, rfl, y0⟩ := HC.out wr HB.out i hil
      obtain ⟨x, hx⟩ : ∃ x, l[i] = x := ⟨_, rfl⟩
      have HT : Hid (l.take (i + 1) = l.take i ++ [x]) := by rw [Hid, List.take_succ_eq_append_getElem hil, hx]
      rw [hx] at y0
      have q1 : (i : Int) < (m : Int) := by omega
      have q0 : (0 : Int) ≤ (i : Int) := Int.natCast_nonneg _
      obtain ⟨fn, tmps, assign, body, hy, hR⟩ := HY.out (l.take i) x wr HJ.out (by rw [List.length_take]; omega)
      dsimp only [encS] at hy
      clear hx
      gi_wp2
      refine hR.mono ?_
      rintro e W3 (⟨rfl, hJ3, hk3⟩ | ⟨rfl, hJx3⟩)
      · have HJ3 := hidden hJ3
        have HK3 := hidden hk3
        clear hJ3 hk3 hR hy
        gi_wp2
        go_roundw
        case rel => exact ⟨i + 1, by go_num, by omega, by rw [HT.out]; exact HJ3.out, HB.out.trans HK3.out⟩
        case measure => simp [intOf]; omega
      · gi_wp2
        refine bodyPost_ret (results_none rfl _ _ _) rfl ?_
        exact ⟨⟨_, rfl⟩, .inr ⟨l.take i ++ [x], ⟨l.drop (i + 1), by rw [← HT.out, List.take_append_drop]⟩, hJx3⟩⟩
    · obtain rfl : i = m := by omega
      have q1 : ¬ (i : Int) < (i : Int) := by omega
      gi_wp2
      go_end0
      have h9 := HJ.out
      rw [List.take_of_length_le (by rw [HM.out]; exact Nat.le_refl _)] at h9
      first | exact ⟨⟨_, rfl⟩, .inl ⟨l, rfl, h9⟩⟩ | exact ⟨⟨_, rfl⟩, .inl h9⟩
theorem infoStr : (Try.prog.info? 9).map (fun i => (i.zero, i.size, i.bytes)) = some (some (.string ByteArray.empty), 1, 16) := by kernel_rfl
theorem own_weakS {w : World} {b b' : Nat} {e : TypeId} {size : Nat} {v : Value} {n : Nat} {xs : List Value} (h : w.ownsRow b e size v n xs) (hb : b' ≤ b) : w.ownsRow b' e size v n xs := own_mono h hb
set_option maxRecDepth 100000 in
set_option maxHeartbeats 2000000 in
theorem appendSeq_any {l : List ByteArray} {a : Option Addr} {cap b : Nat} {w : World} (h : w.cell? ⟨b, 0, none⟩ = some (.slice a l.length cap)) (hl : l.length * 16 ≤ 140737488355328) (hc : ∀ j (hj : j < l.length), ∃ ad, a = some ad ∧ w.cell? (ad.add j) = some (.string l[j])) :
    Calls Try.prog 89 #[.slice none 0 0, .func (.func 85) #[] #[.pointer (some ⟨b, 0, none⟩)]] w fun e w' => ∃ u, e = .returned u ∧ w'.ownsRow w.heap.size 9 1 u l.length (l.map Value.string) ∧ Same w w' := by
  obtain ⟨i0, hi, hz0, hz1, hz2⟩ := info_parts infoStr
  have hbl : b < w.heap.size := World.block_lt_of_cell? w _ h
  have HH := hidden h
  have HC := hidden hc
  clear h hc
  refine (callsIn_wide (n := 6)).1 ?_
  refine callsIn_of_wp_marks Try.func89 rfl trivial ?_ rfl
  simp only [Try.ntmps89, List.size_toArray, List.length_cons, List.length_nil, Nat.reduceAdd, Nat.reduceSub, Array.replicate_succ, Array.replicate_zero, List.push_toArray, List.append_toArray, List.nil_append, List.cons_append]
  gi_wp2
  obtain ⟨H, hH⟩ : ∃ H, H = w.heap.size := ⟨_, rfl⟩
  have bO := Boxed.new w 32 (.slice none 0 0)
  have hsz : (w.alloc (.cells #[.slice none 0 0] 32)).heap.size = H + 1 := by rw [hH]; simp
  have KB : Same w (w.alloc (.cells #[.slice none 0 0] 32)) := same_alloc _ _
  rw [← hH] at bO ⊢
  generalize w.alloc (.cells #[.slice none 0 0] 32) = WB at *
  have hrun := vals_stops 5 b (by decide) (fun k => k = H ∨ H + 1 ≤ k) WB a cap l (Kept.cell KB (fun h => h) HH.out) hl (fun j hj => by
    obtain ⟨ad, e, hce⟩ := HC.out j hj
    have := World.block_lt_of_cell? w _ hce
    rw [add_block] at this
    exact ⟨ad, e, by omega, Kept.cell KB (fun h => h) hce⟩)
  have HB0 : Hid (Below w.heap.size w WB) := hidden (KB.below (Nat.le_refl _) fun _ h => h.elim)
  have hHw : w.heap.size ≤ H := by omega
  clear hH
  refine wpIn_rangeFunc_ownG rfl (by decide) (gf := 85) (lb := #[.pointer (some ⟨b, 0, none⟩)]) rfl trivial (enters_of Try.func85 (by kernel_rfl) rfl)
    hrun (fun h k => h.trans k) (fun W l o o' hl _ _ _ => kept_putObj W l o' (by rw [hsz] at hl; exact Or.inr hl)) (Below.refl _ _) (fun _ => rfl)
    (fun pre W => (∃ v, Boxed W H 32 v ∧ W.ownsRow (H + 1) 9 1 v pre.length (pre.map Value.string) ∧ True) ∧ (Below w.heap.size w W ∧ H + 1 ≤ W.heap.size))
    (fun _ _ _ => False)
    (OwnFrom.and (Own.from (holdsRow_own (H + 1) H 32 9 1 (fun (pre : List ByteArray) => pre.length) (fun pre => pre.map Value.string) (fun _ _ => True)) _) (OwnFrom.and (ownFrom_below (Nat.le_refl _) (by rw [hsz]; omega)) (fun _ _ _ _ hs hg _ => Nat.le_trans hs hg.size)))
    (fun _ _ _ _ _ hs _ _ => hs)
    ⟨⟨_, bO, World.ownsRow_nil _ _ _ _, trivial⟩, HB0.out, by rw [hsz]; exact Nat.le_refl _⟩ ?a1 ?assign ?body ?done ?stop
  case assign =>
    intro l x W K hK
    gi_wp2
    exact hK
  case body =>
    rintro lp pre x W ⟨⟨v, hv, hrow, _⟩, hB, hszW⟩ hlt2
    have hc := hv.cell
    have hpl : (pre.length + 1) * 16 ≤ 140737488355328 := by omega
    have HR := hidden hrow
    have HVV := hidden hv
    have HBB := hidden hB
    gi_wp2_with (gi_at_builtin; refine wpListIn_append_own _ rfl _ _ 32 rfl (H + 1) 9 i0 (.string ByteArray.empty) 1 16 Try.underlying32 hi hz0 hz1 hz2 rfl (by decide) _ _ _ rfl (hrow.alloc _) ⟨W.heap.size, 0, none⟩ 1 1 [.string x] rfl rfl (cell_one_new _ _ _) (by simp [Value.oneCell']) (by unfold maxLen; omega) (by omega) (by simp; omega) ?_; intro v' w1' hown' hgrow _; obtain ⟨g', cap', rfl⟩ := ownsRow_succ hown'; obtain ⟨hv1, hv2, hr2, hk2, hb2⟩ := hv.appended (by decide) (own_weakS hrow (show H ≤ H + 1 by omega)) (by omega) (Nat.le_refl _) (own_weakS hown' (show H ≤ H + 1 by omega)) hgrow; have hc1 := hv1.cell; have hf1 := hv1.frozen)
    have hown2 : (w1'.setCell ⟨H, 0, none⟩ (.slice (some ⟨g', 0, none⟩) (pre.length + 1) cap')).ownsRow (H + 1) 9 1 (.slice (some ⟨g', 0, none⟩) (pre.length + 1) cap') (pre.length + 1) (pre.map Value.string ++ [.string x]) :=
      own_kept hown' ((Kept.refl (fun k => k = H) w1').setCell (p := ⟨H, 0, none⟩) rfl _) (fun k hk hs => by have := (hown'.lt k hk).1; omega)
    have hKS : Kept (fun k => k = H ∨ H + 1 ≤ k) W (w1'.setCell ⟨H, 0, none⟩ (.slice (some ⟨g', 0, none⟩) (pre.length + 1) cap')) :=
      (((Kept.refl (fun k => k = H ∨ H + 1 ≤ k) W).alloc _).grown hgrow (fun k e _ => Or.inr (hrow.lt k e).1)).setCell (p := ⟨H, 0, none⟩) (Or.inl rfl) _
    exact ⟨hk2.from _, hKS, ⟨_, hv2, by simpa using hown2, trivial⟩, hB.trans (hKS.below hB.size fun k hk => by omega), Nat.le_trans hszW hKS.size⟩
  case done =>
    rintro D ys W hD hys ⟨⟨v, hv, hrow, _⟩, hB, hszW⟩ hK
    rw [hys] at hrow
    have hc := hv.cell
    gi_wp2
    refine ⟨by simp, .inl ⟨_, _, rfl, run_takeDeferred hK, ?_⟩⟩
    refine ⟨_, by simp [results, Try.results89, go_sem], v, rfl, ?_, ?_⟩
    · have h9 := ownsRow_putObj hrow (.deferred none) hK rfl
      exact own_weakS h9 (by omega)
    · exact same_of_below (hB.trans (belowK_b (w := w) (Nat.le_refl _) W D _ _ (by omega) hK rfl rfl))
  case stop =>
    rintro D c pre W _ _ h _
    exact h.elim
set_option maxHeartbeats 1000000 in
set_option maxRecDepth 100000 in
theorem collect_any {l : List ByteArray} {a : Option Addr} {cap b : Nat} {w : World} (h : w.cell? ⟨b, 0, none⟩ = some (.slice a l.length cap)) (hl : l.length * 16 ≤ 140737488355328) (hc : ∀ j (hj : j < l.length), ∃ ad, a = some ad ∧ w.cell? (ad.add j) = some (.string l[j])) :
    Calls Try.prog 83 #[.func (.func 85) #[] #[.pointer (some ⟨b, 0, none⟩)]] w fun e w' => ∃ u, e = .returned u ∧ w'.ownsRow w.heap.size 9 1 u l.length (l.map Value.string) ∧ Same w w' := by
  have HA := hidden (appendSeq_any h hl hc)
  clear h hc
  go_enter Try.func83, Try.ntmps83
  go_wp2_with (go_at_call 89; go_must (refine (HA.out).mono ?_; rintro e w1 ⟨u, rfl, h1, k1⟩; have H1 := hidden h1; have K1 := hidden k1; clear h1 k1))
  go_returns
  exact ⟨_, rfl, H1.out, K1.out⟩
end Go.Proofs.Ytelngbkbdihdnaa
