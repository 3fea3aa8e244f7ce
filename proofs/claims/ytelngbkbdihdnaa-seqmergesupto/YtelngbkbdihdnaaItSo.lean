/- items, the document's SortOut, the program's behind. -/
import Derived.Test.YtelngbkbdihdnaaItPart
namespace Go.Proofs.Ytelngbkbdihdnaa
open Go.RowKit
set_option linter.unusedVariables false
/-- A slice of items, and room in it. -/
def Itc (w : World) (v : Value) (l : List Kv) : Prop :=
  ∃ a cap, v = .slice a l.length cap ∧ l.length ≤ cap ∧ (0 < l.length → ∃ b off, a = some ⟨b, off, none⟩ ∧ ∀ j (hj : j < l.length), w.cell? ⟨b, off + j * 2, none⟩ = some (.string l[j].1) ∧ w.cell? ⟨b, off + j * 2 + 1, none⟩ = some (.int .i64 l[j].2))
theorem Itc.its {w : World} {v : Value} {l : List Kv} (h : Itc w v l) : Its w v l := let ⟨a, c, e, _, h⟩ := h; ⟨a, c, e, h⟩
theorem Itc.kept {S : Nat → Prop} {w w' : World} {v : Value} {l : List Kv} (h : Itc w v l) (k : Kept S w w') (hs : ∀ b, v.ownBlock = some b → ¬ S b) : Itc w' v l := by
  obtain ⟨a, cap, rfl, hc, h⟩ := h
  refine ⟨a, cap, rfl, hc, fun hp => ?_⟩
  obtain ⟨b, off, rfl, hce⟩ := h hp
  exact ⟨b, off, rfl, fun j hj => ⟨Kept.cell k (hs b rfl) (hce j hj).1, Kept.cell k (hs b rfl) (hce j hj).2⟩⟩
theorem Itc.same {w w' : World} {v : Value} {l : List Kv} (h : Itc w v l) (k : Same w w') : Itc w' v l := h.kept k (fun _ _ h => h)
theorem Itc.nil (w : World) : Itc w (.slice none 0 0) [] := ⟨none, 0, rfl, Nat.le_refl _, fun h => by simp at h⟩
theorem itc_own {B : Nat} {e : TypeId} {w : World} {v : Value} {l : List Kv} (h : w.ownsRow B e 2 v l.length (flat l)) : Itc w v l := by
  rcases h.2 with ⟨e, h0⟩ | ⟨g, cap, cur, e, hb, hg, hn, _⟩
  · exact ⟨none, 0, by rw [e, h0], by omega, fun h => by omega⟩
  · refine ⟨_, cap, e, hn, fun _ => ⟨g, 0, rfl, fun j hj => ?_⟩⟩
    have h1 := World.ownsRow.cells h (g := g) (by rw [e]; rfl) _ _ (flat_at l j hj).1
    have h2 := World.ownsRow.cells h (g := g) (by rw [e]; rfl) _ _ (flat_at l j hj).2
    rw [add_none] at h1 h2
    exact ⟨h1, h2⟩
theorem Its.lies {w : World} {a : Option Addr} {n c : Nat} {l : List Kv} (h : Its w (.slice a n c) l) : Lies w a l.length (flat l) := fun hp => by
  obtain ⟨a', c', e, h⟩ := h
  obtain ⟨b, off, e2, hc⟩ := h hp
  simp only [Value.slice.injEq] at e
  exact ⟨⟨b, off, none⟩, by rw [e.1, e2], flat_lies _ _ hc⟩
/-- A row of the program's items. -/
def ItS (B : Nat) (w : World) (v : Value) (l : List Kv) : Prop := w.ownsRow B 54 2 v l.length (flat l)
theorem ItS.itc {B : Nat} {w : World} {v : Value} {l : List Kv} (h : ItS B w v l) : Itc w v l := itc_own h
theorem ItR.itc {B : Nat} {w : World} {v : Value} {l : List Kv} (h : ItR B w v l) : Itc w v l := itc_own h
theorem infoItemS : (Try.prog.info? 54).map (fun i => (i.zero, i.size, i.bytes)) = some (some (.agg #[.string ByteArray.empty, .int .i64 0]), 2, 24) := by kernel_rfl
theorem take_snoc {l : List Kv} {i : Nat} (hi : i < l.length) : l.take (i + 1) = l.take i ++ [l[i]] := List.take_succ_eq_append_getElem hi
set_option maxHeartbeats 1000000 in
set_option maxRecDepth 100000 in
theorem items_law {l : List Kv} {v : Value} {w : World} (h : Its w v l) (hl : (l.length + 1) * 24 ≤ 140737488355328) :
    Calls Try.prog 32 #[v] w fun e w' => ∃ u, e = .returned u ∧ ItS w.heap.size w' u l ∧ Same w w' := by
  have HR : Hid (∀ W, Same w W → Its W v l) := fun W kk => h.same kk
  obtain ⟨a0, c0, rfl, hb⟩ := h
  obtain ⟨n, hn⟩ : ∃ n, l.length = n := ⟨_, rfl⟩
  obtain ⟨i0, hi0, hz0, hz1, hz2⟩ := info_parts infoItemS
  have HN := hidden hn
  rw [hn] at hl ⊢
  clear hb hn
  go_enter Try.func32, Try.ntmps32
  go_wp2
  go_loopw [3, 8] (fun ov iv wr => ∃ (i c : Nat) (a : Option Addr), i ≤ n ∧ iv = .int .i64 i ∧ ov = .slice a i c ∧ wr.ownsRow w.heap.size 54 2 (.slice a i c) i (flat (l.take i)) ∧ Same w wr) (fun ov iv wr => n - (intOf iv).toNat)
  case atStart => exact ⟨0, 0, none, Nat.zero_le _, rfl, rfl, World.ownsRow_nil _ _ _ _, Kept.refl _ _⟩
  case round =>
    obtain ⟨i, c, a, hi, rfl, rfl, hO, hK⟩ := hrel
    have HO := hidden hO
    have HK := hidden hK
    have hsz := hK.size
    clear hO hK
    by_cases h1 : i < n
    · have hil : i < l.length := by rw [HN.out]; exact h1
      obtain ⟨a1, c1, e1, hc⟩ := HR.out wr HK.out
      obtain ⟨b, off, rfl, hce⟩ := hc (by omega)
      obtain ⟨y0, y1⟩ := hce i hil
      obtain ⟨rfl, _⟩ : a0 = some ⟨b, off, none⟩ ∧ True := ⟨by rw [HN.out] at e1; simp at e1; exact e1.1, trivial⟩
      obtain ⟨⟨k, z⟩, hay⟩ : ∃ e, l[i] = e := ⟨_, rfl⟩
      have HT := hidden (take_snoc hil)
      rw [hay] at y0 y1 HT
      have q1 : (i : Int) < (n : Int) := by omega
      have q0 : (0 : Int) ≤ (i : Int) := Int.natCast_nonneg _
      have hbe := heap_alloc_new wr (.cells #[.string k, .int .i64 z] 70)
      have d0 : (wr.alloc (.cells #[.string k, .int .i64 z] 70)).cell? ⟨wr.heap.size, 0, none⟩ = some (.string k) := blk_cell hbe
      have d1 : (wr.alloc (.cells #[.string k, .int .i64 z] 70)).cell? ⟨wr.heap.size, 1, none⟩ = some (.int .i64 z) := blk_cell hbe
      have HB2 : Hid (((wr.alloc (.cells #[.string k, .int .i64 z] 70)).alloc (.cells #[.string k, .int .i64 z] 54)).heap[wr.heap.size + 1]? = some (.cells #[.string k, .int .i64 z] 54 (0, 0))) := by have := heap_alloc_new (wr.alloc (.cells #[.string k, .int .i64 z] 70)) (.cells #[.string k, .int .i64 z] 54); rw [alloc_size1] at this; exact this
      clear hbe hce hc e1 hay
      go_wp2_with (at_builtin; go_must (refine wpList_append_any (by rfl) _ _ 58 (by rfl) w.heap.size 54 i0 _ 2 24 Try.underlying58 hi0 hz0 hz1 hz2 rfl (by decide) _ _ _ _ (by rfl) ((HO.out.alloc _).alloc _) (some ⟨wr.heap.size + 1, 0, none⟩) 1 1 (flat [(k, z)]) (by rfl) (by rfl) (lies_of (World.news_of_block HB2.out)) (flat_one _) (by unfold maxLen; omega) (by omega) (by simp; omega) ?_; intro a3 c3 w3 hown hgrow; have R3 := hidden (same_grown (m := 0) ((HK.out.alloc _).alloc _) ((HO.out.alloc _).alloc _) hgrow); rw [← flat_app] at hown; have O3 := hidden hown; clear hown hgrow))
      go_roundw
      case rel => exact ⟨i + 1, c3, a3, by omega, by go_num, rfl, by rw [HT.out]; exact O3.out, R3.out⟩
      case measure => simp [intOf]; omega
    · obtain rfl : i = n := by omega
      have q1 : ¬ (i : Int) < (i : Int) := by omega
      go_wp2
      go_returns
      refine ⟨_, rfl, ?_, HK.out⟩
      have := HO.out
      rw [List.take_of_length_le (by rw [HN.out]; exact Nat.le_refl _)] at this
      unfold ItS
      rw [HN.out]
      exact this
/-- The items whose key is above all keys ahead. -/
def sortGo : List Kv → Option ByteArray → List Kv
  | [], _ => []
  | p :: t, none => p :: sortGo t (some p.1)
  | p :: t, some k => if ltS k p.1 then p :: sortGo t (some p.1) else sortGo t (some k)
def sortL (l : List Kv) : List Kv := sortGo l none
/-- The last one's key, of what is kept. -/
def lastK (l : List Kv) : Option ByteArray := l.getLast?.map (·.1)
theorem lastK_snoc (l : List Kv) (p : Kv) : lastK (l ++ [p]) = some p.1 := by simp [lastK]
/-- Behind i items of l those kept are o, and what is still to come is told by the last of o. -/
def Sof (l : List Kv) (i : Nat) (o : List Kv) : Prop := sortL l = o ++ sortGo (l.drop i) (lastK o)
theorem sof_zero (l : List Kv) : Sof l 0 [] := rfl
theorem sof_yes {l : List Kv} {i : Nat} {o : List Kv} (h : Sof l i o) (hi : i < l.length) (hy : lastK o = none ∨ ∃ k, lastK o = some k ∧ ltS k l[i].1 = true) : Sof l (i + 1) (o ++ [l[i]]) := by
  unfold Sof at *
  rw [h, List.drop_eq_getElem_cons hi, lastK_snoc]
  rcases hy with e | ⟨k, e, hk⟩
  · rw [e]
    simp [sortGo]
  · rw [e]
    simp [sortGo, hk]
theorem sof_no {l : List Kv} {i : Nat} {o : List Kv} {k : ByteArray} (h : Sof l i o) (hi : i < l.length) (e : lastK o = some k) (hk : ltS k l[i].1 = false) : Sof l (i + 1) o := by
  unfold Sof at *
  rw [h, List.drop_eq_getElem_cons hi, e]
  simp [sortGo, hk]
theorem sof_end {l o : List Kv} (h : Sof l l.length o) : sortL l = o := by
  unfold Sof at h
  rw [h]
  simp [sortGo]
theorem lastK_at {o : List Kv} {m : Nat} (h : o.length = m + 1) : ∃ hm : m < o.length, lastK o = some (o[m]).1 := by
  refine ⟨by omega, ?_⟩
  unfold lastK
  have e : o.length - 1 = m := by omega
  rw [List.getLast?_eq_getElem?, e, List.getElem?_eq_getElem (by omega)]
  rfl
set_option maxHeartbeats 1000000 in
set_option maxRecDepth 100000 in
theorem sortOut_any {l : List Kv} {v : Value} {w : World} (h : Its w v l) (hl : (l.length + 1) * 24 ≤ 140737488355328) :
    Calls Try.prog 38 #[v] w fun e w' => ∃ u, e = .returned u ∧ ItR w.heap.size w' u (sortL l) ∧ (sortL l).length ≤ l.length ∧ Same w w' := by
  have HR : Hid (∀ W, Same w W → Its W v l) := fun W kk => h.same kk
  obtain ⟨a0, c0, rfl, hb⟩ := h
  obtain ⟨n, hn⟩ : ∃ n, l.length = n := ⟨_, rfl⟩
  obtain ⟨i0, hi0, hz0, hz1, hz2⟩ := info_parts infoItem
  have HN := hidden hn
  rw [hn] at hl ⊢
  clear hb hn
  go_enter Try.func38, Try.ntmps38
  go_wp2
  go_loopw [3, 9] (fun ov iv wr => ∃ (i m c : Nat) (a : Option Addr) (o : List Kv), i ≤ n ∧ iv = .int .i64 i ∧ ov = .slice a m c ∧ o.length = m ∧ m ≤ i ∧ wr.ownsRow w.heap.size 70 2 (.slice a m c) m (flat o) ∧ Sof l i o ∧ Same w wr) (fun ov iv wr => n - (intOf iv).toNat)
  case atStart => exact ⟨0, 0, 0, none, [], Nat.zero_le _, rfl, rfl, rfl, Nat.le_refl _, World.ownsRow_nil _ _ _ _, sof_zero l, Kept.refl _ _⟩
  case round =>
    obtain ⟨i, m, c, a, o, hi, rfl, rfl, hom, hmi, hO, hS, hK⟩ := hrel
    have HO := hidden hO
    have HOM := hidden hom
    have HS := hidden hS
    have HK := hidden hK
    have hsz := hK.size
    clear hO hK hS hom
    by_cases h1 : i < n
    · have hil : i < l.length := by rw [HN.out]; exact h1
      obtain ⟨a1, c1, e1, hc⟩ := HR.out wr HK.out
      obtain ⟨b, off, rfl, hce⟩ := hc (by omega)
      obtain ⟨y0, y1⟩ := hce i hil
      obtain ⟨rfl, _⟩ : a0 = some ⟨b, off, none⟩ ∧ True := ⟨by rw [HN.out] at e1; simp at e1; exact e1.1, trivial⟩
      obtain ⟨⟨k, z⟩, hay⟩ : ∃ e, l[i] = e := ⟨_, rfl⟩
      have HY := hidden (sof_yes HS.out hil)
      have HNO := hidden (fun k => sof_no (k := k) HS.out hil)
      rw [hay] at y0 y1 HY HNO
      have q1 : (i : Int) < (n : Int) := by omega
      have q0 : (0 : Int) ≤ (i : Int) := Int.natCast_nonneg _
      have hbe := heap_alloc_new wr (.cells #[.string k, .int .i64 z] 70)
      have d0 : (wr.alloc (.cells #[.string k, .int .i64 z] 70)).cell? ⟨wr.heap.size, 0, none⟩ = some (.string k) := blk_cell hbe
      have d1 : (wr.alloc (.cells #[.string k, .int .i64 z] 70)).cell? ⟨wr.heap.size, 1, none⟩ = some (.int .i64 z) := blk_cell hbe
      have HBE := hidden hbe
      have e0 : ∀ W, Same (wr.alloc (.cells #[.string k, .int .i64 z] 70)) W → W.cell? ⟨wr.heap.size, 0, none⟩ = some (.string k) ∧ W.cell? ⟨wr.heap.size, 1, none⟩ = some (.int .i64 z) := fun W kk => ⟨Kept.cell kk (fun h => h) d0, Kept.cell kk (fun h => h) d1⟩
      have HE0 := hidden e0
      have HB2 : Hid (∀ q, (((wr.alloc (.cells #[.string k, .int .i64 z] 70)).drewN q).alloc (.cells #[.string k, .int .i64 z] 70)).heap[wr.heap.size + 1]? = some (.cells #[.string k, .int .i64 z] 70 (0, 0))) := fun q => by
        have := heap_alloc_new ((wr.alloc (.cells #[.string k, .int .i64 z] 70)).drewN q) (.cells #[.string k, .int .i64 z] 70)
        rw [show ((wr.alloc (.cells #[.string k, .int .i64 z] 70)).drewN q).heap.size = wr.heap.size + 1 from alloc_size1 _ _] at this
        exact this
      have dq0 : ∀ q, ((wr.alloc (.cells #[.string k, .int .i64 z] 70)).drewN q).cell? ⟨wr.heap.size, 0, none⟩ = some (.string k) := fun q => d0
      have dq1 : ∀ q, ((wr.alloc (.cells #[.string k, .int .i64 z] 70)).drewN q).cell? ⟨wr.heap.size, 1, none⟩ = some (.int .i64 z) := fun q => d1
      have KQ : Hid (∀ q, Same w ((wr.alloc (.cells #[.string k, .int .i64 z] 70)).drewN q)) := fun q => (HK.out.alloc _).trans ((Kept.refl _ _).drewN _)
      have OQ : Hid (∀ q, ((wr.alloc (.cells #[.string k, .int .i64 z] 70)).drewN q).ownsRow w.heap.size 70 2 (.slice a m c) m (flat o)) := fun q => own_kept HO.out ((same_alloc wr _).trans ((Kept.refl _ _).drewN _)) (fun _ _ h => h)
      clear hbe hce hc e1 hay e0
      rcases Nat.eq_zero_or_pos m with rfl | hm
      · have hnl : lastK o = none := by rw [List.length_eq_zero_iff.1 HOM.out]; rfl
        have HNL := hidden hnl
        clear hnl
        go_wp2
        go_quiet (fail)
        go_wp2_with (at_builtin; go_must (refine wpList_append_any (by rfl) _ _ 42 (by rfl) w.heap.size 70 i0 _ 2 24 Try.underlying42 hi0 hz0 hz1 hz2 rfl (by decide) _ _ _ _ (by rfl) ((OQ.out _).alloc _) (some ⟨wr.heap.size + 1, 0, none⟩) 1 1 (flat [(k, z)]) (by rfl) (by rfl) (lies_of (World.news_of_block (HB2.out _))) (flat_one _) (by unfold maxLen; omega) (by omega) (by have := (KQ.out 0).size; simp at this ⊢; omega) ?_; intro a3 c3 w3 hown hgrow; have R3 := hidden (same_grown (m := 0) ((KQ.out _).alloc _) ((OQ.out _).alloc _) hgrow); rw [← flat_app] at hown; have O3 := hidden hown; clear hown hgrow))
        go_roundw
        case rel => exact ⟨i + 1, 0 + 1, c3, a3, o ++ [(k, z)], by omega, by go_num, rfl, by rw [List.length_append, HOM.out]; rfl, by omega, O3.out, HY.out (Or.inl HNL.out), R3.out⟩
        case measure => simp [intOf]; omega
      · obtain ⟨p, hp⟩ : ∃ p, p + 1 = m := ⟨m - 1, by omega⟩
        obtain ⟨hpo, hla⟩ := lastK_at (o := o) (m := p) (by rw [HOM.out]; omega)
        obtain ⟨⟨k2, z2⟩, hk2⟩ : ∃ e, o[p] = e := ⟨_, rfl⟩
        obtain ⟨g2, rfl⟩ : ∃ g2 : Nat, a = some ⟨g2, 0, none⟩ := by
          rcases HO.out.2 with ⟨_, e⟩ | ⟨g2, cap', cur, e, _⟩
          · omega
          · simp only [Value.slice.injEq] at e; exact ⟨g2, e.1⟩
        rw [hk2] at hla
        have hcell : ∀ W, Same wr W → W.cell? ⟨g2, p * 2, none⟩ = some (.string k2) := fun W kk => by
          have h1 := World.ownsRow.cells (own_kept HO.out kk (fun _ _ h => h)) (g := g2) rfl _ _ (flat_at o p hpo).1
          rw [add_none, Nat.zero_add, hk2] at h1
          exact h1
        have hc1 := hcell _ (same_alloc wr (.cells #[.string k, .int .i64 z] 70))
        have HLA := hidden hla
        have HPM := hidden hp
        have q3 : (m : Int) - 1 = (p : Int) := by omega
        have q4 : ¬ (m : Int) = 0 := by omega
        have q4' : ((m : Int) == 0) = false := by rw [beq_eq_false_iff_ne]; exact q4
        have q5 : (p : Int) < (m : Int) := by omega
        have q6 : (0 : Int) ≤ (p : Int) := Int.natCast_nonneg _
        clear hla hp hk2 hcell
        cases hlt : ltS k2 k
        · have f1 : Op.bytesLess k2.toList k.toList = false := by rw [bytesLess_eq]; exact hlt
          go_wp2
          go_quiet (fail)
          go_wp2
          go_roundw
          case rel => exact ⟨i + 1, m, c, some ⟨g2, 0, none⟩, o, by omega, by go_num, rfl, HOM.out, by omega, OQ.out _, HNO.out _ HLA.out hlt, KQ.out _⟩
          case measure => simp [intOf]; omega
        · have f1 : Op.bytesLess k2.toList k.toList = true := by rw [bytesLess_eq]; exact hlt
          go_wp2
          go_quiet (fail)
          go_wp2_with (at_builtin; go_must (refine wpList_append_any (by rfl) _ _ 42 (by rfl) w.heap.size 70 i0 _ 2 24 Try.underlying42 hi0 hz0 hz1 hz2 rfl (by decide) _ _ _ _ (by rfl) ((OQ.out _).alloc _) (some ⟨wr.heap.size + 1, 0, none⟩) 1 1 (flat [(k, z)]) (by rfl) (by rfl) (lies_of (World.news_of_block (HB2.out _))) (flat_one _) (by unfold maxLen; omega) (by omega) (by have := (KQ.out 0).size; simp at this ⊢; omega) ?_; intro a3 c3 w3 hown hgrow; have R3 := hidden (same_grown (m := 0) ((KQ.out _).alloc _) ((OQ.out _).alloc _) hgrow); rw [← flat_app] at hown; have O3 := hidden hown; clear hown hgrow))
          go_roundw
          case rel => exact ⟨i + 1, m + 1, c3, a3, o ++ [(k, z)], by omega, by go_num, rfl, by rw [List.length_append, HOM.out]; rfl, by omega, O3.out, HY.out (Or.inr ⟨_, HLA.out, hlt⟩), R3.out⟩
          case measure => simp [intOf]; omega
    · obtain rfl : i = n := by omega
      have q1 : ¬ (i : Int) < (i : Int) := by omega
      go_wp2
      go_returns
      have hs := HS.out
      rw [← HN.out] at hs
      refine ⟨_, rfl, ?_, ?_, HK.out⟩
      · unfold ItR
        rw [sof_end hs, HOM.out]
        exact HO.out
      · rw [sof_end hs, HOM.out]
        exact hmi
end Go.Proofs.Ytelngbkbdihdnaa
