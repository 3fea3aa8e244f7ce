/- The document's disk: Pending. -/
import Derived.Test.YteoajgphahobiaaR4
namespace Go.Proofs.Yteoajgphahobiaa
open Go.RowKit
set_option linter.unusedVariables false
theorem ints_own' {w : World} {B m : Nat} {v : Value} {zs : List Int} (h : w.ownsRow B 3 1 v m (zs.map (Value.int .i64))) : Ints w v zs := by
  have hl : zs.length = m := by simpa using h.1
  rcases h.2 with ⟨e, h0⟩ | ⟨g, cap, cur, e, _⟩
  · refine Or.inl ⟨e, ?_⟩
    match zs, hl with
    | [], _ => rfl
    | _ :: _, hl => simp at hl; omega
  · refine Or.inr ⟨⟨g, 0, none⟩, cap, by rw [hl]; exact e, fun j hj => ?_⟩
    exact h.cells (g := g) (by rw [e]; rfl) j _ (by rw [List.getElem?_map, List.getElem?_eq_getElem hj]; rfl)
set_option maxHeartbeats 2000000 in
set_option maxRecDepth 100000 in
theorem r_pending (n c pb L pc g m : Nat) (qv : Value) (qs : List Value) (pend : List (Nat × List UInt8)) (lim : Bool) (more : Int) (r wn f : Nat) (w : World)
    (hb : w.heap[g]? = some (.cells (RC n c pb L pc qv r wn f lim more) 35 (0, 0))) (hq : w.ownsRow 0 58 2 qv m qs) (hpm : pend.length = m) (hN : RQ w c n qs pend) (hm : m ≤ 4398046511104) :
    Calls Try.prog 48 #[.pointer (some ⟨g, 0, none⟩)] w fun e w' => ∃ v, e = .returned v ∧ Ints w' v (pend.map fun x => (x.1 : Int)) ∧ Same w w' := by
  obtain ⟨qa, qc, rfl⟩ := own_form hq
  have c3 : w.cell? ⟨g, 3, none⟩ = some (.slice qa m qc) := blk_cell hb
  obtain ⟨i1, hi1, hy0, hy1, hy2⟩ := info_parts infoInt
  have HQ := hidden hq
  have HN := hidden hN
  have HPM := hidden hpm
  clear hb hq hN hpm
  go_enter Try.func48, Try.ntmps48
  go_wp2
  go_loopw [3, 4] (fun v i wr => ∃ (k : Nat) (aa : Option Addr) (ac : Nat), k ≤ m ∧ i = .int .i64 k ∧ v = .slice aa k ac ∧ wr.ownsRow w.heap.size 3 1 (.slice aa k ac) k (((pend.take k).map fun x => (x.1 : Int)).map (Value.int .i64)) ∧ Same w wr) (fun v i wr => m - (intOf i).toNat)
  case atStart => exact ⟨0, none, 0, Nat.zero_le _, rfl, rfl, World.ownsRow_nil _ _ _ _, Kept.refl _ _⟩
  case round =>
    obtain ⟨k, aa, ac, hk, rfl, rfl, hA, hS⟩ := hrel
    have AA := hidden hA
    have SA := hidden hS
    have hsz := hS.size
    have d3 : wr.cell? ⟨g, 3, none⟩ = some (.slice qa m qc) := Kept.cell hS (fun h => h) c3
    clear hA hS
    by_cases hlt : k < m
    · obtain ⟨u, n1, n2, n4, n3, n5⟩ := HN.out k (by rw [HPM.out]; exact hlt)
      have hsn : ((pend.take (k + 1)).map fun x => (x.1 : Int)).map (Value.int .i64) = ((pend.take k).map fun x => (x.1 : Int)).map (Value.int .i64) ++ [.int .i64 ((pend[k]'(by rw [HPM.out]; exact hlt)).1 : Int)] := by
        rw [List.take_add_one, List.getElem?_eq_getElem (by rw [HPM.out]; exact hlt), Option.toList_some, List.map_append, List.map_append]
        rfl
      obtain ⟨N, hNe⟩ : ∃ N, (pend[k]'(by rw [HPM.out]; exact hlt)).1 = N := ⟨_, rfl⟩
      rw [hNe] at n1 hsn
      have HSN := hidden hsn
      obtain ⟨gq, rfl⟩ : ∃ gq : Nat, qa = some ⟨gq, 0, none⟩ := by
        rcases HQ.out.2 with ⟨_, h⟩ | ⟨gq, cap, cur, h, _⟩
        · omega
        · exact ⟨gq, by simpa using (Value.slice.inj h).1⟩
      have hqr := own_kept HQ.out SA.out (fun _ _ h => h)
      have z1 := hqr.cells (g := gq) rfl (k * 2) _ n1
      rw [add_none, Nat.zero_add] at z1
      have m1 : Hid (k + 1 ≤ maxLen) := by rw [Hid]; unfold maxLen; omega
      have m2 : Hid ((k + 1) * 8 ≤ 140737488355328) := by rw [Hid]; omega
      have q0 : (0 : Int) ≤ (k : Int) := Int.natCast_nonneg _
      have q1 : (k : Int) < (m : Int) := by omega
      clear hqr n1 n2 n4 n3 n5 hsn hNe
      go_wp2_with (at_builtin; go_must (refine wpList_append_lies _ (by rfl) _ _ 39 (by rfl) w.heap.size 3 i1 _ 1 8 Try.underlying39 hi1 hy0 hy1 hy2 rfl (by decide) _ _ _ (by rfl) (AA.out.alloc _) ⟨wr.heap.size, 0, none⟩ 1 1 _ (by rfl) (by rfl) (World.news_of_block (heap_alloc_new wr _)) (by simp [Value.oneCell']) (by decide) m1.out m2.out (by simp; omega) (wr.heap.size + 1) (by simp) ?_); intro ga ca w9 hown hgrow hat hlt6)
      have K9 : Kept (fun x => (Value.slice aa k ac).ownBlock = some x) wr w9 := ((Kept.refl (fun x => (Value.slice aa k ac).ownBlock = some x) wr).alloc _).grown hgrow (fun k hk _ => hk)
      have S9 := hidden (SA.out.trans' K9 (fun q hq hs => by have := (AA.out.lt q hs).1; omega))
      have O9 : Hid (w9.ownsRow w.heap.size 3 1 (.slice (some ⟨ga, 0, none⟩) (k + 1) ca) (k + 1) (((pend.take (k + 1)).map fun x => (x.1 : Int)).map (Value.int .i64))) := by rw [Hid, HSN.out]; exact hown
      clear hown hgrow hat hlt6 K9
      go_roundw
      case rel => exact ⟨k + 1, _, _, by omega, by go_num, rfl, O9.out, S9.out⟩
      case measure => simp [intOf]; omega
    · have q1 : ¬ (k : Int) < (m : Int) := by omega
      go_wp2
      go_returns
      have ha := AA.out
      rw [List.take_of_length_le (by rw [HPM.out]; omega)] at ha
      exact ⟨_, rfl, ints_own' ha, SA.out⟩
end Go.Proofs.Yteoajgphahobiaa
