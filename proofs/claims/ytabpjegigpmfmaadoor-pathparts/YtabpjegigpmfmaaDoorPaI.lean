/- slices.All of texts, gone over. -/
import Derived.Test.YtabpjegigpmfmaaDoorPaO
import Derived.RangeFuncBox
import Derived.RangeFuncLeaves
import Derived.RangeFuncBound
import Derived.RangeFuncCalls
import Derived.RangeFuncWrites
import Derived.Shelf.Abstract
import Derived.Shelf.RegionOpen
import Derived.OwnWalkIn
import Derived.TacticsInMore
import Derived.LoopIn
import Derived.LoopNIn
import Derived.Maps.AppendAt
namespace Go.Proofs.YtabpjegigpmfmaaDoor
open Go.RowKit Go.Shelf
set_option linter.unusedVariables false
attribute [local go_sem] Oper.semAt_some
abbrev Ip := Nat × ByteArray
abbrev encP (x : Ip) : Array Value := #[.int .i64 (x.1 : Int), .string x.2]
/-- Texts with their places. -/
def ix (l : List ByteArray) : List Ip := (List.range l.length).map fun i => (i, l.getD i ByteArray.empty)
theorem ix_len (l : List ByteArray) : (ix l).length = l.length := by simp [ix]
theorem ix_at (l : List ByteArray) {i : Nat} (h : i < l.length) : (ix l)[i]? = some (i, l[i]) := by
  simp [ix, h]
theorem ix_succ (l : List ByteArray) {i : Nat} (h : i < l.length) : (ix l).take (i + 1) = (ix l).take i ++ [(i, l[i])] := by
  have hl : i < (ix l).length := by rw [ix_len]; exact h
  rw [List.take_succ_eq_append_getElem hl]
  have := ix_at l h
  rw [List.getElem?_eq_getElem hl] at this
  rw [Option.some.inj this]
/-- A row stays behind writes beyond q. -/
theorem Row.far {w W : World} {v : Value} {xs : List Value} {q : Nat} (h : Row w v xs) (hq : w.heap.size ≤ q) (k : Kept (fun j => q ≤ j) w W) : Row W v xs := by
  obtain ⟨a, cap, h1, h2, h3, h4⟩ := h
  refine ⟨a, cap, h1, h2, h3, fun hp => ?_⟩
  obtain ⟨b, off, e, hc⟩ := h4 hp
  exact ⟨b, off, e, fun j x hj => Kept.cell (p := ⟨b, off + j, none⟩) k (by have := World.block_lt_of_cell? w _ (hc j x hj); simp at this ⊢; omega) (hc j x hj)⟩
set_option maxRecDepth 100000 in
set_option maxHeartbeats 1000000 in
theorem all_stops (k B q : Nat) (hk : 1 ≤ k) (w : World) (a : Option Addr) (n c : Nat) (l : List ByteArray) (hn : n ≤ 8796093022208) (h1 : w.cell? ⟨B, 0, none⟩ = some (.slice a n c)) (hr : Row w (.slice a n c) (TS l)) (hs1 : B < q) (hrq : ∀ W, Kept (fun j => q ≤ j) w W → Row W (.slice a n c) (TS l)) :
    SeqStopsK Fence.wide k Tryd.prog 45 #[.pointer (some ⟨B, 0, none⟩)] encP (Kept (fun j => q ≤ j)) (fun ys => ys = ix l) (fun pre => pre <+: ix l) (ix l).length w := fun lp J Jx W hW hJ _ hY h0 => by
  have hnl : l.length = n := hr.tl
  have HNL := hidden hnl
  have hWc : W.cell? ⟨B, 0, none⟩ = some (.slice a n c) := (hW.cell (World.block_lt_of_cell? w _ h1)).trans h1
  have kw : Kept (fun j => q ≤ j) w W := ⟨hW.os, hW.tape, hW.output, hW.size, fun i hi _ => hW.block i hi⟩
  have HR : Hid (∀ W1, Kept (fun j => q ≤ j) W W1 → Row W1 (.slice a n c) (TS l)) := fun W1 kk => hrq W1 (kw.trans kk)
  have HY := hidden hY
  have HJ := hidden hJ
  clear hW h1 hY hs1 hJ hr hrq kw hnl
  refine callsIn_of_wp Tryd.func45 rfl trivial ?_ rfl
  simp only [Tryd.ntmps45, List.size_toArray, List.length_cons, List.length_nil, Nat.reduceAdd, Nat.reduceSub, Array.replicate_succ, Array.replicate_zero, List.push_toArray, List.append_toArray, List.nil_append, List.cons_append]
  gi_wp2
  gi_loopw [7] (fun p wr => ∃ i : Nat, p = .int .i64 (i : Int) ∧ i ≤ n ∧ J ((ix l).take i) wr ∧ Kept (fun j => q ≤ j) W wr) (fun p _ => n - (intOf p).toNat)
  case atStart => exact ⟨0, rfl, Nat.zero_le _, h0, Kept.refl _ _⟩
  case round =>
    obtain ⟨i, rfl, hi, hJs, hB⟩ := hrel
    have HJr := hidden hJs
    have HB := hidden hB
    clear hJs hB
    by_cases h1 : i < n
    · have hil : i < l.length := by rw [HNL.out]; exact h1
      obtain ⟨b, off, rfl, hc⟩ := (HR.out wr HB.out).text hil
      have HX := hidden (ix_succ l hil)
      obtain ⟨x, hx⟩ : ∃ x, l[i] = x := ⟨_, rfl⟩
      rw [hx] at hc HX
      have q1 : (i : Int) < (n : Int) := by omega
      have q0 : (0 : Int) ≤ (i : Int) := Int.natCast_nonneg _
      obtain ⟨fn, tmps, assign, body, hy, hR⟩ := HY.out ((ix l).take i) (i, x) wr HJr.out (by rw [List.length_take, ix_len]; omega)
      dsimp only [encP] at hy
      have HRR := hidden (@hR)
      clear hx
      gi_wp2
      refine hR.mono ?_
      rintro e W3 (⟨rfl, hJ3, hk3⟩ | ⟨rfl, hJx3⟩)
      · have HJ3 := hidden hJ3
        have HK3 := hidden (HB.out.trans hk3)
        clear hJ3 hk3 hR hy HRR
        gi_wp2
        go_roundw
        case rel => exact ⟨i + 1, by go_num, by omega, by rw [HX.out]; exact HJ3.out, HK3.out⟩
        case measure => simp [intOf]; omega
      · gi_wp2
        refine bodyPost_ret (results_none rfl _ _ _) rfl ?_
        exact ⟨⟨_, rfl⟩, .inr ⟨(ix l).take i ++ [(i, x)], (by rw [← HX.out]; exact List.take_prefix _ _), hJx3⟩⟩
    · obtain rfl : i = n := by omega
      have q1 : ¬ (i : Int) < (i : Int) := by omega
      gi_wp2
      go_end0
      have h9 := HJr.out
      rw [List.take_of_length_le (by rw [ix_len, HNL.out]; exact Nat.le_refl _)] at h9
      first | exact ⟨⟨_, rfl⟩, .inl ⟨_, rfl, h9⟩⟩ | exact ⟨⟨_, rfl⟩, .inl h9⟩
end Go.Proofs.YtabpjegigpmfmaaDoor
