/- A table's All. -/
import Derived.Test.YtiffkcffcjembaaH6
namespace Go.Proofs.Ytiffkcffcjembaa
open Go.RowKit Go.Maps
set_option linter.unusedVariables false
set_option linter.unusedSimpArgs false
theorem infoH : (Try.prog.info? 44).map (fun i => (i.zero, i.size, i.bytes)) = some (some (.agg #[.int .i64 0, .int .i64 0, .int .i64 0]), 3, 24) := by kernel_rfl
theorem sizeA : (Try.prog.info? 45).map (·.size) = some 192 := by kernel_rfl
theorem idx_run (f : FT) (k : Nat) (hk : k < 64) (w : World) : (Instr.index 45 (.agg (sC f 64).toArray) (.int .i64 (k : Int))).run Try.prog w = .ok (.agg #[.int .i64 (if (f k).1 = 0 then 0 else (k : Int)), .int .i64 (f k).1, .int .i64 (f k).2]) w := by
  have hex : (sC f 64).toArray.extract (k * 3) (k * 3 + 3) = #[.int .i64 (if (f k).1 = 0 then 0 else (k : Int)), .int .i64 (f k).1, .int .i64 (f k).2] := by
    apply Array.ext_getElem?
    intro j
    rw [Array.getElem?_extract]
    have hs : (sC f 64).toArray.size = 192 := by simp [sC_len]
    by_cases hj : j < 3
    · rw [if_pos (by rw [hs]; omega), List.getElem?_toArray, sC_at f k j hj 64 hk]
      unfold hC
      obtain rfl | rfl | rfl : j = 0 ∨ j = 1 ∨ j = 2 := by omega
      all_goals rfl
    · rw [if_neg (by rw [hs]; omega), Array.getElem?_eq_none (by simp; omega)]
  have hagg : (isAgg 44).run Try.prog w = .ok true w := by kernel_rfl
  have hsz : (sizeOf 44).run Try.prog w = .ok 3 w := by kernel_rfl
  generalize (sC f 64).toArray = AA at hex ⊢
  simp [Instr.index, run_underlying Try.underlying45, asIntOf, hk, hsz, part, hagg, hex]
theorem lies_new (W : World) (cs : List Value) (t : TypeId) (m B : Nat) (hB : B = W.heap.size) : Lies (W.alloc (.cells cs.toArray t)) (some ⟨B, 0, none⟩) m cs := lies_of (fun j u hu => by
  subst hB
  rw [Addr.add_mid, Nat.zero_add, blk_cell (blk_new W _), List.getElem?_toArray]
  exact hu)
set_option maxHeartbeats 2000000 in
set_option maxRecDepth 100000 in
theorem h_all (g bm : Nat) (f : FT) (n : Nat) (w : World) (h : TB w g bm f n) :
    Calls Try.prog 16 #[P0 g] w fun e w' => ∃ v, e = .returned v ∧ w'.ownsRow w.heap.size 44 3 v (ol f).length (c3 (ol f)) ∧ Same w w' := by
  obtain ⟨D, cm, hb, ho, hc⟩ := h.cell_map
  have hmd := hidden (h_made g bm w cm)
  have hr : w.rangeAt g 0 (sC f 64) := fun j v hv => by
    rw [Nat.zero_add, blk_cell hb]
    unfold TC
    rw [List.getElem?_toArray, List.getElem?_append_left (List.getElem?_eq_some_iff.1 hv).1]
    exact hv
  have hidx := hidden (idx_run f)
  have hsl : (Try.prog.info? 45).map (·.size) = some (sC f 64).length := by rw [sC_len]; exact sizeA
  have HR := hidden hr
  have HS := hidden hsl
  clear hr hsl hb ho hc
  generalize hCS : (sC f 64) = CS at *
  clear hCS
  obtain ⟨i0, hi, hz0, hz1, hz2⟩ := info_parts infoH
  go_enter Try.func16, Try.ntmps16
  go_wp2_with (first
    | (go_at_call 26; refine (hmd.out).mono ?_; rintro e w1 ⟨rfl, h1⟩; obtain rfl := h1.symm; clear h1)
    | (refine wpList_load_mid rfl 45 _ rfl g 0 rfl CS _ HR.out Try.underlying45 rfl HS.out ?_))
  go_loopw [3, 13] (fun v i wr => ∃ k : Nat, k ≤ 64 ∧ i = .int .i64 k ∧ wr.ownsRow w.heap.size 44 3 v (os f 0 k).length (c3 (os f 0 k)) ∧ Same w wr) (fun _ i _ => 64 - (intOf i).toNat)
  case atStart => exact ⟨0, by decide, rfl, World.ownsRow_nil _ _ _ _, Kept.refl _ _⟩
  case round =>
    obtain ⟨k, hk, rfl, hO, hS⟩ := hrel
    have O1 := hidden hO
    have S1 := hidden hS
    have hz : w.heap.size ≤ wr.heap.size := hS.size
    obtain ⟨va, vc, rfl⟩ := own_form hO
    have hle := os_le f 0 k
    clear hO hS
    by_cases hlt : k < 64
    · have hx := fun W => hidx.out k hlt W
      by_cases h0 : (f k).1 = 0
      · rw [h0, if_pos rfl] at hx
        have he : os f 0 (k + 1) = os f 0 k := by simp [os, en, h0]
        have HE := hidden he
        clear he h0
        go_wp2
        go_roundw
        case rel => exact ⟨k + 1, by omega, by go_num, by rw [HE.out]; exact own_kept O1.out ((Kept.refl (fun _ => False) _).alloc _) (fun _ _ h => h), S1.out.alloc _⟩
        case measure => simp [intOf]; omega
      · rw [if_neg h0] at hx
        have he : os f 0 (k + 1) = os f 0 k ++ [((k : Int), (f k).1, (f k).2)] := by simp [os, en, h0]
        have HE := hidden he
        have h0' : ((f k).1 != 0) = true := by simpa using h0
        clear he
        go_wp2_with (first
          | (at_builtin; refine wpList_append_any rfl _ _ 27 rfl w.heap.size 44 i0 _ 3 24 Try.underlying27 hi hz0 hz1 hz2 rfl (by decide) _ (os f 0 k).length vc (c3 (os f 0 k)) rfl (own_kept O1.out (((Kept.refl (fun _ => False) _).alloc _).alloc _) (fun _ _ h => h)) (some ⟨wr.heap.size + 1, 0, none⟩) 1 1 (c3 [((k : Int), (f k).1, (f k).2)]) rfl rfl (lies_new _ _ _ _ _ (by simp)) (c3_cell _) (by unfold maxLen; omega) (by omega) (by simp; omega) ?_; intro a2 c2 w2 ho2 hg2))
        go_roundw
        case rel => exact ⟨k + 1, by omega, by go_num, by rw [HE.out, c3_app, List.length_append]; exact ho2, same_grown (n := (os f 0 k).length) (m := 0) ((S1.out.alloc _).alloc _) (own_kept O1.out (((Kept.refl (fun _ => False) _).alloc _).alloc _) (fun _ _ h => h)) hg2⟩
        case measure => simp [intOf]; omega
    · obtain rfl : k = 64 := by omega
      go_wp2
      go_ret
      exact ⟨_, rfl, O1.out, S1.out⟩
end Go.Proofs.Ytiffkcffcjembaa
