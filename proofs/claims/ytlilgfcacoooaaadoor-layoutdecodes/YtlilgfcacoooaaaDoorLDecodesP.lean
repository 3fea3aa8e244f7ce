/-
  LayoutDecodes (P4.2): for every slice of bytes DecodeSuper tells what the document tells and leaves the bytes as they were, and EncodeSuper of what it tells is these bytes: the law's call returns true and leaves its argument as it was.
  Condition: the table crcSteps holds what the program's text lays (the card ties it).
-/
import Derived.Test.YtlilgfcacoooaaaDoorLay11
import Derived.Deep.AppendLies
namespace Go.Proofs.YtlilgfcacoooaaaDoor
open Go.RowKit
set_option linter.unusedVariables false
attribute [local go_sem ↓] Go.wp_at_zero Go.wp_at_succ

theorem own_none (w1 : World) (B : Nat) (h : B ≤ w1.heap.size) : (w1.alloc (.cells #[] 5)).ownsRow B 5 1 (.slice (some ⟨w1.heap.size, 0, none⟩) 0 0) 0 [] :=
  ⟨rfl, Or.inr ⟨w1.heap.size, 0, #[], rfl, h, blk_new w1 _, Nat.le_refl _, by decide, rfl, rfl⟩⟩
theorem row_byt {w : World} {B g cap : Nat} {l : List UInt8} (h : w.ownsRow B 5 1 (.slice (some ⟨g, 0, none⟩) l.length cap) l.length (l.map U8)) : Byt w (.slice (some ⟨g, 0, none⟩) l.length cap) l :=
  Or.inr ⟨_, _, rfl, fun j hj => h.cells rfl j _ (by simp [hj])⟩
theorem byt_cells {w : World} {a : Addr} {cap : Nat} {l : List UInt8} (h : Byt w (.slice (some a) l.length cap) l) : ∀ j u, (l.map U8)[j]? = some u → w.cell? (a.add j) = some u := by
  rcases h with ⟨h, _⟩ | ⟨a', cap', e, hc⟩
  · cases h
  · intro j u hu
    simp only [Value.slice.injEq, Option.some.injEq] at e
    rw [e.1]
    have hj : j < l.length := by
      have := (List.getElem?_eq_some_iff.1 hu).1
      simpa using this
    rw [hc j hj]
    rw [List.getElem?_map, List.getElem?_eq_getElem hj] at hu
    exact hu
theorem kept_fresh {w w1 w4 : World} {o : Obj} {g : Nat} (k : Same w w1) (hg : (w1.alloc o).grownBy w4 (some g)) (h : w.heap.size ≤ g) : Same w w4 :=
  (Kept.alloc k o).grown hg fun i hi hlt => by have : g = i := Option.some.inj hi; omega
set_option maxHeartbeats 4000000 in
set_option maxRecDepth 100000 in
theorem decodes_no_none (v : Value) (l : List UInt8) (w : World) (hb : Byt w v l) (hl : l.length ≤ 140737488351232) (hT : Tab w) (hm : l = []) (hno : ∀ (gen root sector sectors journal pack cmin cnorm cmax seed nbits : Nat) (dd : Bool), Sup gen root sector sectors journal pack cmin cnorm cmax seed nbits dd → superL gen root sector sectors journal pack cmin cnorm cmax seed nbits dd ≠ l) :
    Calls Tryd.prog 7 #[v] w fun e w' => e = .returned (.bool true) ∧ Same w w' := by
  obtain ⟨i0, hi, hz0, hz1, hz2⟩ := info_parts infoByte
  have A0 := hidden fun w ht => lay_awake w ht
  have a1 := fun v w hb ht => dec_no v l w hb ht (by omega) hno
  have a2 := fun v w hb => refDec_no v l w hb (by omega) hno
  unfold NoSuper at a1 a2
  have A1 := hidden a1
  have A2 := hidden a2
  clear a1 a2 hno
  have HT := hidden hT
  obtain ⟨a, cap, rfl⟩ := hb.form
  have HB := hidden hb
  clear hT hb
  subst hm
  have HB : Hid (Byt w (.slice a 0 cap) []) := HB
  cases a
  all_goals
    go_enter Tryd.func7, Tryd.ntmps7
    go_wp2_with (first
      | (go_at_call 15; refine (A0.out _ HT.out).mono ?_; rintro e w1 ⟨rfl, k1⟩)
      | (go_at_call 28; refine (A1.out _ _ (show Byt (w1.alloc (.cells #[] 5)) (.slice (some ⟨w1.heap.size, 0, none⟩) 0 0) [] from Or.inr ⟨_, _, rfl, fun j hj => by simp at hj⟩) (HT.out.same (Kept.alloc k1 _))).mono ?_; rintro e w2 ⟨rfl, k2⟩; have K2 : Same w w2 := Kept.trans (Kept.alloc k1 _) k2; have O2 := Byt.same (show Byt (w1.alloc (.cells #[] 5)) (.slice (some ⟨w1.heap.size, 0, none⟩) 0 0) [] from Or.inr ⟨_, _, rfl, fun j hj => by simp at hj⟩) k2)
      | (go_at_call 29; refine (A2.out _ _ (HB.out.same (Kept.alloc K2 _))).mono ?_; rintro e w3 ⟨rfl, k3⟩; have K3 : Same w w3 := Kept.trans (Kept.alloc K2 _) k3; have O3 : ∀ o, _ := (fun o => ((O2.same (Kept.alloc (Kept.refl _ _) _)).same k3).same (same_alloc w3 o)); have t1 := (fun o => (O3 o).text); have t2 := (fun o => (HB.out.same (Kept.alloc K3 o)).text); have bx := blk_kept k3 (fun h => h) (blk_new w2 _); have c0 : ∀ o, (w3.alloc o).cell? ⟨w2.heap.size, 0, none⟩ = some (.int .u64 0) := (fun o => blk_cell (blk_alloc bx o)); have c1 : ∀ o, (w3.alloc o).cell? ⟨w2.heap.size, 1, none⟩ = some (.int .i64 0) := (fun o => blk_cell (blk_alloc bx o)); have c2 : ∀ o, (w3.alloc o).cell? ⟨w2.heap.size, 2, none⟩ = some (.int .i64 0) := (fun o => blk_cell (blk_alloc bx o)); have c3 : ∀ o, (w3.alloc o).cell? ⟨w2.heap.size, 3, none⟩ = some (.int .i64 0) := (fun o => blk_cell (blk_alloc bx o)); have c4 : ∀ o, (w3.alloc o).cell? ⟨w2.heap.size, 4, none⟩ = some (.int .i64 0) := (fun o => blk_cell (blk_alloc bx o)); have c5 : ∀ o, (w3.alloc o).cell? ⟨w2.heap.size, 5, none⟩ = some (.int .i64 0) := (fun o => blk_cell (blk_alloc bx o)); have c6 : ∀ o, (w3.alloc o).cell? ⟨w2.heap.size, 6, none⟩ = some (.int .i64 0) := (fun o => blk_cell (blk_alloc bx o)); have c7 : ∀ o, (w3.alloc o).cell? ⟨w2.heap.size, 7, none⟩ = some (.int .i64 0) := (fun o => blk_cell (blk_alloc bx o)); have c8 : ∀ o, (w3.alloc o).cell? ⟨w2.heap.size, 8, none⟩ = some (.int .i64 0) := (fun o => blk_cell (blk_alloc bx o)); have c9 : ∀ o, (w3.alloc o).cell? ⟨w2.heap.size, 9, none⟩ = some (.int .u64 0) := (fun o => blk_cell (blk_alloc bx o)); have c10 : ∀ o, (w3.alloc o).cell? ⟨w2.heap.size, 10, none⟩ = some (.int .i64 0) := (fun o => blk_cell (blk_alloc bx o)); have c11 : ∀ o, (w3.alloc o).cell? ⟨w2.heap.size, 11, none⟩ = some (.bool false) := (fun o => blk_cell (blk_alloc bx o)); clear bx))
    go_returns
    exact ⟨rfl, Kept.alloc K3 _⟩
set_option maxHeartbeats 4000000 in
set_option maxRecDepth 100000 in
theorem decodes_no_some (v : Value) (l : List UInt8) (w : World) (hb : Byt w v l) (hl : l.length ≤ 140737488351232) (hT : Tab w) (hm : 0 < l.length) (hno : ∀ (gen root sector sectors journal pack cmin cnorm cmax seed nbits : Nat) (dd : Bool), Sup gen root sector sectors journal pack cmin cnorm cmax seed nbits dd → superL gen root sector sectors journal pack cmin cnorm cmax seed nbits dd ≠ l) :
    Calls Tryd.prog 7 #[v] w fun e w' => e = .returned (.bool true) ∧ Same w w' := by
  obtain ⟨i0, hi, hz0, hz1, hz2⟩ := info_parts infoByte
  have A0 := hidden fun w ht => lay_awake w ht
  have a1 := fun v w hb ht => dec_no v l w hb ht (by omega) hno
  have a2 := fun v w hb => refDec_no v l w hb (by omega) hno
  unfold NoSuper at a1 a2
  have A1 := hidden a1
  have A2 := hidden a2
  clear a1 a2 hno
  have HT := hidden hT
  obtain ⟨a, cap, rfl⟩ := hb.form
  have HB := hidden hb
  obtain ⟨a, rfl⟩ : ∃ b, a = some b := by
    rcases hb with ⟨h, h2⟩ | ⟨b, cap', e, _⟩
    · rw [h2] at hm; simp at hm
    · exact ⟨b, by simp only [Value.slice.injEq] at e; exact e.1⟩
  have hm1 : Hid (0 + l.length ≤ maxLen) := by rw [Hid]; unfold maxLen; omega
  have hm2 : Hid ((0 + l.length) * 1 ≤ 140737488355328) := by rw [Hid]; omega
  clear hT hb
  go_enter Tryd.func7, Tryd.ntmps7
  go_wp2_with (first
    | (go_at_call 15; refine (A0.out _ HT.out).mono ?_; rintro e w1 ⟨rfl, k1⟩)
    | (at_builtin; refine wpList_append_lies _ (by rfl) (.tmp 11) (.tmp 12) 39 (by rfl) w.heap.size 5 i0 (.int .u8 0) 1 1 Tryd.underlying39 hi hz0 hz1 hz2 rfl (by decide) _ 0 [] (by rfl) (own_none w1 w.heap.size k1.size) a l.length cap (l.map U8) (by rfl) (by simp) (byt_cells (HB.out.same (Kept.alloc k1 _))) (fun u hu => by obtain ⟨b, _, rfl⟩ := List.mem_map.1 hu; rfl) hm hm1.out hm2.out (by have := k1.size; simp; omega) (w1.heap.size + 1) (by simp) ?_; intro g' cap' w4 hown' hgrow hat hlt'; rw [Nat.zero_add] at hown' ⊢; have hO := row_byt (show w4.ownsRow w.heap.size 5 1 (.slice (some ⟨g', 0, none⟩) l.length cap') l.length (l.map U8) from hown'); have K4 : Same w w4 := kept_fresh k1 hgrow k1.size; clear hown' hgrow hat hlt')
    | (go_at_call 28; refine (A1.out _ _ hO (HT.out.same K4)).mono ?_; rintro e w2 ⟨rfl, k2⟩; have K2 : Same w w2 := Kept.trans K4 k2; have O2 := Byt.same hO k2)
    | (go_at_call 29; refine (A2.out _ _ (HB.out.same (Kept.alloc K2 _))).mono ?_; rintro e w3 ⟨rfl, k3⟩; have K3 : Same w w3 := Kept.trans (Kept.alloc K2 _) k3; have O3 : ∀ o, _ := (fun o => ((O2.same (Kept.alloc (Kept.refl _ _) _)).same k3).same (same_alloc w3 o)); have t1 := (fun o => (O3 o).text); have t2 := (fun o => (HB.out.same (Kept.alloc K3 o)).text); have bx := blk_kept k3 (fun h => h) (blk_new w2 _); have c0 : ∀ o, (w3.alloc o).cell? ⟨w2.heap.size, 0, none⟩ = some (.int .u64 0) := (fun o => blk_cell (blk_alloc bx o)); have c1 : ∀ o, (w3.alloc o).cell? ⟨w2.heap.size, 1, none⟩ = some (.int .i64 0) := (fun o => blk_cell (blk_alloc bx o)); have c2 : ∀ o, (w3.alloc o).cell? ⟨w2.heap.size, 2, none⟩ = some (.int .i64 0) := (fun o => blk_cell (blk_alloc bx o)); have c3 : ∀ o, (w3.alloc o).cell? ⟨w2.heap.size, 3, none⟩ = some (.int .i64 0) := (fun o => blk_cell (blk_alloc bx o)); have c4 : ∀ o, (w3.alloc o).cell? ⟨w2.heap.size, 4, none⟩ = some (.int .i64 0) := (fun o => blk_cell (blk_alloc bx o)); have c5 : ∀ o, (w3.alloc o).cell? ⟨w2.heap.size, 5, none⟩ = some (.int .i64 0) := (fun o => blk_cell (blk_alloc bx o)); have c6 : ∀ o, (w3.alloc o).cell? ⟨w2.heap.size, 6, none⟩ = some (.int .i64 0) := (fun o => blk_cell (blk_alloc bx o)); have c7 : ∀ o, (w3.alloc o).cell? ⟨w2.heap.size, 7, none⟩ = some (.int .i64 0) := (fun o => blk_cell (blk_alloc bx o)); have c8 : ∀ o, (w3.alloc o).cell? ⟨w2.heap.size, 8, none⟩ = some (.int .i64 0) := (fun o => blk_cell (blk_alloc bx o)); have c9 : ∀ o, (w3.alloc o).cell? ⟨w2.heap.size, 9, none⟩ = some (.int .u64 0) := (fun o => blk_cell (blk_alloc bx o)); have c10 : ∀ o, (w3.alloc o).cell? ⟨w2.heap.size, 10, none⟩ = some (.int .i64 0) := (fun o => blk_cell (blk_alloc bx o)); have c11 : ∀ o, (w3.alloc o).cell? ⟨w2.heap.size, 11, none⟩ = some (.bool false) := (fun o => blk_cell (blk_alloc bx o)); clear bx))
  go_returns
  exact ⟨rfl, Kept.alloc K3 _⟩
set_option maxHeartbeats 4000000 in
set_option maxRecDepth 100000 in
theorem decodes_yes_some (v : Value) (l : List UInt8) (w : World) (hb : Byt w v l) (hl : l.length ≤ 140737488351232) (hT : Tab w) (hm : 0 < l.length) (gen root sector sectors journal pack cmin cnorm cmax seed nbits : Nat) (dd : Bool) (hS : Sup gen root sector sectors journal pack cmin cnorm cmax seed nbits dd) (hls : superL gen root sector sectors journal pack cmin cnorm cmax seed nbits dd = l) :
    Calls Tryd.prog 7 #[v] w fun e w' => e = .returned (.bool true) ∧ Same w w' := by
  obtain ⟨i0, hi, hz0, hz1, hz2⟩ := info_parts infoByte
  have A0 := hidden fun w ht => lay_awake w ht
  have a1 := fun v w hb ht => dec_yes v gen root sector sectors journal pack cmin cnorm cmax seed nbits dd w hb ht hS
  have a2 := fun v w hb => refDec_yes v gen root sector sectors journal pack cmin cnorm cmax seed nbits dd w hb hS
  have a3 := fun w ht => enc_yes gen root sector sectors journal pack cmin cnorm cmax seed nbits dd w ht hS.g hS.s hS.shp hS.ok (by have := hS.root; omega)
  rw [hls] at a1 a2 a3
  have A1 := hidden a1
  have A2 := hidden a2
  have A3 := hidden a3
  clear a1 a2 a3 hS hls
  have HT := hidden hT
  obtain ⟨a, cap, rfl⟩ := hb.form
  have HB := hidden hb
  obtain ⟨a, rfl⟩ : ∃ b, a = some b := by
    rcases hb with ⟨h, h2⟩ | ⟨b, cap', e, _⟩
    · rw [h2] at hm; simp at hm
    · exact ⟨b, by simp only [Value.slice.injEq] at e; exact e.1⟩
  have hm1 : Hid (0 + l.length ≤ maxLen) := by rw [Hid]; unfold maxLen; omega
  have hm2 : Hid ((0 + l.length) * 1 ≤ 140737488355328) := by rw [Hid]; omega
  clear hT hb
  go_enter Tryd.func7, Tryd.ntmps7
  go_wp2_with (first
    | (go_at_call 15; refine (A0.out _ HT.out).mono ?_; rintro e w1 ⟨rfl, k1⟩)
    | (at_builtin; refine wpList_append_lies _ (by rfl) (.tmp 11) (.tmp 12) 39 (by rfl) w.heap.size 5 i0 (.int .u8 0) 1 1 Tryd.underlying39 hi hz0 hz1 hz2 rfl (by decide) _ 0 [] (by rfl) (own_none w1 w.heap.size k1.size) a l.length cap (l.map U8) (by rfl) (by simp) (byt_cells (HB.out.same (Kept.alloc k1 _))) (fun u hu => by obtain ⟨b, _, rfl⟩ := List.mem_map.1 hu; rfl) hm hm1.out hm2.out (by have := k1.size; simp; omega) (w1.heap.size + 1) (by simp) ?_; intro g' cap' w4 hown' hgrow hat hlt'; rw [Nat.zero_add] at hown' ⊢; have hO := row_byt (show w4.ownsRow w.heap.size 5 1 (.slice (some ⟨g', 0, none⟩) l.length cap') l.length (l.map U8) from hown'); have K4 : Same w w4 := kept_fresh k1 hgrow k1.size; clear hown' hgrow hat hlt')
    | (go_at_call 28; refine (A1.out _ _ hO (HT.out.same K4)).mono ?_; rintro e w2 ⟨rfl, k2⟩; have K2 : Same w w2 := Kept.trans K4 k2; have O2 := Byt.same hO k2)
    | (go_at_call 29; refine (A2.out _ _ (HB.out.same (Kept.alloc K2 _))).mono ?_; rintro e w3 ⟨rfl, k3⟩; have K3 : Same w w3 := Kept.trans (Kept.alloc K2 _) k3; have O3 : ∀ o, _ := (fun o => ((O2.same (Kept.alloc (Kept.refl _ _) _)).same k3).same (same_alloc w3 o)); have t1 := (fun o => (O3 o).text); have t2 := (fun o => (HB.out.same (Kept.alloc K3 o)).text); have bx := blk_kept k3 (fun h => h) (blk_new w2 _); have c0 : ∀ o, (w3.alloc o).cell? ⟨w2.heap.size, 0, none⟩ = some (.int .u64 gen) := (fun o => blk_cell (blk_alloc bx o)); have c1 : ∀ o, (w3.alloc o).cell? ⟨w2.heap.size, 1, none⟩ = some (.int .i64 root) := (fun o => blk_cell (blk_alloc bx o)); have c2 : ∀ o, (w3.alloc o).cell? ⟨w2.heap.size, 2, none⟩ = some (.int .i64 sector) := (fun o => blk_cell (blk_alloc bx o)); have c3 : ∀ o, (w3.alloc o).cell? ⟨w2.heap.size, 3, none⟩ = some (.int .i64 sectors) := (fun o => blk_cell (blk_alloc bx o)); have c4 : ∀ o, (w3.alloc o).cell? ⟨w2.heap.size, 4, none⟩ = some (.int .i64 journal) := (fun o => blk_cell (blk_alloc bx o)); have c5 : ∀ o, (w3.alloc o).cell? ⟨w2.heap.size, 5, none⟩ = some (.int .i64 pack) := (fun o => blk_cell (blk_alloc bx o)); have c6 : ∀ o, (w3.alloc o).cell? ⟨w2.heap.size, 6, none⟩ = some (.int .i64 cmin) := (fun o => blk_cell (blk_alloc bx o)); have c7 : ∀ o, (w3.alloc o).cell? ⟨w2.heap.size, 7, none⟩ = some (.int .i64 cnorm) := (fun o => blk_cell (blk_alloc bx o)); have c8 : ∀ o, (w3.alloc o).cell? ⟨w2.heap.size, 8, none⟩ = some (.int .i64 cmax) := (fun o => blk_cell (blk_alloc bx o)); have c9 : ∀ o, (w3.alloc o).cell? ⟨w2.heap.size, 9, none⟩ = some (.int .u64 seed) := (fun o => blk_cell (blk_alloc bx o)); have c10 : ∀ o, (w3.alloc o).cell? ⟨w2.heap.size, 10, none⟩ = some (.int .i64 nbits) := (fun o => blk_cell (blk_alloc bx o)); have c11 : ∀ o, (w3.alloc o).cell? ⟨w2.heap.size, 11, none⟩ = some (.bool dd) := (fun o => blk_cell (blk_alloc bx o)); clear bx)
    | (go_at_call 26; refine (A3.out _ (HT.out.same (Kept.alloc K3 _))).mono ?_; rintro e w5 ⟨v5, rfl, o5, k5⟩; have K5 : Same w w5 := Kept.trans (Kept.alloc K3 _) k5; have t5 := o5.text; have t6 := (HB.out.same K5).text))
  go_returns
  exact ⟨rfl, K5⟩
theorem decodes_walk (v : Value) (l : List UInt8) (w : World) (hb : Byt w v l) (hl : l.length ≤ 140737488351232) (hT : Tab w) :
    Calls Tryd.prog 7 #[v] w fun e w' => e = .returned (.bool true) ∧ Same w w' := by
  by_cases hx : ∃ (gen root sector sectors journal pack cmin cnorm cmax seed nbits : Nat) (dd : Bool), Sup gen root sector sectors journal pack cmin cnorm cmax seed nbits dd ∧ superL gen root sector sectors journal pack cmin cnorm cmax seed nbits dd = l
  · obtain ⟨gen, root, sector, sectors, journal, pack, cmin, cnorm, cmax, seed, nbits, dd, hS, hls⟩ := hx
    have hlen := superL_len hS
    have := hS.shp.1
    exact decodes_yes_some v l w hb hl hT (by rw [← hls, hlen]; omega) gen root sector sectors journal pack cmin cnorm cmax seed nbits dd hS hls
  · have hno : ∀ (gen root sector sectors journal pack cmin cnorm cmax seed nbits : Nat) (dd : Bool), Sup gen root sector sectors journal pack cmin cnorm cmax seed nbits dd → superL gen root sector sectors journal pack cmin cnorm cmax seed nbits dd ≠ l :=
      fun a b c d e f g h i j k m hS hls => hx ⟨a, b, c, d, e, f, g, h, i, j, k, m, hS, hls⟩
    by_cases hm : l = []
    · exact decodes_no_none v l w hb hl hT hm hno
    · exact decodes_no_some v l w hb hl hT (List.length_pos_iff.2 hm) hno
end Go.Proofs.YtlilgfcacoooaaaDoor
namespace Go.Proofs.YtlilgfcacoooaaaDoor.LayoutDecodes
open Go.ChangeShapes Go.WideShapes Go.ChangeAt Go.RowKit Go.Joins Go.ChangeMaps
set_option maxRecDepth 100000 in
theorem contract (H : Type) (enc : TypeId × Value → H) (W : World) (base : Nat) (args : Array Value) (ds gs : List (DataW H)) (before : List MemPlace)
    (hval : ∀ (j : Nat) t v, Tryd.f7.params[j]? = some t → args[j]? = some v → Value.okWide Tryd.prog W .any base t v)
    (hW : DataW.Whole enc Tryd.prog Tryd.f7.params.toList Rows.layoutDecodesSpec.vars false W args.toList ds gs before)
    (hsz : (DataW.weightsEach Tryd.prog (Tryd.f7.params.toList ++ (OpenSpec.ofChange Rows.layoutDecodesSpec).bare.plain.varTypes Tryd.prog) (ds ++ gs)).all (· ≤ reachBytes) = true)
    (hL : laidMetH Tryd.prog Rows.layoutDecodesRow.laid W) :
    Calls Tryd.prog 7 args W fun e W' => ∃ v, e = .returned v ∧ Rows.layoutDecodesSpec.post enc Tryd.prog Tryd.f7 false true false false W args v W' := by
  have hW' := hW
  obtain ⟨p, q, hA0, hV, rfl, hfz, hnd⟩ := hW
  have hA : DataW.TrodAll enc Tryd.prog W 0 (fun _ => true) true Tryd.f7.params.toList args.toList ds p := hA0
  rw [Tryd.params7] at hA hval hsz
  obtain ⟨v0, vs0, d0, ds0, p0, q0, hargs, rfl, rfl, h0, r0⟩ := trodAll_cons hA
  obtain ⟨rfl, rfl, rfl⟩ := trodAll_nil r0
  obtain rfl : args = #[v0] := by cases args; simp_all
  obtain ⟨rfl, rfl⟩ := trodVars_none hV
  obtain ⟨l_b, in_b, sz_b⟩ := bytes_open (hval 0 39 v0 rfl rfl) h0
  refine (decodes_walk v0 l_b W in_b (sz_b _ _ 0 hsz rfl rfl) (tab_laid hL)).mono fun e W' ⟨he, hg⟩ => ?_
  subst he
  exact ⟨_, rfl, law_post laidOut (by rw [Tryd.params7]; decide +kernel) rfl hW' rfl Tryd.underlying4 ⟨rfl, rfl, rfl⟩ (hg.below (Nat.le_refl _) fun _ h => h.elim)⟩
set_option maxRecDepth 100000 in
theorem lifted (os : Os) (started : os.Started) (H : Type) (enc : TypeId × Value → H) (F : Stop.Interp) :
    ReturnsInHanded {} Tryd.checked os 7 .any ((OpenSpec.ofChange Rows.layoutDecodesSpec).preRow enc Tryd.prog Tryd.f7 Rows.layoutDecodesRow.domain false Rows.layoutDecodesRow.laid) (((OpenSpec.ofChange Rows.layoutDecodesSpec).at F).post enc Tryd.prog Tryd.f7 false true false false) := by
  refine returnsInHanded_of_row (C := Tryd.checked) (s := OpenSpec.ofChange Rows.layoutDecodesSpec) own started (by kernel_rfl) Tryd.func7
    (witness_row_at (enc := enc) (C := Tryd.checked) false ({ World.holding Tryd.prog os ⟨#[], #[], []⟩ with heap := (World.holding Tryd.prog os ⟨#[], #[], []⟩).heap.modify tabBlock fun | .cells _ t frozen => .cells (tabInts.map (Value.int .u32)).toArray t frozen | o => o }) #[.slice none 0 0] rfl (by kernel_rfl) (by kernel_rfl) (by kernel_rfl)
      (OpenSpec.preRow_of_cond (x := ([.nil], [], [])) 8 (by kernel_rfl) (by kernel_rfl) (fun k hk => by cases hk) (by kernel_rfl) (laidMet_of_run' 8 (by kernel_rfl) (by kernel_rfl)))) ?_
  intro W base args ds gs before hval hW _ _ hsz hL _ _
  exact contract H enc W base args ds gs before hval hW hsz hL
theorem said : Rows.LayoutDecodesSaid :=
  OpenClaim.holds_of_cond 7 Tryd.f7 rfl rfl rfl rfl rfl rfl rfl ⟨rfl, rfl, rfl, rfl, rfl⟩ rfl rfl rfl rfl rfl (by kernel_rfl) Tryd.func7 (by kernel_rfl)
    (of_decide_eq_true (by kernel_rfl)) (by unfold Func.isWrapper; first | (rw [if_pos (by decide +kernel)]; kernel_rfl) | (rw [if_neg (by decide +kernel)]; exact ⟨rfl, rfl⟩))
    (fun os started H enc _ F => by rw [OpenClaim.pre_eq_preRow]; exact lifted os started H enc F)
theorem plain (f : FuncId) (fn : Func) (hf : Tryd.pinned.checked.prog.funcNamed Rows.layoutDecodesRow.func = some f) (hfn : Tryd.pinned.checked.prog.funcs[f]? = some fn) :
    false = Tryd.pinned.checked.prog.looks [] ∧ ∀ (j : Nat) t, fn.params[j]? = some t → Tryd.pinned.checked.prog.wantsStandIn t = false := by
  obtain rfl : f = 7 := Option.some.inj ((show Tryd.prog.funcNamed Rows.layoutDecodesRow.func = some 7 by kernel_rfl).symm.trans hf) |>.symm
  obtain rfl : fn = Tryd.f7 := (Option.some.inj (Tryd.func7.symm.trans hfn)).symm
  refine ⟨by kernel_rfl, fun j t ht => ?_⟩
  rw [Tryd.params7] at ht
  have hm : t ∈ [39] := by simpa using Array.mem_of_getElem? ht
  have hall : [39].all (fun t => !Tryd.prog.wantsStandIn t) = true := by kernel_rfl
  have h1 := List.all_eq_true.1 hall t hm
  have h2 : Tryd.prog.wantsStandIn t = false := by simpa using h1
  exact h2
theorem card : Rows.LayoutDecodesCardSaid :=
  Claim7.holds_tied_plain_at .later [] _ _ _ _ said (fun _ h => by cases h) (by kernel_rfl) (fun _ h => by cases h) layoutDecodes_row_tie rfl ⟨rfl, rfl⟩ (by kernel_rfl) rfl plain (by kernel_rfl)
end Go.Proofs.YtlilgfcacoooaaaDoor.LayoutDecodes
namespace Go.Proofs.YtlilgfcacoooaaaDoor
theorem layoutDecodes_card : Rows.LayoutDecodesCardSaid := LayoutDecodes.card
end Go.Proofs.YtlilgfcacoooaaaDoor
