/-
  LayoutChooses (P4.3): for every size and bytes of two sectors Choose tells what the document tells, and Next and Slot of what it tells do so too: the law's call returns true and leaves its arguments as they were.
  Condition: the table crcSteps holds what the program's text lays (the card ties it).
-/
import Derived.Test.YtlilgfcacoooaaaDoorLay14
import Derived.Test.YtlilgfcacoooaaaDoorLay15
namespace Go.Proofs.YtlilgfcacoooaaaDoor
open Go.RowKit
set_option linter.unusedVariables false
attribute [local go_sem ↓] Go.wp_at_zero Go.wp_at_succ

set_option maxHeartbeats 4000000 in
set_option maxRecDepth 100000 in
theorem chooses_walk (size : Int) (va : Value) (la : List UInt8) (vb : Value) (lb : List UInt8) (w : World) (h1 : -9223372036854775808 ≤ size) (h2 : size ≤ 9223372036854775807) (ha : Byt w va la) (hla : la.length ≤ 140737488351232) (hb : Byt w vb lb) (hlb : lb.length ≤ 140737488351232) (hT : Tab w) :
    Calls Tryd.prog 8 #[.int .i64 size, va, vb] w fun e w' => e = .returned (.bool true) ∧ Same w w' := by
  obtain ⟨dA, tA⟩ := tells_any ha (by omega)
  obtain ⟨dB, tB⟩ := tells_any hb (by omega)
  have A0 := hidden fun w ht => lay_awake w ht
  have fa : Hid (∃ a n c, va = .slice a n c) := hidden (by obtain ⟨a, c, e⟩ := ha.form; exact ⟨a, _, c, e⟩)
  have fb : Hid (∃ a n c, vb = .slice a n c) := hidden (by obtain ⟨a, c, e⟩ := hb.form; exact ⟨a, _, c, e⟩)
  have HT := hidden hT
  have TA := hidden tA
  have TB := hidden tB
  clear hT tA tB ha hb hla hlb h1 h2
  go_enter Tryd.func8, Tryd.ntmps8
  go_wp2_with (first
    | (go_at_call 15; refine (A0.out _ HT.out).mono ?_; rintro e w1 ⟨rfl, k1⟩)
    | (go_at_call 30; refine (choose_any size va vb dA dB _ (TA.out.same k1) (TB.out.same k1) (HT.out.same k1) fa.out fb.out).mono ?_; rintro e w2 ⟨b, f, rfl, hst, hbl, k2⟩; have K2 : Same w w2 := Kept.trans k1 k2; have HST := hidden hst; have HBL := hidden hbl; clear hst hbl k2)
    | (go_at_call 31; refine (refChoose_any size va vb dA dB _ (TA.out.same (Kept.alloc K2 _)) (TB.out.same (Kept.alloc K2 _)) fa.out fb.out).mono ?_; rintro e w3 ⟨b', f', rfl, hst', hbl', k3⟩; have he := hst'.trans HST.out.symm; obtain ⟨rfl, rfl⟩ := Prod.mk.inj he; have K3 : Same w w3 := Kept.trans (Kept.alloc K2 _) k3; have bx := blk_kept k3 (fun h => h) (blk_new w2 _); have c0 : ∀ o, (w3.alloc o).cell? ⟨w2.heap.size, 0, none⟩ = some (.int .u64 b'.gen) := (fun o => blk_cell (blk_alloc bx o)); have c1 : ∀ o, (w3.alloc o).cell? ⟨w2.heap.size, 1, none⟩ = some (.int .i64 b'.root) := (fun o => blk_cell (blk_alloc bx o)); have c2 : ∀ o, (w3.alloc o).cell? ⟨w2.heap.size, 2, none⟩ = some (.int .i64 b'.sector) := (fun o => blk_cell (blk_alloc bx o)); have c3 : ∀ o, (w3.alloc o).cell? ⟨w2.heap.size, 3, none⟩ = some (.int .i64 b'.sectors) := (fun o => blk_cell (blk_alloc bx o)); have c4 : ∀ o, (w3.alloc o).cell? ⟨w2.heap.size, 4, none⟩ = some (.int .i64 b'.journal) := (fun o => blk_cell (blk_alloc bx o)); have c5 : ∀ o, (w3.alloc o).cell? ⟨w2.heap.size, 5, none⟩ = some (.int .i64 b'.pack) := (fun o => blk_cell (blk_alloc bx o)); have c6 : ∀ o, (w3.alloc o).cell? ⟨w2.heap.size, 6, none⟩ = some (.int .i64 b'.cmin) := (fun o => blk_cell (blk_alloc bx o)); have c7 : ∀ o, (w3.alloc o).cell? ⟨w2.heap.size, 7, none⟩ = some (.int .i64 b'.cnorm) := (fun o => blk_cell (blk_alloc bx o)); have c8 : ∀ o, (w3.alloc o).cell? ⟨w2.heap.size, 8, none⟩ = some (.int .i64 b'.cmax) := (fun o => blk_cell (blk_alloc bx o)); have c9 : ∀ o, (w3.alloc o).cell? ⟨w2.heap.size, 9, none⟩ = some (.int .u64 b'.seed) := (fun o => blk_cell (blk_alloc bx o)); have c10 : ∀ o, (w3.alloc o).cell? ⟨w2.heap.size, 10, none⟩ = some (.int .i64 b'.nbits) := (fun o => blk_cell (blk_alloc bx o)); have c11 : ∀ o, (w3.alloc o).cell? ⟨w2.heap.size, 11, none⟩ = some (.bool b'.dd) := (fun o => blk_cell (blk_alloc bx o)); have BX := hidden bx; clear bx hst' hbl' he k3; have hcs : b'.gen = 18446744073709551615 ∨ b'.gen < 18446744073709551615 := (by have := HBL.out; omega)))
  rcases hcs with hgen | hgen
  · have HG := hidden hgen
    clear hgen
    refine (next_full b'.gen b'.root b'.sector b'.sectors b'.journal b'.pack b'.cmin b'.cnorm b'.cmax b'.seed b'.nbits b'.dd _ HG.out).mono ?_
    rintro e w4 ⟨rfl, k4⟩
    have bx4 := blk_kept k4 (fun h => h) (blk_alloc BX.out _)
    have d0 : w4.cell? ⟨w2.heap.size, 0, none⟩ = some (.int .u64 b'.gen) := blk_cell bx4
    have d1 : w4.cell? ⟨w2.heap.size, 1, none⟩ = some (.int .i64 b'.root) := blk_cell bx4
    have d2 : w4.cell? ⟨w2.heap.size, 2, none⟩ = some (.int .i64 b'.sector) := blk_cell bx4
    have d3 : w4.cell? ⟨w2.heap.size, 3, none⟩ = some (.int .i64 b'.sectors) := blk_cell bx4
    have d4 : w4.cell? ⟨w2.heap.size, 4, none⟩ = some (.int .i64 b'.journal) := blk_cell bx4
    have d5 : w4.cell? ⟨w2.heap.size, 5, none⟩ = some (.int .i64 b'.pack) := blk_cell bx4
    have d6 : w4.cell? ⟨w2.heap.size, 6, none⟩ = some (.int .i64 b'.cmin) := blk_cell bx4
    have d7 : w4.cell? ⟨w2.heap.size, 7, none⟩ = some (.int .i64 b'.cnorm) := blk_cell bx4
    have d8 : w4.cell? ⟨w2.heap.size, 8, none⟩ = some (.int .i64 b'.cmax) := blk_cell bx4
    have d9 : w4.cell? ⟨w2.heap.size, 9, none⟩ = some (.int .u64 b'.seed) := blk_cell bx4
    have d10 : w4.cell? ⟨w2.heap.size, 10, none⟩ = some (.int .i64 b'.nbits) := blk_cell bx4
    have d11 : w4.cell? ⟨w2.heap.size, 11, none⟩ = some (.bool b'.dd) := blk_cell bx4
    have K4 : Same w w4 := Kept.trans (Kept.alloc K3 _) k4
    have BX4 := hidden bx4
    clear bx4 k4
    go_wp2_with (go_at_call 33; refine (refNext_full b'.gen b'.root b'.sector b'.sectors b'.journal b'.pack b'.cmin b'.cnorm b'.cmax b'.seed b'.nbits b'.dd _ HG.out).mono ?_; rintro e w5 ⟨rfl, k5⟩; have bx5 := blk_kept k5 (fun h => h) BX4.out; have e0 : w5.cell? ⟨w2.heap.size, 0, none⟩ = some (.int .u64 b'.gen) := blk_cell bx5; have K5 : Same w w5 := Kept.trans K4 k5; clear bx5 k5)
    go_quiet ((first | (go_at_call 34; exact Calls.quiet_of_same ((slot_any _ _ HBL.out).mono fun _ _ ⟨a, b⟩ => ⟨a, b.symm⟩)) | (go_at_call 35; exact Calls.quiet_of_same ((refSlot_any _ _ HBL.out).mono fun _ _ ⟨a, b⟩ => ⟨a, b.symm⟩))))
    go_wp2
    go_returns
    exact ⟨rfl, K5.drewN _⟩
  · have HG := hidden hgen
    clear hgen
    refine (next_more b'.gen b'.root b'.sector b'.sectors b'.journal b'.pack b'.cmin b'.cnorm b'.cmax b'.seed b'.nbits b'.dd _ HG.out).mono ?_
    rintro e w4 ⟨rfl, k4⟩
    have bx4 := blk_kept k4 (fun h => h) (blk_alloc BX.out _)
    have d0 : w4.cell? ⟨w2.heap.size, 0, none⟩ = some (.int .u64 b'.gen) := blk_cell bx4
    have d1 : w4.cell? ⟨w2.heap.size, 1, none⟩ = some (.int .i64 b'.root) := blk_cell bx4
    have d2 : w4.cell? ⟨w2.heap.size, 2, none⟩ = some (.int .i64 b'.sector) := blk_cell bx4
    have d3 : w4.cell? ⟨w2.heap.size, 3, none⟩ = some (.int .i64 b'.sectors) := blk_cell bx4
    have d4 : w4.cell? ⟨w2.heap.size, 4, none⟩ = some (.int .i64 b'.journal) := blk_cell bx4
    have d5 : w4.cell? ⟨w2.heap.size, 5, none⟩ = some (.int .i64 b'.pack) := blk_cell bx4
    have d6 : w4.cell? ⟨w2.heap.size, 6, none⟩ = some (.int .i64 b'.cmin) := blk_cell bx4
    have d7 : w4.cell? ⟨w2.heap.size, 7, none⟩ = some (.int .i64 b'.cnorm) := blk_cell bx4
    have d8 : w4.cell? ⟨w2.heap.size, 8, none⟩ = some (.int .i64 b'.cmax) := blk_cell bx4
    have d9 : w4.cell? ⟨w2.heap.size, 9, none⟩ = some (.int .u64 b'.seed) := blk_cell bx4
    have d10 : w4.cell? ⟨w2.heap.size, 10, none⟩ = some (.int .i64 b'.nbits) := blk_cell bx4
    have d11 : w4.cell? ⟨w2.heap.size, 11, none⟩ = some (.bool b'.dd) := blk_cell bx4
    have K4 : Same w w4 := Kept.trans (Kept.alloc K3 _) k4
    have BX4 := hidden bx4
    clear bx4 k4
    go_wp2_with (go_at_call 33; refine (refNext_more b'.gen b'.root b'.sector b'.sectors b'.journal b'.pack b'.cmin b'.cnorm b'.cmax b'.seed b'.nbits b'.dd _ HG.out).mono ?_; rintro e w5 ⟨rfl, k5⟩; have bx5 := blk_kept k5 (fun h => h) BX4.out; have e0 : w5.cell? ⟨w2.heap.size, 0, none⟩ = some (.int .u64 b'.gen) := blk_cell bx5; have K5 : Same w w5 := Kept.trans K4 k5; clear bx5 k5)
    go_quiet ((first | (go_at_call 34; exact Calls.quiet_of_same ((slot_any _ _ HBL.out).mono fun _ _ ⟨a, b⟩ => ⟨a, b.symm⟩)) | (go_at_call 35; exact Calls.quiet_of_same ((refSlot_any _ _ HBL.out).mono fun _ _ ⟨a, b⟩ => ⟨a, b.symm⟩))))
    go_wp2
    go_returns
    exact ⟨rfl, K5.drewN _⟩
end Go.Proofs.YtlilgfcacoooaaaDoor
namespace Go.Proofs.YtlilgfcacoooaaaDoor.LayoutChooses
open Go.ChangeShapes Go.WideShapes Go.ChangeAt Go.RowKit Go.Joins Go.ChangeMaps
set_option maxRecDepth 100000 in
theorem contract (H : Type) (enc : TypeId × Value → H) (W : World) (base : Nat) (args : Array Value) (ds gs : List (DataW H)) (before : List MemPlace)
    (hval : ∀ (j : Nat) t v, Tryd.f8.params[j]? = some t → args[j]? = some v → Value.okWide Tryd.prog W .any base t v)
    (hW : DataW.Whole enc Tryd.prog Tryd.f8.params.toList Rows.layoutChoosesSpec.vars false W args.toList ds gs before)
    (hsz : (DataW.weightsEach Tryd.prog (Tryd.f8.params.toList ++ (OpenSpec.ofChange Rows.layoutChoosesSpec).bare.plain.varTypes Tryd.prog) (ds ++ gs)).all (· ≤ reachBytes) = true)
    (hL : laidMetH Tryd.prog Rows.layoutChoosesRow.laid W) :
    Calls Tryd.prog 8 args W fun e W' => ∃ v, e = .returned v ∧ Rows.layoutChoosesSpec.post enc Tryd.prog Tryd.f8 false true false false W args v W' := by
  have hW' := hW
  obtain ⟨p, q, hA0, hV, rfl, hfz, hnd⟩ := hW
  have hA : DataW.TrodAll enc Tryd.prog W 0 (fun _ => true) true Tryd.f8.params.toList args.toList ds p := hA0
  rw [Tryd.params8] at hA hval hsz
  obtain ⟨v0, vs0, d0, ds0, p0, q0, hargs, rfl, rfl, h0, r0⟩ := trodAll_cons hA
  obtain ⟨v1, vs1, d1, ds1, p1, q1, rfl, rfl, rfl, h1, r1⟩ := trodAll_cons r0
  obtain ⟨v2, vs2, d2, ds2, p2, q2, rfl, rfl, rfl, h2, r2⟩ := trodAll_cons r1
  obtain ⟨rfl, rfl, rfl⟩ := trodAll_nil r2
  obtain rfl : args = #[v0, v1, v2] := by cases args; simp_all
  obtain ⟨rfl, rfl⟩ := trodVars_none hV
  obtain ⟨size, rfl, rfl, rfl, w_size⟩ := open_int Tryd.underlying3 (hval 0 3 v0 rfl rfl) h0
  have b_size : -9223372036854775808 ≤ size ∧ size ≤ 9223372036854775807 := by simpa [Lit.wf, IntKind.min, IntKind.max, IntKind.signed, IntKind.bits] using w_size
  obtain ⟨l_a, in_a, sz_a⟩ := bytes_open (hval 1 39 v1 rfl rfl) h1
  obtain ⟨l_b, in_b, sz_b⟩ := bytes_open (hval 2 39 v2 rfl rfl) h2
  refine (chooses_walk size v1 l_a v2 l_b W b_size.1 b_size.2 in_a (sz_a _ _ 1 hsz rfl rfl) in_b (sz_b _ _ 2 hsz rfl rfl) (tab_laid hL)).mono fun e W' ⟨he, hg⟩ => ?_
  subst he
  exact ⟨_, rfl, law_post laidOut (by rw [Tryd.params8]; decide +kernel) rfl hW' rfl Tryd.underlying4 ⟨rfl, rfl, rfl⟩ (hg.below (Nat.le_refl _) fun _ h => h.elim)⟩
set_option maxRecDepth 100000 in
theorem lifted (os : Os) (started : os.Started) (H : Type) (enc : TypeId × Value → H) (F : Stop.Interp) :
    ReturnsInHanded {} Tryd.checked os 8 .any ((OpenSpec.ofChange Rows.layoutChoosesSpec).preRow enc Tryd.prog Tryd.f8 Rows.layoutChoosesRow.domain false Rows.layoutChoosesRow.laid) (((OpenSpec.ofChange Rows.layoutChoosesSpec).at F).post enc Tryd.prog Tryd.f8 false true false false) := by
  refine returnsInHanded_of_row (C := Tryd.checked) (s := OpenSpec.ofChange Rows.layoutChoosesSpec) own started (by kernel_rfl) Tryd.func8
    (witness_row_at (enc := enc) (C := Tryd.checked) false ({ World.holding Tryd.prog os ⟨#[], #[], []⟩ with heap := (World.holding Tryd.prog os ⟨#[], #[], []⟩).heap.modify tabBlock fun | .cells _ t frozen => .cells (tabInts.map (Value.int .u32)).toArray t frozen | o => o }) #[.int .i64 0, .slice none 0 0, .slice none 0 0] rfl (by kernel_rfl) (by kernel_rfl) (by kernel_rfl)
      (OpenSpec.preRow_of_cond (x := ([.lit (.int .i64 0), .nil, .nil], [], [])) 8 (by kernel_rfl) (by kernel_rfl) (fun k hk => by cases hk) (by kernel_rfl) (laidMet_of_run' 8 (by kernel_rfl) (by kernel_rfl)))) ?_
  intro W base args ds gs before hval hW _ _ hsz hL _ _
  exact contract H enc W base args ds gs before hval hW hsz hL
theorem said : Rows.LayoutChoosesSaid :=
  OpenClaim.holds_of_cond 8 Tryd.f8 rfl rfl rfl rfl rfl rfl rfl ⟨rfl, rfl, rfl, rfl, rfl⟩ rfl rfl rfl rfl rfl (by kernel_rfl) Tryd.func8 (by kernel_rfl)
    (of_decide_eq_true (by kernel_rfl)) (by unfold Func.isWrapper; first | (rw [if_pos (by decide +kernel)]; kernel_rfl) | (rw [if_neg (by decide +kernel)]; exact ⟨rfl, rfl⟩))
    (fun os started H enc _ F => by rw [OpenClaim.pre_eq_preRow]; exact lifted os started H enc F)
theorem plain (f : FuncId) (fn : Func) (hf : Tryd.pinned.checked.prog.funcNamed Rows.layoutChoosesRow.func = some f) (hfn : Tryd.pinned.checked.prog.funcs[f]? = some fn) :
    false = Tryd.pinned.checked.prog.looks [] ∧ ∀ (j : Nat) t, fn.params[j]? = some t → Tryd.pinned.checked.prog.wantsStandIn t = false := by
  obtain rfl : f = 8 := Option.some.inj ((show Tryd.prog.funcNamed Rows.layoutChoosesRow.func = some 8 by kernel_rfl).symm.trans hf) |>.symm
  obtain rfl : fn = Tryd.f8 := (Option.some.inj (Tryd.func8.symm.trans hfn)).symm
  refine ⟨by kernel_rfl, fun j t ht => ?_⟩
  rw [Tryd.params8] at ht
  have hm : t ∈ [3, 39, 39] := by simpa using Array.mem_of_getElem? ht
  have hall : [3, 39, 39].all (fun t => !Tryd.prog.wantsStandIn t) = true := by kernel_rfl
  have h1 := List.all_eq_true.1 hall t hm
  have h2 : Tryd.prog.wantsStandIn t = false := by simpa using h1
  exact h2
theorem card : Rows.LayoutChoosesCardSaid :=
  Claim7.holds_tied_plain_at .later [] _ _ _ _ said (fun _ h => by cases h) (by kernel_rfl) (fun _ h => by cases h) layoutChooses_row_tie rfl ⟨rfl, rfl⟩ (by kernel_rfl) rfl plain (by kernel_rfl)
end Go.Proofs.YtlilgfcacoooaaaDoor.LayoutChooses
namespace Go.Proofs.YtlilgfcacoooaaaDoor
theorem layoutChooses_card : Rows.LayoutChoosesCardSaid := LayoutChooses.card
end Go.Proofs.YtlilgfcacoooaaaDoor
