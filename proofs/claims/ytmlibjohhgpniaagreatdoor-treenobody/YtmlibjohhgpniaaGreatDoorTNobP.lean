/- TreeNobody (P11.5): whatever key and value: a nil tree's methods tell ErrClosed, nothing, -1 and 0, and Scan of it goes over nothing; and a tree that New gave lives. The law's call returns true. -/
import Derived.Test.YtmlibjohhgpniaaGreatDoorTr5
import Derived.Test.YtmlibjohhgpniaaGreatDoorCTab
import Derived.RangeFuncBox
import Derived.RangeFuncLeaves
import Derived.RangeFuncBound
import Derived.RangeFuncNested
import Derived.Shelf.Abstract
import Derived.Shelf.RegionOpen
import Derived.OwnWalkIn
import Derived.TacticsInMore
namespace Go.Proofs.YtmlibjohhgpniaaGreatDoor
open Go.RowKit Go.Shelf
set_option linter.unusedVariables false
attribute [local go_sem] Oper.semAt_some
theorem kept_putObj {S : Nat → Prop} (W : World) (l : Nat) (o : Obj) (hl : S l) : Kept S W (W.putObj l o) :=
  (Kept.refl S W).grown (grownBy_putObj' W l o) (fun k e _ => by cases e; exact hl)
theorem same_of_below {w W : World} (h : Below w.heap.size w W) : Same w W := ⟨h.os, h.tape, h.output, h.size, fun k hk _ => h.block k hk⟩
/-- The iterator of a nil tree's Scan goes over nothing. -/
theorem scan_none (n : Nat) (hn : 1 ≤ n) (S : Nat → Prop) (w : World) (B : Nat) (hS : ¬ S B) (hB : w.heap[B]? = some (.cells #[.pointer none] 22 (0, 0))) :
    SeqStopsK Fence.wide n Tryz.prog 64 #[.pointer (some ⟨B, 0, none⟩), .pointer (some ⟨B + 1, 0, none⟩), .pointer (some ⟨B + 2, 0, none⟩)] (fun (x : Empty) => x.elim) (Kept S) (fun ys => ys = []) (fun _ => False) 0 w := fun lp J Jx W hW hJ _ hY h0 => by
  have c0 : ∀ o, (W.alloc o).cell? ⟨B, 0, none⟩ = some (.pointer none) := fun o => blk_cell (blk_alloc ((hW.block B (blk_lt hB)).trans hB) o)
  have A := hidden (fun W' => (callsIn_wide (n := n - 1)).2 (tmade_nil W'))
  have H0 := hidden (fun o => hJ [] W (W.alloc o) none h0 (World.grownBy_alloc W o none) (fun r e => by cases e))
  clear hW hY hJ h0 hB hS
  refine callsIn_of_wp Tryz.func64 rfl trivial ?_ rfl
  simp only [Tryz.ntmps64, List.size_toArray, List.length_cons, List.length_nil, Nat.reduceAdd, Nat.reduceSub, Array.replicate_succ, Array.replicate_zero, List.push_toArray, List.append_toArray, List.nil_append, List.cons_append]
  gi_wp2_with (refine ⟨trivial, ?_⟩; gi_at_call 49; refine (A.out _).mono ?_; rintro e w1 ⟨rfl, rfl⟩)
  refine bodyPost_ret (v := .tuple #[]) (by simp [results, Tryz.results64, go_sem]) rfl ⟨⟨_, rfl⟩, .inl ⟨[], rfl, H0.out _⟩⟩
set_option maxRecDepth 100000 in
set_option maxHeartbeats 4000000 in
theorem tnobody_walk (key value : ByteArray) (w : World) (h1 : key.size ≤ 140737488351232) (h2 : value.size ≤ 140737488351232) (hT : Tab w) :
    Calls Tryz.prog 3 #[.string key, .string value] w fun e w' => e = .returned (.bool true) ∧ Same w w' := by
  have HL := hidden (fun W => (callsIn_wide (n := 5)).2 (tlives W))
  have HG := hidden (fun W => (callsIn_wide (n := 5)).2 (nil_Get key W))
  have HP := hidden (fun W => (callsIn_wide (n := 5)).2 (nil_Put key value W))
  have HDl := hidden (fun W => (callsIn_wide (n := 5)).2 (nil_Delete key W))
  have HC := hidden (fun W => (callsIn_wide (n := 5)).2 (nil_Count W))
  have HPl := hidden (fun W => (callsIn_wide (n := 5)).2 (nil_Place W))
  have HS := hidden (fun W => (callsIn_wide (n := 5)).2 (nil_Sectors W))
  have HCk := hidden (fun W => (callsIn_wide (n := 5)).2 (nil_Check W))
  have HR := hidden (fun W => (callsIn_wide (n := 5)).2 (nil_Root W))
  have HDi := hidden (fun W => (callsIn_wide (n := 5)).2 (nil_Dirty W))
  have HH := hidden (fun W => (callsIn_wide (n := 5)).2 (nil_Height W))
  have HSc := hidden (fun W => (callsIn_wide (n := 5)).2 (scan_fn none key value W))
  clear h1 h2 hT
  refine (callsIn_wide (n := 6)).1 ?_
  refine callsIn_of_wp_marks Tryz.func3 rfl trivial ?_ rfl
  simp only [Tryz.ntmps3, List.size_toArray, List.length_cons, List.length_nil, Nat.reduceAdd, Nat.reduceSub, Array.replicate_succ, Array.replicate_zero, List.push_toArray, List.append_toArray, List.nil_append, List.cons_append]
  gi_wp2_with (first
    | (refine ⟨trivial, ?_⟩; gi_at_call 7; refine (HL.out _).mono ?_; rintro e w1 ⟨rfl, q1⟩; have b1 : Hid (w1.heap[w.heap.size]? = some (.cells #[.bool false] 4 (0, 0))) := hidden (blk_kept q1 (fun h => h) (blk_new w _)); have K1 := hidden ((same_alloc w (.cells #[.bool false] 4)).trans q1); clear q1)
    | (refine ⟨trivial, ?_⟩; gi_at_call 8; refine (HG.out _).mono ?_; rintro e w2 ⟨rfl, q2⟩; have K2 := hidden (K1.out.trans q2); have b2 := hidden (blk_kept q2 (fun h => h) b1.out); clear q2 b1)
    | (refine ⟨trivial, ?_⟩; gi_at_call 9; refine (HP.out _).mono ?_; rintro e w3 ⟨rfl, q3⟩; have K3 := hidden (K2.out.trans q3); have b3 := hidden (blk_kept q3 (fun h => h) b2.out); clear q3 b2)
    | (refine ⟨trivial, ?_⟩; gi_at_call 10; refine (HDl.out _).mono ?_; rintro e w4 ⟨rfl, q4⟩; have K4 := hidden (K3.out.trans q4); have b4 := hidden (blk_kept q4 (fun h => h) b3.out); clear q4 b3)
    | (refine ⟨trivial, ?_⟩; gi_at_call 11; refine (HC.out _).mono ?_; rintro e w5 ⟨rfl, q5⟩; have K5 := hidden (K4.out.trans q5); have b5 := hidden (blk_kept q5 (fun h => h) b4.out); clear q5 b4)
    | (refine ⟨trivial, ?_⟩; gi_at_call 12; refine (HPl.out _).mono ?_; rintro e w6 ⟨rfl, q6⟩; have K6 := hidden (K5.out.trans q6); have b6 := hidden (blk_kept q6 (fun h => h) b5.out); clear q6 b5)
    | (refine ⟨trivial, ?_⟩; gi_at_call 13; refine (HS.out _).mono ?_; rintro e w7 ⟨rfl, q7⟩; have K7 := hidden (K6.out.trans q7); have b7 := hidden (blk_kept q7 (fun h => h) b6.out); clear q7 b6)
    | (refine ⟨trivial, ?_⟩; gi_at_call 14; refine (HSc.out _).mono ?_; rintro e w8 ⟨u, rfl, ⟨B, rfl, hB0, hB1, _, _, q8⟩⟩; have K8 := hidden (K7.out.trans q8); have b8 := hidden (blk_kept q8 (fun h => h) b7.out); have B8 := hidden hB1; have hlt := blk_lt hB1; clear q8 b7 hB1))
  have HB0 : Hid (Below w.heap.size w w8) := hidden (K8.out.below (Nat.le_refl _) fun _ h => h.elim)
  have by' : Boxed w8 w.heap.size 4 (.bool false) := b8.out
  have hz : w.heap.size < w8.heap.size := by'.lt
  refine wpIn_rangeFunc_ownG rfl (by decide) (gf := 64) (lb := #[.pointer (some ⟨B, 0, none⟩), .pointer (some ⟨B + 1, 0, none⟩), .pointer (some ⟨B + 2, 0, none⟩)]) rfl trivial (enters_of Tryz.func64 (by kernel_rfl) rfl)
    (scan_none 5 (by decide) (fun k => w8.heap.size ≤ k) w8 B (by omega) B8.out) (fun h k => h.trans k) (fun W l o o' hl _ _ _ => kept_putObj W l o' hl) (Below.refl _ _) (fun x => x.elim)
    (fun (pre : List Empty) W => Boxed W w.heap.size 4 (.bool false) ∧ Below w.heap.size w W)
    (fun _ _ _ => False)
    (OwnFrom.and (Own.from (fun s A B row hs hg hr => hs.kept hg (fun e => by obtain ⟨o, ho, hc⟩ := hr _ e.symm; rw [show A.heap[w.heap.size]? = _ from hs] at ho; cases ho; cases hc)) _) (ownFrom_below (Nat.le_refl _) (by omega)))
    (fun _ _ _ _ _ hs _ _ => hs)
    ⟨by', HB0.out⟩
    (fun x => x.elim) ?assign ?body ?done ?stop
  case assign =>
    intro l x
    exact x.elim
  case body =>
    rintro l pre x
    exact x.elim
  case done =>
    rintro D ys W hD rfl ⟨hv, hB⟩ hK
    have hSW : Same w W := same_of_below hB
    have HVV := hidden hv
    have HKK := hidden hK
    have HBB := hidden hB
    clear hK hSW hB hv
    gi_wp2_with (first
      | (refine ⟨trivial, ?_⟩; gi_at_call 7; refine (HL.out _).mono ?_; rintro e v1 ⟨rfl, r1⟩; have R1 := hidden r1; clear r1)
      | (refine ⟨trivial, ?_⟩; gi_at_call 15; refine (HCk.out _).mono ?_; rintro e v2 ⟨rfl, r2⟩; have R2 := hidden (R1.out.trans r2); clear r2)
      | (refine ⟨trivial, ?_⟩; gi_at_call 16; refine (HR.out _).mono ?_; rintro e v3 ⟨rfl, r3⟩; have R3 := hidden (R2.out.trans r3); clear r3)
      | (refine ⟨trivial, ?_⟩; gi_at_call 17; refine (HDi.out _).mono ?_; rintro e v4 ⟨rfl, r4⟩; have R4 := hidden (R3.out.trans r4); clear r4)
      | (refine ⟨trivial, ?_⟩; gi_at_call 18; refine (HH.out _).mono ?_; rintro e v5 ⟨rfl, r5⟩; have R5 := hidden (R4.out.trans r5); clear r5; have b3 : Boxed v5 w.heap.size 4 (.bool false) := blk_kept R5.out (fun h => h) HVV.out; have c3 := b3.cell; have f3 := b3.frozen))
    have kk : Kept (only w.heap.size) v5 (v5.setCell ⟨w.heap.size, 0, none⟩ (.bool true)) := (Kept.refl (only w.heap.size) v5).setCell (p := ⟨w.heap.size, 0, none⟩) rfl _
    have hK2 : (v5.setCell ⟨w.heap.size, 0, none⟩ (.bool true)).heap[D]? = some (.deferred (some [])) := blk_kept kk (fun e => absurd (show D = w.heap.size from e) (by omega)) (blk_kept R5.out (fun h => h) HKK.out)
    have b4 : Boxed ((v5.setCell ⟨w.heap.size, 0, none⟩ (.bool true)).putObj D (.deferred none)) w.heap.size 4 (.bool true) := (Boxed.set (.bool true) b3).kept (grownBy_putObj' _ D _) (fun e => absurd (Option.some.inj e) (by omega))
    have hc5 := b4.cell
    have hS5 : Same w ((v5.setCell ⟨w.heap.size, 0, none⟩ (.bool true)).putObj D (.deferred none)) :=
      ((Kept.setNew (Kept.trans (same_of_below HBB.out) R5.out) (Nat.le_refl _) _)).grown (grownBy_putObj' _ D _) (fun k e hk => by cases e; omega)
    refine ⟨by simp, .inl ⟨_, _, rfl, run_takeDeferred hK2, ?_⟩⟩
    refine ⟨.bool true, ?_, rfl, hS5⟩
    simp [results, Tryz.f3, go_sem, hc5]
  case stop =>
    rintro D c pre W _ _ h _
    exact h.elim
end Go.Proofs.YtmlibjohhgpniaaGreatDoor
namespace Go.Proofs.YtmlibjohhgpniaaGreatDoor.TreeNobody
open Go.ChangeShapes Go.WideShapes Go.ChangeAt Go.RowKit Go.Joins Go.ChangeMaps
set_option maxRecDepth 100000 in
theorem contract (H : Type) (enc : TypeId × Value → H) (W : World) (base : Nat) (args : Array Value) (ds gs : List (DataW H)) (before : List MemPlace)
    (hval : ∀ (j : Nat) t v, Tryz.f3.params[j]? = some t → args[j]? = some v → Value.okWide Tryz.prog W .any base t v)
    (hW : DataW.Whole enc Tryz.prog Tryz.f3.params.toList Rows.treeNobodySpec.vars false W args.toList ds gs before)
    (hsz : (DataW.weightsEach Tryz.prog (Tryz.f3.params.toList ++ (OpenSpec.ofChange Rows.treeNobodySpec).bare.plain.varTypes Tryz.prog) (ds ++ gs)).all (· ≤ reachBytes) = true)
    (hL : laidMetH Tryz.prog Rows.treeNobodyRow.laid W) :
    Calls Tryz.prog 3 args W fun e W' => ∃ v, e = .returned v ∧ Rows.treeNobodySpec.post enc Tryz.prog Tryz.f3 false true false false W args v W' := by
  have hW' := hW
  obtain ⟨p, q, hA0, hV, rfl, hfz, hnd⟩ := hW
  have hA : DataW.TrodAll enc Tryz.prog W 0 (fun _ => true) true Tryz.f3.params.toList args.toList ds p := hA0
  rw [Tryz.params3] at hA hval hsz
  obtain ⟨v0, vs0, d0, ds0, p0, q0, hargs, rfl, rfl, h0, r0⟩ := trodAll_cons hA
  obtain ⟨v1, vs1, d1, ds1, p1, q1, rfl, rfl, rfl, h1, r1⟩ := trodAll_cons r0
  obtain ⟨rfl, rfl, rfl⟩ := trodAll_nil r1
  obtain rfl : args = #[v0, v1] := by cases args; simp_all
  obtain ⟨rfl, rfl⟩ := trodVars_none hV
  obtain ⟨key, rfl, rfl, rfl, _⟩ := open_string Tryz.underlying9 (hval 0 9 v0 rfl rfl) h0
  obtain ⟨value, rfl, rfl, rfl, _⟩ := open_string Tryz.underlying9 (hval 1 9 v1 rfl rfl) h1
  have l_key : key.size ≤ 140737488351232 := by
    have h2 := sized_string hsz (j := 0) (t := 9) (bytes := key.data.toList) rfl rfl
    rw [size_list] at h2
    unfold reachBytes at h2
    omega
  have l_value : value.size ≤ 140737488351232 := by
    have h2 := sized_string hsz (j := 1) (t := 9) (bytes := value.data.toList) rfl rfl
    rw [size_list] at h2
    unfold reachBytes at h2
    omega
  refine (tnobody_walk key value W l_key l_value (tab_laid hL)).mono fun e W' ⟨he, hg⟩ => ?_
  subst he
  exact ⟨_, rfl, law_post laidOut (by rw [Tryz.params3]; decide +kernel) rfl hW' rfl Tryz.underlying4 ⟨rfl, rfl, rfl⟩ (hg.below (Nat.le_refl _) fun _ h => h.elim)⟩
set_option maxRecDepth 100000 in
theorem lifted (os : Os) (started : os.Started) (H : Type) (enc : TypeId × Value → H) (F : Stop.Interp) :
    ReturnsInHanded {} Tryz.checked os 3 .any ((OpenSpec.ofChange Rows.treeNobodySpec).preRow enc Tryz.prog Tryz.f3 Rows.treeNobodyRow.domain false Rows.treeNobodyRow.laid) (((OpenSpec.ofChange Rows.treeNobodySpec).at F).post enc Tryz.prog Tryz.f3 false true false false) := by
  refine returnsInHanded_of_row (C := Tryz.checked) (s := OpenSpec.ofChange Rows.treeNobodySpec) own started (by kernel_rfl) Tryz.func3
    (witness_row_at (enc := enc) (C := Tryz.checked) false ({ World.holding Tryz.prog os ⟨#[], #[], []⟩ with heap := (World.holding Tryz.prog os ⟨#[], #[], []⟩).heap.modify tabBlock fun | .cells _ t frozen => .cells (tabInts.map (Value.int .u32)).toArray t frozen | o => o }) #[.string ⟨#[]⟩, .string ⟨#[]⟩] rfl (by kernel_rfl) (by kernel_rfl) (by kernel_rfl)
      (OpenSpec.preRow_of_cond (x := ([.lit (.string []), .lit (.string [])], [], [])) 8 (by kernel_rfl) (by kernel_rfl) (fun k hk => by cases hk) (by kernel_rfl) (laidMet_of_run' 8 (by kernel_rfl) (by kernel_rfl)))) ?_
  intro W base args ds gs before hval hW _ _ hsz hL _ _
  exact contract H enc W base args ds gs before hval hW hsz hL
theorem said : Rows.TreeNobodySaid :=
  OpenClaim.holds_of_cond 3 Tryz.f3 rfl rfl rfl rfl rfl rfl rfl ⟨rfl, rfl, rfl, rfl, rfl⟩ rfl rfl rfl rfl rfl (by kernel_rfl) Tryz.func3 (by kernel_rfl)
    (of_decide_eq_true (by kernel_rfl)) (by unfold Func.isWrapper; first | (rw [if_pos (by decide +kernel)]; kernel_rfl) | (rw [if_neg (by decide +kernel)]; exact ⟨rfl, rfl⟩))
    (fun os started H enc _ F => by rw [OpenClaim.pre_eq_preRow]; exact lifted os started H enc F)
theorem plain (f : FuncId) (fn : Func) (hf : Tryz.pinned.checked.prog.funcNamed Rows.treeNobodyRow.func = some f) (hfn : Tryz.pinned.checked.prog.funcs[f]? = some fn) :
    false = Tryz.pinned.checked.prog.looks [] ∧ ∀ (j : Nat) t, fn.params[j]? = some t → Tryz.pinned.checked.prog.wantsStandIn t = false := by
  obtain rfl : f = 3 := Option.some.inj ((show Tryz.prog.funcNamed Rows.treeNobodyRow.func = some 3 by kernel_rfl).symm.trans hf) |>.symm
  obtain rfl : fn = Tryz.f3 := (Option.some.inj (Tryz.func3.symm.trans hfn)).symm
  refine ⟨by kernel_rfl, fun j t ht => ?_⟩
  rw [Tryz.params3] at ht
  have hm : t ∈ [9, 9] := by simpa using Array.mem_of_getElem? ht
  have hall : [9, 9].all (fun t => !Tryz.prog.wantsStandIn t) = true := by kernel_rfl
  have h1 := List.all_eq_true.1 hall t hm
  have h2 : Tryz.prog.wantsStandIn t = false := by simpa using h1
  exact h2
theorem card : Rows.TreeNobodyCardSaid :=
  Claim7.holds_tied_plain_at .later [] _ _ _ _ said (fun _ h => by cases h) (by kernel_rfl) (fun _ h => by cases h) treeNobody_row_tie rfl ⟨rfl, rfl⟩ (by kernel_rfl) rfl plain (by kernel_rfl)
end Go.Proofs.YtmlibjohhgpniaaGreatDoor.TreeNobody
namespace Go.Proofs.YtmlibjohhgpniaaGreatDoor
theorem treeNobody_card : Rows.TreeNobodyCardSaid := TreeNobody.card
end Go.Proofs.YtmlibjohhgpniaaGreatDoor
