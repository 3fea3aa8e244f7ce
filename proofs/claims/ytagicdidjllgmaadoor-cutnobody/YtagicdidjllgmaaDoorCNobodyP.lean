/-
  CutNobody (P5.2): whatever the bytes: Cuts of a shape that may not be goes over nothing, and a nil Cutter tells nothing: the law's call returns true and leaves its argument as it was.
  Condition: the library's tables deBruijn32tab and deBruijn64tab hold what the program's text lays (the card ties them).
-/
import Derived.Test.YtagicdidjllgmaaDoorCutK
namespace Go.Proofs.YtagicdidjllgmaaDoor
open Go.RowKit Go.Shelf
set_option linter.unusedVariables false
attribute [local go_sem] Oper.semAt_some

set_option maxHeartbeats 400000 in
theorem made_nil (w : World) : Calls Tryd.prog 57 #[.pointer none] w fun e w' => e = .returned (.bool false) ∧ w = w' := by
  go_enter Tryd.func57, Tryd.ntmps57
  go_wp2
  go_returns
  exact ⟨rfl, rfl⟩
set_option maxHeartbeats 400000 in
theorem write_nil (v : Value) (w : World) : Calls Tryd.prog 25 #[.pointer none, v] w fun e w' => e = .returned (.slice none 0 0) ∧ w = w' := by
  go_enter Tryd.func25, Tryd.ntmps25
  go_wp2_with (go_at_call 57; refine (made_nil _).mono ?_; rintro e w1 ⟨rfl, rfl⟩)
  go_returns
  exact ⟨rfl, rfl⟩
set_option maxHeartbeats 400000 in
theorem end_nil (w : World) : Calls Tryd.prog 27 #[.pointer none] w fun e w' => e = .returned (.slice none 0 0) ∧ w = w' := by
  go_enter Tryd.func27, Tryd.ntmps27
  go_wp2_with (go_at_call 57; refine (made_nil _).mono ?_; rintro e w1 ⟨rfl, rfl⟩)
  go_returns
  exact ⟨rfl, rfl⟩
/-- The iterator that goes over nothing. -/
theorem none_stops (n : Nat) (S : Nat → Prop) (w : World) : SeqStopsK Fence.wide n Tryd.prog 55 #[] encP (Kept S) (fun ys => ys = []) (fun _ => False) 0 w := fun l J Jx W hW hJ _ hY h0 => by
  refine callsIn_of_wp Tryd.func55 rfl trivial ?_ rfl
  simp only [Tryd.ntmps55, List.size_toArray, List.length_cons, List.length_nil, Nat.reduceAdd, Nat.reduceSub, Array.replicate_succ, Array.replicate_zero, List.push_toArray, List.append_toArray, List.nil_append, List.cons_append]
  gi_wp2
  go_end0
  exact ⟨⟨_, rfl⟩, .inl ⟨[], rfl, h0⟩⟩
set_option maxRecDepth 100000 in
set_option maxHeartbeats 4000000 in
theorem nobody_walk (v : Value) (l : List UInt8) (w : World) (hb : Byt w v l) (hl : l.length ≤ 140737488351232) (hT : Tab w) :
    Calls Tryd.prog 7 #[v] w fun e w' => e = .returned (.bool true) ∧ Same w w' := by
  have HT := hidden hT
  have HL := hidden (fun w h => (callsIn_wide (n := 5)).2 (lives_any w h))
  have HC := hidden (fun w => (callsIn_wide (n := 5)).2 (cuts_no not_zero 0 v w))
  have HW := hidden (fun w => (callsIn_wide (n := 5)).2 (write_nil v w))
  have HE := hidden (fun w => (callsIn_wide (n := 5)).2 (end_nil w))
  clear hT hb
  refine (callsIn_wide (n := 6)).1 ?_
  refine callsIn_of_wp_marks Tryd.func7 rfl trivial ?_ rfl
  simp only [Tryd.ntmps7, List.size_toArray, List.length_cons, List.length_nil, Nat.reduceAdd, Nat.reduceSub, Array.replicate_succ, Array.replicate_zero, List.push_toArray, List.append_toArray, List.nil_append, List.cons_append]
  gi_wp2_with (first
    | (refine ⟨trivial, ?_⟩; gi_at_call 17; refine (HL.out _ (HT.out.same (same_alloc _ _))).mono ?_; rintro e w1 ⟨rfl, k1⟩; have bx : Boxed w1 w.heap.size 4 (.bool false) := blk_kept k1 (fun h => h) (blk_new w _); have K1 : Same w w1 := Kept.trans (same_alloc _ _) k1; clear k1)
    | (refine ⟨trivial, ?_⟩; gi_at_call 23; refine (HC.out _).mono ?_; rintro e w2 ⟨rfl, k2⟩; have by' : Boxed w2 w.heap.size 4 (.bool false) := blk_kept k2 (fun h => h) bx; have K2 : Same w w2 := Kept.trans K1 k2; clear K1 k2 bx))
  have HB0 : Hid (Below w.heap.size w w2) := hidden (K2.below (Nat.le_refl _) fun _ h => h.elim)
  have hz : w.heap.size < w2.heap.size := by'.lt
  have KK2 := hidden K2
  clear K2
  refine wpIn_rangeFunc_ownG rfl (by decide) (gf := 55) (lb := #[]) rfl trivial (enters_of Tryd.func55 (by kernel_rfl) rfl)
    (none_stops 5 (fun k => w2.heap.size ≤ k) w2) (fun h k => h.trans k) (fun W l o o' hl _ _ _ => kept_putObj W l o' hl) (Below.refl _ _) (fun _ => rfl)
    (fun (pre : List (Nat × Nat)) W => Boxed W w.heap.size 4 (.bool false) ∧ Below w.heap.size w W)
    (fun _ _ _ => False)
    (OwnFrom.and (Own.from (fun s A B row hs hg hr => hs.kept hg (fun e => by obtain ⟨o, ho, hc⟩ := hr _ e.symm; rw [show A.heap[w.heap.size]? = _ from hs] at ho; cases ho; cases hc)) _) (ownFrom_below (Nat.le_refl _) (by omega)))
    (fun _ _ _ _ _ hs _ _ => hs)
    ⟨by', HB0.out⟩
    (fun x => { tmps := #[v, undef, .pointer (some ⟨w.heap.size, 0, none⟩), .pointer none, .bool true, .bool false, .agg #[.int .i64 0, .int .i64 0, .int .i64 0, .int .u64 0], v, .func (.func 55) #[] #[], .int .i64 x.1, .int .i64 x.2, undef, undef, undef, undef, undef, undef, undef, undef, undef, undef, undef, undef, undef, undef], defers := [] }) ?assign ?body ?done ?stop
  case assign =>
    intro l x W K hK
    gi_wp2
    simpa [encP] using hK
  case body =>
    rintro l pre x W _ hlt2
    exact absurd hlt2 (by omega)
  case done =>
    rintro D ys W hD rfl ⟨hv, hB⟩ hK
    have hSW : Same w W := same_of_below hB
    have HTW := hidden (HT.out.same hSW)
    have HVV := hidden hv
    have HKK := hidden hK
    have HBB := hidden hB
    clear hK hSW hB hv
    gi_wp2_with (first
      | (refine ⟨trivial, ?_⟩; gi_at_call 17; refine (HL.out _ HTW.out).mono ?_; rintro e w3 ⟨rfl, k3⟩)
      | (refine ⟨trivial, ?_⟩; gi_at_call 25; refine (HW.out _).mono ?_; rintro e w4 ⟨rfl, rfl⟩)
      | (refine ⟨trivial, ?_⟩; gi_at_call 27; refine (HE.out _).mono ?_; rintro e w5 ⟨rfl, rfl⟩; have b3 : Boxed w3 w.heap.size 4 (.bool false) := blk_kept k3 (fun h => h) HVV.out; have c3 := b3.cell; have f3 := b3.frozen))
    have kk : Kept (only w.heap.size) w3 (w3.setCell ⟨w.heap.size, 0, none⟩ (.bool true)) := (Kept.refl (only w.heap.size) w3).setCell (p := ⟨w.heap.size, 0, none⟩) rfl _
    have hK2 : (w3.setCell ⟨w.heap.size, 0, none⟩ (.bool true)).heap[D]? = some (.deferred (some [])) := blk_kept kk (fun e => absurd (show D = w.heap.size from e) (by omega)) (blk_kept k3 (fun h => h) HKK.out)
    have b4 : Boxed ((w3.setCell ⟨w.heap.size, 0, none⟩ (.bool true)).putObj D (.deferred none)) w.heap.size 4 (.bool true) := (Boxed.set (.bool true) b3).kept (grownBy_putObj' _ D _) (fun e => absurd (Option.some.inj e) (by omega))
    have hc5 := b4.cell
    have hS5 : Same w ((w3.setCell ⟨w.heap.size, 0, none⟩ (.bool true)).putObj D (.deferred none)) :=
      ((Kept.setNew (Kept.trans (same_of_below HBB.out) k3) (Nat.le_refl _) _)).grown (grownBy_putObj' _ D _) (fun k e hk => by cases e; omega)
    refine ⟨by simp, .inl ⟨_, _, rfl, run_takeDeferred hK2, ?_⟩⟩
    refine ⟨.bool true, ?_, rfl, hS5⟩
    simp [results, Tryd.f7, go_sem, hc5]
  case stop =>
    rintro D c pre W _ _ h _
    exact h.elim
end Go.Proofs.YtagicdidjllgmaaDoor
namespace Go.Proofs.YtagicdidjllgmaaDoor.CutNobody
open Go.ChangeShapes Go.WideShapes Go.ChangeAt Go.RowKit Go.Joins Go.ChangeMaps
set_option maxRecDepth 100000 in
theorem contract (H : Type) (enc : TypeId × Value → H) (W : World) (base : Nat) (args : Array Value) (ds gs : List (DataW H)) (before : List MemPlace)
    (hval : ∀ (j : Nat) t v, Tryd.f7.params[j]? = some t → args[j]? = some v → Value.okWide Tryd.prog W .any base t v)
    (hW : DataW.Whole enc Tryd.prog Tryd.f7.params.toList Rows.cutNobodySpec.vars false W args.toList ds gs before)
    (hsz : (DataW.weightsEach Tryd.prog (Tryd.f7.params.toList ++ (OpenSpec.ofChange Rows.cutNobodySpec).bare.plain.varTypes Tryd.prog) (ds ++ gs)).all (· ≤ reachBytes) = true)
    (hL : laidMetH Tryd.prog Rows.cutNobodyRow.laid W) :
    Calls Tryd.prog 7 args W fun e W' => ∃ v, e = .returned v ∧ Rows.cutNobodySpec.post enc Tryd.prog Tryd.f7 false true false false W args v W' := by
  have hW' := hW
  obtain ⟨p, q, hA0, hV, rfl, hfz, hnd⟩ := hW
  have hA : DataW.TrodAll enc Tryd.prog W 0 (fun _ => true) true Tryd.f7.params.toList args.toList ds p := hA0
  rw [Tryd.params7] at hA hval hsz
  obtain ⟨v0, vs0, d0, ds0, p0, q0, hargs, rfl, rfl, h0, r0⟩ := trodAll_cons hA
  obtain ⟨rfl, rfl, rfl⟩ := trodAll_nil r0
  obtain rfl : args = #[v0] := by cases args; simp_all
  obtain ⟨rfl, rfl⟩ := trodVars_none hV
  obtain ⟨l_b, in_b, sz_b⟩ := bytes_open (hval 0 25 v0 rfl rfl) h0
  refine (nobody_walk v0 l_b W in_b (sz_b _ _ 0 hsz rfl rfl) (tab_laid hL)).mono fun e W' ⟨he, hg⟩ => ?_
  subst he
  exact ⟨_, rfl, law_post laidOut (by rw [Tryd.params7]; decide +kernel) rfl hW' rfl Tryd.underlying4 ⟨rfl, rfl, rfl⟩ (hg.below (Nat.le_refl _) fun _ h => h.elim)⟩
set_option maxRecDepth 100000 in
theorem lifted (os : Os) (started : os.Started) (H : Type) (enc : TypeId × Value → H) (F : Stop.Interp) :
    ReturnsInHanded {} Tryd.checked os 7 .any ((OpenSpec.ofChange Rows.cutNobodySpec).preRow enc Tryd.prog Tryd.f7 Rows.cutNobodyRow.domain false Rows.cutNobodyRow.laid) (((OpenSpec.ofChange Rows.cutNobodySpec).at F).post enc Tryd.prog Tryd.f7 false true false false) := by
  refine returnsInHanded_of_row (C := Tryd.checked) (s := OpenSpec.ofChange Rows.cutNobodySpec) own started (by kernel_rfl) Tryd.func7
    (witness_row_at (enc := enc) (C := Tryd.checked) false (tabWorld (World.holding Tryd.prog os ⟨#[], #[], []⟩)) #[.slice none 0 0] rfl (by kernel_rfl) (by kernel_rfl) (by kernel_rfl)
      (OpenSpec.preRow_of_cond (x := ([.nil], [], [])) 8 (by kernel_rfl) (by kernel_rfl) (fun k hk => by cases hk) (by kernel_rfl) (laidMet_of_run' 8 (by kernel_rfl) (by kernel_rfl)))) ?_
  intro W base args ds gs before hval hW _ _ hsz hL _ _
  exact contract H enc W base args ds gs before hval hW hsz hL
theorem said : Rows.CutNobodySaid :=
  OpenClaim.holds_of_cond 7 Tryd.f7 rfl rfl rfl rfl rfl rfl rfl ⟨rfl, rfl, rfl, rfl, rfl⟩ rfl rfl rfl rfl rfl (by kernel_rfl) Tryd.func7 (by kernel_rfl)
    (of_decide_eq_true (by kernel_rfl)) (by unfold Func.isWrapper; first | (rw [if_pos (by decide +kernel)]; kernel_rfl) | (rw [if_neg (by decide +kernel)]; exact ⟨rfl, rfl⟩))
    (fun os started H enc _ F => by rw [OpenClaim.pre_eq_preRow]; exact lifted os started H enc F)
theorem plain (f : FuncId) (fn : Func) (hf : Tryd.pinned.checked.prog.funcNamed Rows.cutNobodyRow.func = some f) (hfn : Tryd.pinned.checked.prog.funcs[f]? = some fn) :
    false = Tryd.pinned.checked.prog.looks [] ∧ ∀ (j : Nat) t, fn.params[j]? = some t → Tryd.pinned.checked.prog.wantsStandIn t = false := by
  obtain rfl : f = 7 := Option.some.inj ((show Tryd.prog.funcNamed Rows.cutNobodyRow.func = some 7 by kernel_rfl).symm.trans hf) |>.symm
  obtain rfl : fn = Tryd.f7 := (Option.some.inj (Tryd.func7.symm.trans hfn)).symm
  refine ⟨by kernel_rfl, fun j t ht => ?_⟩
  rw [Tryd.params7] at ht
  have hm : t ∈ [25] := by simpa using Array.mem_of_getElem? ht
  have hall : [25].all (fun t => !Tryd.prog.wantsStandIn t) = true := by kernel_rfl
  have h1 := List.all_eq_true.1 hall t hm
  have h2 : Tryd.prog.wantsStandIn t = false := by simpa using h1
  exact h2
theorem card : Rows.CutNobodyCardSaid :=
  Claim7.holds_tied_plain_at .later [] _ _ _ _ said (fun _ h => by cases h) (by kernel_rfl) (fun _ h => by cases h) cutNobody_row_tie rfl ⟨rfl, rfl⟩ (by kernel_rfl) rfl plain (by kernel_rfl)
end Go.Proofs.YtagicdidjllgmaaDoor.CutNobody
namespace Go.Proofs.YtagicdidjllgmaaDoor
theorem cutNobody_card : Rows.CutNobodyCardSaid := CutNobody.card
end Go.Proofs.YtagicdidjllgmaaDoor
