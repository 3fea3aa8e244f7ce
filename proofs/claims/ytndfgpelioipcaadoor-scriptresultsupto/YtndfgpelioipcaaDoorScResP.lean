/- ScriptResults: of every operation and result (the bounded form) script.PrintResult tells what the document tells. -/
import Derived.Test.YtndfgpelioipcaaDoorScRO
import Derived.Test.YtndfgpelioipcaaDoorSc14
import Derived.Test.YtndfgpelioipcaaDoorSc23
namespace Go.Proofs.YtndfgpelioipcaaDoor
open Go.RowKit
set_option linter.unusedVariables false
set_option linter.unusedSimpArgs false
theorem i39 : (Tryd.prog.info? 39).map (·.size) = some 9 := by kernel_rfl
theorem ld_res {w : World} {g : Nat} {r : ResR} {a : Option Addr} {n c : Nat} (h : w.heap[g]? = some (.cells (r.cs a n c) 39 (0, 0))) : (Instr.loadAt 39 (.pointer (some ⟨g, 0, none⟩))).run Tryd.prog w = .ok (.agg (r.cs a n c)) w := ld_row h Tryd.underlying39 rfl 9 i39 rfl
set_option maxHeartbeats 1000000 in
set_option maxRecDepth 100000 in
theorem results_walk (o : OpR) (r : ResR) (a : Option Addr) (n c : Nat) (w : World) (ho : I64 o.kd ∧ I64 o.ha ∧ I64 o.of ∧ I64 o.nn ∧ I64 o.fl) (row : Row w (.slice a n c) (TS (r.na.map BA))) (hi : I64 r.er ∧ I64 r.hd ∧ I64 r.nn ∧ I64 r.sn ∧ I64 r.ss ∧ I64 r.sl) (hb : (o.pa.length + o.ot.length + o.da.length) + (r.da.length + wsum r.na) ≤ 1048576) (T : Tb w) : Calls Tryd.prog 7 #[.agg o.cs, .agg (r.cs a n c)] w fun e w' => e = .returned (.bool true) ∧ Same w w' := by
  have hmx : Tryd.prog.follows .mixedOrders = true := by kernel_rfl
  have hOk : r.Ok := ⟨hi.1, hi.2.1, hi.2.2.1, hi.2.2.2.1, hi.2.2.2.2.1, hi.2.2.2.2.2, by omega, by omega⟩
  have HA := hidden (fun W (k : Same w W) => awake_any W (T.same k))
  have HP := hidden (fun W (k : Same w W) => printResult_any o r hOk a n c W (T.same k) (row.same k))
  have HD := hidden (fun W (k : Same w W) => printResultD_any o r hOk a n c W (row.same k))
  obtain ⟨Wa, hWa⟩ : ∃ Wa, Wa = (w.alloc (.cells o.cs 28)).alloc (.cells (r.cs a n c) 39) := ⟨_, rfl⟩
  have hSa : Same w Wa := by rw [hWa]; exact (same_alloc _ _).alloc _
  have hOa : OpB Wa w.heap.size o := by rw [hWa]; exact blk_alloc (blk_new w _) _
  have hRa : Wa.heap[w.heap.size + 1]? = some (.cells (r.cs a n c) 39 (0, 0)) := by
    have h := blk_new (w.alloc (.cells o.cs 28)) (.cells (r.cs a n c) 39)
    rw [show (w.alloc (.cells o.cs 28)).heap.size = w.heap.size + 1 by simp] at h
    rw [hWa]
    exact h
  have HSa := hidden hSa
  have HLo := hidden (fun W (k : SameW Wa W) => ld_op (opb_kept hOa k (fun h => h)))
  have HLr := hidden (fun W (k : SameW Wa W) => ld_res (blk_kept k (fun h => h) hRa))
  clear T row hi hb hOk hSa hOa hRa ho
  generalize BA (resL o.kd r) = z at *
  go_enter Tryd.func7, Tryd.ntmps7
  go_wp2
  rw [← hWa]
  clear hWa
  refine reg_same hmx (by kernel_rfl) ?_
  refine q_call (by rfl) 11 #[] (.bool true) (fun W => by go_simp; try rfl) (fun W hC => (HA.out W (HSa.out.trans hC)).mono fun _ w' ⟨h1, h2⟩ => ⟨h1, Kept.trans hC h2⟩) ?_; (try go_simp)
  refine q_val (by rfl) (.bool true) (fun W _ => by go_simp; try rfl) ?_; (try go_simp)
  refine q_val (by rfl) (.agg o.cs) (fun W hC => y_load rfl rfl (HLo.out W hC)) ?_; (try go_simp)
  refine q_val (by rfl) (.agg (r.cs a n c)) (fun W hC => y_load rfl rfl (HLr.out W hC)) ?_; (try go_simp)
  refine q_call (by rfl) 18 #[.agg o.cs, .agg (r.cs a n c)] (.string z) (fun W => by go_simp; try rfl) (fun W hC => (HP.out W (HSa.out.trans hC)).mono fun _ w' ⟨h1, h2⟩ => ⟨h1, Kept.trans hC h2⟩) ?_; (try go_simp)
  refine q_val (by rfl) (.agg o.cs) (fun W hC => y_load rfl rfl (HLo.out W hC)) ?_; (try go_simp)
  refine q_val (by rfl) (.agg (r.cs a n c)) (fun W hC => y_load rfl rfl (HLr.out W hC)) ?_; (try go_simp)
  refine q_call (by rfl) 19 #[.agg o.cs, .agg (r.cs a n c)] (.string z) (fun W => by go_simp; try rfl) (fun W hC => (HD.out W (HSa.out.trans hC)).mono fun _ w' ⟨h1, h2⟩ => ⟨h1, Kept.trans hC h2⟩) ?_; (try go_simp)
  refine q_val (by rfl) (.bool true) (fun W _ => by go_simp; try rfl) ?_; (try go_simp)
  refine q_val (by rfl) (.bool true) (fun W _ => by go_simp; try rfl) ?_; (try go_simp)
  refine q_val (by rfl) (.bool true) (fun W _ => by go_simp; try rfl) ?_; (try go_simp)
  refine wpQuiet_nil ?_
  intro w4 k4
  have K4 := hidden k4
  clear k4
  go_wp2
  go_returns
  exact ⟨rfl, HSa.out.trans K4.out⟩
end Go.Proofs.YtndfgpelioipcaaDoor
namespace Go.Proofs.YtndfgpelioipcaaDoor.ScriptResults
open Go.ChangeShapes Go.WideShapes Go.ChangeAt Go.RowKit Go.Joins Go.ChangeMaps
set_option maxRecDepth 100000 in
theorem contract (H : Type) (enc : TypeId × Value → H) (W : World) (base : Nat) (args : Array Value) (ds gs : List (DataW H)) (before : List MemPlace)
    (hval : ∀ (j : Nat) t v, Tryd.f7.params[j]? = some t → args[j]? = some v → Value.okWide Tryd.prog W .any base t v)
    (hW : DataW.Whole enc Tryd.prog Tryd.f7.params.toList Rows.scriptResultsSpec.vars false W args.toList ds gs before)
    (hsz : (DataW.weightsEach Tryd.prog (Tryd.f7.params.toList ++ (OpenSpec.ofChange Rows.scriptResultsSpec).bare.plain.varTypes Tryd.prog) (ds ++ gs)).all (· ≤ reachBytes) = true)
    (hk : Rows.uptoSmall H (ds ++ gs) = true)
    (hL : laidMetH Tryd.prog Rows.scriptResultsUptoRow.laid W) :
    Calls Tryd.prog 7 args W fun e W' => ∃ v, e = .returned v ∧ Rows.scriptResultsSpec.post enc Tryd.prog Tryd.f7 false true false false W args v W' := by
  have hW' := hW
  obtain ⟨p, q, hA0, hV, rfl, hfz, hnd⟩ := hW
  have hA : DataW.TrodAll enc Tryd.prog W 0 (fun _ => true) true Tryd.f7.params.toList args.toList ds p := hA0
  rw [Tryd.params7] at hA hval hsz
  obtain ⟨v0, vs0, d0, ds0, p0, q0, hargs, rfl, rfl, h0, r0⟩ := trodAll_cons hA
  obtain ⟨v1, vs1, d1, ds1, p1, q1, rfl, rfl, rfl, h1, r1⟩ := trodAll_cons r0
  obtain ⟨rfl, rfl, rfl⟩ := trodAll_nil r1
  obtain rfl : args = #[v0, v1] := by cases args; simp_all
  obtain ⟨rfl, rfl⟩ := trodVars_none hV
  obtain ⟨o_o, rfl, i_o, bk_o⟩ := op_openU (hval 0 28 v0 rfl rfl) h0
  obtain ⟨r_r, a_r, n_r, c_r, rfl, rw_r, i_r, bk_r⟩ := res_openU (hval 1 39 v1 rfl rfl) h1
  have hbk : (o_o.pa.length + o_o.ot.length + o_o.da.length) + (r_r.da.length + wsum r_r.na) ≤ 1048576 := by
    have h9 := of_decide_eq_true hk
    simp only [List.append_nil, Rows.uptoBulkAll] at h9
    omega
  refine (results_walk o_o r_r a_r n_r c_r W i_o rw_r i_r hbk (tab_laid hL)).mono fun e W' ⟨he, hg⟩ => ?_
  subst he
  exact ⟨_, rfl, law_post laidOut (by rw [Tryd.params7]; decide +kernel) rfl hW' rfl Tryd.underlying4 ⟨rfl, rfl, rfl⟩ (hg.below (Nat.le_refl _) fun _ h => h.elim)⟩
set_option maxRecDepth 100000 in
theorem lifted (os : Os) (started : os.Started) (H : Type) (enc : TypeId × Value → H) (F : Stop.Interp) :
    ReturnsInHanded {} Tryd.checked os 7 .any ((Rows.OpenSpec.upto Rows.scriptResultsSpec).preRow enc Tryd.prog Tryd.f7 Rows.scriptResultsUptoRow.domain false Rows.scriptResultsUptoRow.laid) (((Rows.OpenSpec.upto Rows.scriptResultsSpec).at F).post enc Tryd.prog Tryd.f7 false true false false) := by
  refine returnsInHanded_of_row (C := Tryd.checked) (s := Rows.OpenSpec.upto Rows.scriptResultsSpec) own started (by kernel_rfl) Tryd.func7
    (witness_row_atRef (enc := enc) (C := Tryd.checked) false (laidWorld (World.holding Tryd.prog os ⟨#[.cells #[.string synS] 121, .cells #[.string rngS] 121], #[], []⟩) (World.holding Tryd.prog os ⟨#[], #[], []⟩).heap.size) #[.agg #[.int .i64 0, .string ⟨#[]⟩, .string ⟨#[]⟩, .int .i64 0, .int .i64 0, .int .i64 0, .int .i64 0, .string ⟨#[]⟩], .agg #[.int .i64 0, .int .i64 0, .int .i64 0, .string ⟨#[]⟩, .int .i64 0, .bool false, .int .i64 0, .int .i64 0, .slice none 0 0]] rfl (by kernel_rfl) (by kernel_rfl) (by kernel_rfl)
      (OpenSpec.preRow_of_cond (x := ([.agg [.lit (.int .i64 0), .lit (.string []), .lit (.string []), .lit (.int .i64 0), .lit (.int .i64 0), .lit (.int .i64 0), .lit (.int .i64 0), .lit (.string [])], .agg [.lit (.int .i64 0), .lit (.int .i64 0), .lit (.int .i64 0), .lit (.string []), .agg [.lit (.int .i64 0), .lit (.bool false), .lit (.int .i64 0), .lit (.int .i64 0)], .nil]], [], [])) 8 (by kernel_rfl) (by kernel_rfl) (fun k hk => by cases hk; kernel_rfl) (by kernel_rfl) (laidMet_of_run' 8 (by kernel_rfl) (by kernel_rfl)))) ?_
  intro W base args ds gs before hval hW _ hcond hsz hL _ _
  exact contract H enc W base args ds gs before hval hW hsz (hcond _ rfl) hL
theorem said : Rows.ScriptResultsUptoSaid :=
  OpenClaim.holds_of_cond 7 Tryd.f7 rfl rfl rfl rfl rfl rfl rfl ⟨rfl, rfl, rfl, rfl, rfl⟩ rfl rfl rfl rfl rfl (by kernel_rfl) Tryd.func7 (by kernel_rfl)
    (of_decide_eq_true (by kernel_rfl)) (by unfold Func.isWrapper; first | (rw [if_pos (by decide +kernel)]; kernel_rfl) | (rw [if_neg (by decide +kernel)]; exact ⟨rfl, rfl⟩))
    (fun os started H enc _ F => by rw [OpenClaim.pre_eq_preRow]; exact lifted os started H enc F)
theorem plain (f : FuncId) (fn : Func) (hf : Tryd.pinned.checked.prog.funcNamed Rows.scriptResultsUptoRow.func = some f) (hfn : Tryd.pinned.checked.prog.funcs[f]? = some fn) :
    true = Tryd.pinned.checked.prog.looks [] ∧ ∀ (j : Nat) t, fn.params[j]? = some t → Tryd.pinned.checked.prog.wantsStandIn t = false := by
  obtain rfl : f = 7 := Option.some.inj ((show Tryd.prog.funcNamed Rows.scriptResultsUptoRow.func = some 7 by kernel_rfl).symm.trans hf) |>.symm
  obtain rfl : fn = Tryd.f7 := (Option.some.inj (Tryd.func7.symm.trans hfn)).symm
  refine ⟨by kernel_rfl, fun j t ht => ?_⟩
  rw [Tryd.params7] at ht
  have hm : t ∈ [28, 39] := by simpa using Array.mem_of_getElem? ht
  have hall : [28, 39].all (fun t => !Tryd.prog.wantsStandIn t) = true := by kernel_rfl
  have h1 := List.all_eq_true.1 hall t hm
  have h2 : Tryd.prog.wantsStandIn t = false := by simpa using h1
  exact h2
theorem card : Rows.ScriptResultsUptoCardSaid :=
  Claim7.holds_tied_plain_at .later [] _ _ _ _ said (fun _ h => by cases h) (by kernel_rfl) (fun _ h => by cases h) scriptResultsUpto_row_tie rfl ⟨rfl, rfl⟩ (by kernel_rfl) rfl plain (by kernel_rfl)
end Go.Proofs.YtndfgpelioipcaaDoor.ScriptResults
namespace Go.Proofs.YtndfgpelioipcaaDoor
theorem scriptResultsUpto_card : Rows.ScriptResultsUptoCardSaid := ScriptResults.card
end Go.Proofs.YtndfgpelioipcaaDoor
