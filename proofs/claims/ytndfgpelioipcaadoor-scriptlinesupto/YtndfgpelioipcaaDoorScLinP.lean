/- ScriptLines: of every line (the bounded form) script.ParseOp tells what the document tells, and PrintOp gives back the line of an operation. -/
import Derived.Test.YtndfgpelioipcaaDoorScK
import Derived.Test.YtndfgpelioipcaaDoorSc14
import Derived.Test.YtndfgpelioipcaaDoorSc20
namespace Go.Proofs.YtndfgpelioipcaaDoor
open Go.RowKit
set_option linter.unusedVariables false
set_option linter.unusedSimpArgs false
theorem takD_fit {o o2 : OpR} {N : Nat} {c : UInt8} {x : List UInt8} (h : o.Fit N) (hx : x.length ≤ N) (ht : o.takD c x = some o2) : o2.Fit N := by
  unfold OpR.takD at ht
  split at ht
  · obtain ⟨t, hu, rfl⟩ := Option.map_eq_some_iff.1 ht
    exact h.setT c (by have := unq_len hu; omega)
  · split at ht
    · obtain rfl := Option.some.inj ht
      exact h.setN c (rdN_i64 x)
    · cases ht
theorem psD_fit : ∀ (L : List UInt8) (xs : List (List UInt8)) (o o2 : OpR) (N : Nat), o.Fit N → (∀ x ∈ xs, x.length ≤ N) → psD o L xs = some o2 → o2.Fit N
  | [], _, o, o2, N, h, _, e => by simp only [psD, Option.some.injEq] at e; exact e ▸ h
  | _ :: _, [], _, _, _, _, _, e => by simp [psD] at e
  | c :: r, x :: xs, o, o2, N, h, hx, e => by
    simp only [psD] at e
    cases ht : o.takD c x with
    | none => rw [ht] at e; cases e
    | some o1 =>
      rw [ht] at e
      exact psD_fit r xs o1 o2 N (takD_fit h (hx x (by simp)) ht) (fun y hy => hx y (by simp [hy])) e
theorem prw_fit {P : List UInt8} {o : OpR} (h : prw (wordsL P) = some o) : o.Fit P.length := by
  have h1 := split_len P
  have h2 := prw_prwD h
  rw [← split_words h] at h2
  generalize splitL P = S at *
  cases S with
  | nil => simp [prwD] at h2
  | cons x xs =>
    simp only [prwD] at h2
    split at h2
    · cases h2
    · rename_i hk
      have hkd : kdOf x ≤ 19 := by
        by_cases g : kdOf x = 0
        · omega
        · exact (nm_kd x g).2.2
      exact psD_fit _ _ _ _ _ (OpR.Fit.only _ _ hkd) (fun y hy => h1 y (by simp [hy])) h2
set_option maxHeartbeats 1000000 in
set_option maxRecDepth 100000 in
theorem lines_walk (line : ByteArray) (w : World) (hb : line.size ≤ 1048576) (T : Tb w) : Calls Tryd.prog 6 #[.string line] w fun e w' => e = .returned (.bool true) ∧ Same w w' := by
  obtain ⟨P, hP⟩ : ∃ P, P = line.data.toList := ⟨_, rfl⟩
  have hl : line = BA P := by rw [hP, BA_of]
  have hPl : P.length = line.size := by rw [hP]; exact size_list line
  have HA := hidden (fun W (k : Same w W) => awake_any W (T.same k))
  have HS := hidden (fun W (k : Same w W) => parseOp_any line (by omega) W (T.same k))
  have HD := hidden (fun W => parseOpD_any P (by omega) W)
  rw [← hl, piD_eq] at HD
  rw [← hP] at HS
  cases hq : prw (wordsL P) with
  | none =>
    rw [hq] at HS HD
    simp only [piV] at HS HD
    have HCl : Hid (∀ W : World, ∀ g, OpB W g OpR.zero → W.cell? ⟨g, 0, none⟩ = some (.int .i64 0) ∧ W.cell? ⟨g, 1, none⟩ = some (.string ⟨#[]⟩) ∧ W.cell? ⟨g, 2, none⟩ = some (.string ⟨#[]⟩) ∧ W.cell? ⟨g, 3, none⟩ = some (.int .i64 0) ∧ W.cell? ⟨g, 4, none⟩ = some (.int .i64 0) ∧ W.cell? ⟨g, 5, none⟩ = some (.int .i64 0) ∧ W.cell? ⟨g, 6, none⟩ = some (.int .i64 0) ∧ W.cell? ⟨g, 7, none⟩ = some (.string ⟨#[]⟩)) := hidden (fun W g h => ⟨blk_cell h, blk_cell h, blk_cell h, blk_cell h, blk_cell h, blk_cell h, blk_cell h, blk_cell h⟩)
    clear T hl hPl hb hq hP
    go_enter Tryd.func6, Tryd.ntmps6
    go_wp2_with (first
      | (go_at_call 11; refine (HA.out _ (Kept.refl _ _)).mono ?_; rintro e w1 ⟨rfl, k1⟩; have K1 := hidden k1; clear k1)
      | (go_at_call 16; refine (HS.out _ K1.out).mono ?_; rintro e w2 ⟨rfl, k2⟩; have K2 := hidden (K1.out.trans k2); clear k2)
      | (refine wl_store 28 _ _ rfl rfl rfl w2.heap.size rfl OpR.zero.cs rfl (st_new w2 OpR.zero) ?_; have B2 := hidden (blk_new w2 (.cells OpR.zero.cs 28)); have K3 := hidden (K2.out.alloc (.cells OpR.zero.cs 28)))
      | (go_at_call 17; refine (HD.out _).mono ?_; rintro e w4 ⟨rfl, k4⟩; have K4 := hidden (K3.out.trans k4); have B4 := hidden (opb_kept B2.out k4 (fun h => h)); clear k4)
      | (refine wl_store 28 _ _ rfl rfl rfl w4.heap.size rfl OpR.zero.cs rfl (st_new w4 OpR.zero) ?_; have K5 := hidden (K4.out.alloc (.cells OpR.zero.cs 28)); have B5 := hidden (blk_alloc B4.out (.cells OpR.zero.cs 28)); have C5 := hidden (blk_new w4 (.cells OpR.zero.cs 28)); obtain ⟨s0, s1, s2, s3, s4, s5, s6, s7⟩ := HCl.out _ _ B5.out; obtain ⟨t0, t1, t2, t3, t4, t5, t6, t7⟩ := HCl.out _ _ C5.out))
    go_returns
    exact ⟨rfl, K5.out⟩
  | some o =>
    have hf := prw_fit hq
    have hOk : o.Ok 1099511627776 := hf.ok (by omega)
    have HP := hidden (fun W (k : Same w W) => printOp_any o hOk W (T.same k))
    rw [prt_prw hq] at HP
    rw [hq] at HS HD
    simp only [piV] at HS HD
    simp only [poV, ← hl] at HP
    have HCl : Hid (∀ W : World, ∀ g, OpB W g o → W.cell? ⟨g, 0, none⟩ = some (.int .i64 o.kd) ∧ W.cell? ⟨g, 1, none⟩ = some (.string (BA o.pa)) ∧ W.cell? ⟨g, 2, none⟩ = some (.string (BA o.ot)) ∧ W.cell? ⟨g, 3, none⟩ = some (.int .i64 o.ha) ∧ W.cell? ⟨g, 4, none⟩ = some (.int .i64 o.of) ∧ W.cell? ⟨g, 5, none⟩ = some (.int .i64 o.nn) ∧ W.cell? ⟨g, 6, none⟩ = some (.int .i64 o.fl) ∧ W.cell? ⟨g, 7, none⟩ = some (.string (BA o.da))) := hidden (fun W g h => ⟨blk_cell h, blk_cell h, blk_cell h, blk_cell h, blk_cell h, blk_cell h, blk_cell h, blk_cell h⟩)
    clear T hl hPl hb hq hP hf hOk
    go_enter Tryd.func6, Tryd.ntmps6
    go_wp2_with (first
      | (go_at_call 11; refine (HA.out _ (Kept.refl _ _)).mono ?_; rintro e w1 ⟨rfl, k1⟩; have K1 := hidden k1; clear k1)
      | (go_at_call 16; refine (HS.out _ K1.out).mono ?_; rintro e w2 ⟨rfl, k2⟩; have K2 := hidden (K1.out.trans k2); clear k2)
      | (refine wl_store 28 _ _ rfl rfl rfl w2.heap.size rfl o.cs rfl (st_new w2 o) ?_; have B2 := hidden (blk_new w2 (.cells o.cs 28)); have K3 := hidden (K2.out.alloc (.cells o.cs 28)))
      | (go_at_call 17; refine (HD.out _).mono ?_; rintro e w4 ⟨rfl, k4⟩; have K4 := hidden (K3.out.trans k4); have B4 := hidden (opb_kept B2.out k4 (fun h => h)); clear k4)
      | (refine wl_store 28 _ _ rfl rfl rfl w4.heap.size rfl o.cs rfl (st_new w4 o) ?_; have K5 := hidden (K4.out.alloc (.cells o.cs 28)); have B5 := hidden (blk_alloc B4.out (.cells o.cs 28)); have C5 := hidden (blk_new w4 (.cells o.cs 28)); obtain ⟨s0, s1, s2, s3, s4, s5, s6, s7⟩ := HCl.out _ _ B5.out; obtain ⟨t0, t1, t2, t3, t4, t5, t6, t7⟩ := HCl.out _ _ C5.out)
      | (go_at_call 14; refine (HP.out _ K5.out).mono ?_; rintro e w6 ⟨rfl, k6⟩; have K6 := hidden (K5.out.trans k6); clear k6))
    go_returns
    exact ⟨rfl, K6.out⟩
end Go.Proofs.YtndfgpelioipcaaDoor
namespace Go.Proofs.YtndfgpelioipcaaDoor.ScriptLines
open Go.ChangeShapes Go.WideShapes Go.ChangeAt Go.RowKit Go.Joins Go.ChangeMaps
set_option maxRecDepth 100000 in
theorem contract (H : Type) (enc : TypeId × Value → H) (W : World) (base : Nat) (args : Array Value) (ds gs : List (DataW H)) (before : List MemPlace)
    (hval : ∀ (j : Nat) t v, Tryd.f6.params[j]? = some t → args[j]? = some v → Value.okWide Tryd.prog W .any base t v)
    (hW : DataW.Whole enc Tryd.prog Tryd.f6.params.toList Rows.scriptLinesSpec.vars false W args.toList ds gs before)
    (hsz : (DataW.weightsEach Tryd.prog (Tryd.f6.params.toList ++ (OpenSpec.ofChange Rows.scriptLinesSpec).bare.plain.varTypes Tryd.prog) (ds ++ gs)).all (· ≤ reachBytes) = true)
    (hk : Rows.uptoSmall H (ds ++ gs) = true)
    (hL : laidMetH Tryd.prog Rows.scriptLinesUptoRow.laid W) :
    Calls Tryd.prog 6 args W fun e W' => ∃ v, e = .returned v ∧ Rows.scriptLinesSpec.post enc Tryd.prog Tryd.f6 false true false false W args v W' := by
  have hW' := hW
  obtain ⟨p, q, hA0, hV, rfl, hfz, hnd⟩ := hW
  have hA : DataW.TrodAll enc Tryd.prog W 0 (fun _ => true) true Tryd.f6.params.toList args.toList ds p := hA0
  rw [Tryd.params6] at hA hval hsz
  obtain ⟨v0, vs0, d0, ds0, p0, q0, hargs, rfl, rfl, h0, r0⟩ := trodAll_cons hA
  obtain ⟨rfl, rfl, rfl⟩ := trodAll_nil r0
  obtain rfl : args = #[v0] := by cases args; simp_all
  obtain ⟨rfl, rfl⟩ := trodVars_none hV
  obtain ⟨line, rfl, rfl, rfl, _⟩ := open_string Tryd.underlying9 (hval 0 9 v0 rfl rfl) h0
  have bk_line := bulk_string (H := H) line
  have hbk : line.size ≤ 1048576 := by
    have h9 := of_decide_eq_true hk
    simp only [List.append_nil, Rows.uptoBulkAll] at h9
    omega
  refine (lines_walk line W hbk (tab_laid hL)).mono fun e W' ⟨he, hg⟩ => ?_
  subst he
  exact ⟨_, rfl, law_post laidOut (by rw [Tryd.params6]; decide +kernel) rfl hW' rfl Tryd.underlying4 ⟨rfl, rfl, rfl⟩ (hg.below (Nat.le_refl _) fun _ h => h.elim)⟩
set_option maxRecDepth 100000 in
theorem lifted (os : Os) (started : os.Started) (H : Type) (enc : TypeId × Value → H) (F : Stop.Interp) :
    ReturnsInHanded {} Tryd.checked os 6 .any ((Rows.OpenSpec.upto Rows.scriptLinesSpec).preRow enc Tryd.prog Tryd.f6 Rows.scriptLinesUptoRow.domain false Rows.scriptLinesUptoRow.laid) (((Rows.OpenSpec.upto Rows.scriptLinesSpec).at F).post enc Tryd.prog Tryd.f6 false true false false) := by
  refine returnsInHanded_of_row (C := Tryd.checked) (s := Rows.OpenSpec.upto Rows.scriptLinesSpec) own started (by kernel_rfl) Tryd.func6
    (witness_row_atRef (enc := enc) (C := Tryd.checked) false (laidWorld (World.holding Tryd.prog os ⟨#[.cells #[.string synS] 121, .cells #[.string rngS] 121], #[], []⟩) (World.holding Tryd.prog os ⟨#[], #[], []⟩).heap.size) #[.string ⟨#[]⟩] rfl (by kernel_rfl) (by kernel_rfl) (by kernel_rfl)
      (OpenSpec.preRow_of_cond (x := ([.lit (.string [])], [], [])) 8 (by kernel_rfl) (by kernel_rfl) (fun k hk => by cases hk; kernel_rfl) (by kernel_rfl) (laidMet_of_run' 8 (by kernel_rfl) (by kernel_rfl)))) ?_
  intro W base args ds gs before hval hW _ hcond hsz hL _ _
  exact contract H enc W base args ds gs before hval hW hsz (hcond _ rfl) hL
theorem said : Rows.ScriptLinesUptoSaid :=
  OpenClaim.holds_of_cond 6 Tryd.f6 rfl rfl rfl rfl rfl rfl rfl ⟨rfl, rfl, rfl, rfl, rfl⟩ rfl rfl rfl rfl rfl (by kernel_rfl) Tryd.func6 (by kernel_rfl)
    (of_decide_eq_true (by kernel_rfl)) (by unfold Func.isWrapper; first | (rw [if_pos (by decide +kernel)]; kernel_rfl) | (rw [if_neg (by decide +kernel)]; exact ⟨rfl, rfl⟩))
    (fun os started H enc _ F => by rw [OpenClaim.pre_eq_preRow]; exact lifted os started H enc F)
theorem plain (f : FuncId) (fn : Func) (hf : Tryd.pinned.checked.prog.funcNamed Rows.scriptLinesUptoRow.func = some f) (hfn : Tryd.pinned.checked.prog.funcs[f]? = some fn) :
    true = Tryd.pinned.checked.prog.looks [] ∧ ∀ (j : Nat) t, fn.params[j]? = some t → Tryd.pinned.checked.prog.wantsStandIn t = false := by
  obtain rfl : f = 6 := Option.some.inj ((show Tryd.prog.funcNamed Rows.scriptLinesUptoRow.func = some 6 by kernel_rfl).symm.trans hf) |>.symm
  obtain rfl : fn = Tryd.f6 := (Option.some.inj (Tryd.func6.symm.trans hfn)).symm
  refine ⟨by kernel_rfl, fun j t ht => ?_⟩
  rw [Tryd.params6] at ht
  have hm : t ∈ [9] := by simpa using Array.mem_of_getElem? ht
  have hall : [9].all (fun t => !Tryd.prog.wantsStandIn t) = true := by kernel_rfl
  have h1 := List.all_eq_true.1 hall t hm
  have h2 : Tryd.prog.wantsStandIn t = false := by simpa using h1
  exact h2
theorem card : Rows.ScriptLinesUptoCardSaid :=
  Claim7.holds_tied_plain_at .later [] _ _ _ _ said (fun _ h => by cases h) (by kernel_rfl) (fun _ h => by cases h) scriptLinesUpto_row_tie rfl ⟨rfl, rfl⟩ (by kernel_rfl) rfl plain (by kernel_rfl)
end Go.Proofs.YtndfgpelioipcaaDoor.ScriptLines
namespace Go.Proofs.YtndfgpelioipcaaDoor
theorem scriptLinesUpto_card : Rows.ScriptLinesUptoCardSaid := ScriptLines.card
end Go.Proofs.YtndfgpelioipcaaDoor
