/- ScriptOps: of every operation (the bounded form) script.PrintOp tells what the document tells, and ParseOp reads its line back. -/
import Derived.Test.YthacioomcnbibaaDoorScO
import Derived.Test.YthacioomcnbibaaDoorSc14
import Derived.Test.YthacioomcnbibaaDoorSc17
import Derived.Test.YthacioomcnbibaaDoorScQ
namespace Go.Proofs.YthacioomcnbibaaDoor
open Go.RowKit
set_option linter.unusedVariables false
set_option linter.unusedSimpArgs false
theorem wd_lenN {o : OpR} {N : Nat} {c : UInt8} (h : o.Ok N) (hc : isL c = true) : (o.wd c).length + 1 ≤ 4 * N + 30 := by
  have hl := h.len
  have hq : ∀ l : List UInt8, l.length ≤ N → (quoteL l).length + 1 ≤ 4 * N + 30 := fun l hl => by
    rw [quoteL_len]
    have := (qb_len l).2
    omega
  have hi : ∀ z : Int, I64 z → (Lib.itoa z).length + 1 ≤ 4 * N + 30 := fun z hz => by
    have := Lib.itoa_length_le z hz.1 hz.2
    omega
  rcases isL_cases hc with rfl | rfl | rfl | rfl | rfl | rfl | rfl
  · exact hq o.pa (by omega)
  · exact hq o.ot (by omega)
  · exact hq o.da (by omega)
  · exact hi o.ha h.ha
  · exact hi o.of h.of
  · exact hi o.nn h.nn
  · exact hi o.fl h.fl
theorem pr_len {N : Nat} : ∀ (L : List UInt8) (o o2 : OpR) (ws : List (List UInt8)), o.Ok N → (∀ c ∈ L, isL c = true) → pr o L = some (o2, ws) → wsum ws ≤ L.length * (4 * N + 30)
  | [], o, o2, ws, _, _, h => by
    simp only [pr, Option.some.injEq, Prod.mk.injEq] at h
    obtain ⟨_, rfl⟩ := h
    simp [wsum]
  | c :: r, o, o2, ws, ho, hl, h => by
    unfold pr at h
    split at h
    · cases hp : pr (o.clr c) r with
      | none => rw [hp] at h; cases h
      | some q =>
        rw [hp] at h
        simp only [Option.map_some, Option.some.injEq, Prod.mk.injEq] at h
        obtain ⟨_, rfl⟩ := h
        have h1 := pr_len r (o.clr c) q.1 q.2 (ho.clr c) (fun d hd => hl d (by simp [hd])) (by rw [hp])
        have h2 := wd_lenN ho (hl c (by simp))
        have h3 : wsum (o.wd c :: q.2) = (o.wd c).length + 1 + wsum q.2 := by simp [wsum]
        rw [h3, List.length_cons, Nat.succ_mul]
        omega
    · cases h
theorem prt_len {o : OpR} {N : Nat} {l : List UInt8} (ho : o.Ok N) (h : prt o = some l) : l.length ≤ 3 * (4 * N + 30) + 11 := by
  unfold prt at h
  split at h
  · rename_i hk
    cases hp : pr o (flL o.kd.toNat) with
    | none => rw [hp] at h; cases h
    | some q =>
      rw [hp] at h
      simp only at h
      split at h
      · obtain rfl := Option.some.inj h
        obtain ⟨h3, hl⟩ := fl_isL o.kd.toNat (by omega)
        have h1 := pr_len _ o q.1 q.2 ho hl (by rw [hp])
        have h2 := jn_len (nmL o.kd.toNat :: q.2)
        have h4 : wsum (nmL o.kd.toNat :: q.2) = (nmL o.kd.toNat).length + 1 + wsum q.2 := by simp [wsum]
        have h5 := nm_size o.kd.toNat (by omega) (by omega)
        have h6 : (flL o.kd.toNat).length * (4 * N + 30) ≤ 3 * (4 * N + 30) := Nat.mul_le_mul_right _ h3
        omega
      · cases h
  · cases h
set_option maxHeartbeats 1000000 in
set_option maxRecDepth 100000 in
theorem ops_walk (o : OpR) (w : World) (hi : I64 o.kd ∧ I64 o.ha ∧ I64 o.of ∧ I64 o.nn ∧ I64 o.fl) (hb : o.pa.length + o.ot.length + o.da.length ≤ 1048576) (T : Tb w) : Calls Tryd.prog 5 #[.agg o.cs] w fun e w' => e = .returned (.bool true) ∧ Same w w' := by
  have hOk : o.Ok 1048576 := ⟨hi.1, hi.2.1, hi.2.2.1, hi.2.2.2.1, hi.2.2.2.2, hb⟩
  have hOk2 : o.Ok 1099511627776 := ⟨hi.1, hi.2.1, hi.2.2.1, hi.2.2.2.1, hi.2.2.2.2, by omega⟩
  have HA := hidden (fun W k => awake_any W (T.same k))
  have HP := hidden (fun W k => printOp_any o hOk2 W (T.same k))
  have HD := hidden (printOpD_any o hOk2)
  have HT := hidden T
  have hB0 : OpB (w.alloc (.cells o.cs 28)) w.heap.size o := blk_new w _
  have HB0 := hidden hB0
  have HCl : Hid (∀ W : World, OpB W w.heap.size o → W.cell? ⟨w.heap.size, 0, none⟩ = some (.int .i64 o.kd) ∧ W.cell? ⟨w.heap.size, 1, none⟩ = some (.string (BA o.pa)) ∧ W.cell? ⟨w.heap.size, 2, none⟩ = some (.string (BA o.ot)) ∧ W.cell? ⟨w.heap.size, 3, none⟩ = some (.int .i64 o.ha) ∧ W.cell? ⟨w.heap.size, 4, none⟩ = some (.int .i64 o.of) ∧ W.cell? ⟨w.heap.size, 5, none⟩ = some (.int .i64 o.nn) ∧ W.cell? ⟨w.heap.size, 6, none⟩ = some (.int .i64 o.fl) ∧ W.cell? ⟨w.heap.size, 7, none⟩ = some (.string (BA o.da))) := hidden (fun W h => ⟨blk_cell h, blk_cell h, blk_cell h, blk_cell h, blk_cell h, blk_cell h, blk_cell h, blk_cell h⟩)
  clear hB0
  cases hp : prt o with
  | none =>
    rw [hp] at HP HD
    simp only [poV] at HP HD
    clear T hi hb hOk hOk2 hp
    go_enter Tryd.func5, Tryd.ntmps5
    go_wp2_with (first
      | (go_at_call 11; refine (HA.out _ (same_alloc _ _)).mono ?_; rintro e w1 ⟨rfl, k1⟩; have K1 := hidden ((same_alloc w (.cells o.cs 28)).trans k1); have B1 := hidden (opb_kept HB0.out k1 (fun h => h)); clear k1; obtain ⟨o0, o1, o2, o3, o4, o5, o6, o7⟩ := HCl.out w1 B1.out)
      | (go_at_call 14; refine (HP.out _ K1.out).mono ?_; rintro e w2 ⟨rfl, k2⟩; have K2 := hidden (K1.out.trans k2); have B2 := hidden (opb_kept B1.out k2 (fun h => h)); clear k2; obtain ⟨p0, p1, p2, p3, p4, p5, p6, p7⟩ := HCl.out w2 B2.out)
      | (go_at_call 15; refine (HD.out _).mono ?_; rintro e w3 ⟨rfl, k3⟩; have K3 := hidden (K2.out.trans k3); clear k3))
    go_returns
    exact ⟨rfl, K3.out⟩
  | some l =>
    have hl := prt_len hOk hp
    have HW := hidden (fun W k => parseOp_any (BA l) (by rw [BA_size]; omega) W (T.same k))
    rw [BA_data, prw_prt hp] at HW
    rw [hp] at HP HD
    simp only [poV] at HP HD
    simp only [piV] at HW
    clear T hi hb hOk hOk2 hp hl
    generalize BA l = y at *
    go_enter Tryd.func5, Tryd.ntmps5
    go_wp2_with (first
      | (go_at_call 11; refine (HA.out _ (same_alloc _ _)).mono ?_; rintro e w1 ⟨rfl, k1⟩; have K1 := hidden ((same_alloc w (.cells o.cs 28)).trans k1); have B1 := hidden (opb_kept HB0.out k1 (fun h => h)); clear k1; obtain ⟨o0, o1, o2, o3, o4, o5, o6, o7⟩ := HCl.out w1 B1.out)
      | (go_at_call 14; refine (HP.out _ K1.out).mono ?_; rintro e w2 ⟨rfl, k2⟩; have K2 := hidden (K1.out.trans k2); have B2 := hidden (opb_kept B1.out k2 (fun h => h)); clear k2; obtain ⟨p0, p1, p2, p3, p4, p5, p6, p7⟩ := HCl.out w2 B2.out)
      | (go_at_call 15; refine (HD.out _).mono ?_; rintro e w3 ⟨rfl, k3⟩; have K3 := hidden (K2.out.trans k3); have B3 := hidden (opb_kept B2.out k3 (fun h => h)); clear k3; obtain ⟨r0, r1, r2, r3, r4, r5, r6, r7⟩ := HCl.out w3 B3.out)
      | (go_at_call 16; refine (HW.out _ K3.out).mono ?_; rintro e w4 ⟨rfl, k4⟩; have K4 := hidden (K3.out.trans k4); have B4 := hidden (opb_kept B3.out k4 (fun h => h)); clear k4; obtain ⟨s0, s1, s2, s3, s4, s5, s6, s7⟩ := HCl.out (w4.alloc (.cells o.cs 28)) (blk_alloc B4.out _); unfold OpR.cs at s0 s1 s2 s3 s4 s5 s6 s7 ⊢))
    go_returns
    exact ⟨rfl, K4.out.alloc _⟩
end Go.Proofs.YthacioomcnbibaaDoor
namespace Go.Proofs.YthacioomcnbibaaDoor.ScriptOps
open Go.ChangeShapes Go.WideShapes Go.ChangeAt Go.RowKit Go.Joins Go.ChangeMaps
set_option maxRecDepth 100000 in
theorem contract (H : Type) (enc : TypeId × Value → H) (W : World) (base : Nat) (args : Array Value) (ds gs : List (DataW H)) (before : List MemPlace)
    (hval : ∀ (j : Nat) t v, Tryd.f5.params[j]? = some t → args[j]? = some v → Value.okWide Tryd.prog W .any base t v)
    (hW : DataW.Whole enc Tryd.prog Tryd.f5.params.toList Rows.scriptOpsSpec.vars false W args.toList ds gs before)
    (hsz : (DataW.weightsEach Tryd.prog (Tryd.f5.params.toList ++ (OpenSpec.ofChange Rows.scriptOpsSpec).bare.plain.varTypes Tryd.prog) (ds ++ gs)).all (· ≤ reachBytes) = true)
    (hk : Rows.uptoSmall H (ds ++ gs) = true)
    (hL : laidMetH Tryd.prog Rows.scriptOpsUptoRow.laid W) :
    Calls Tryd.prog 5 args W fun e W' => ∃ v, e = .returned v ∧ Rows.scriptOpsSpec.post enc Tryd.prog Tryd.f5 false true false false W args v W' := by
  have hW' := hW
  obtain ⟨p, q, hA0, hV, rfl, hfz, hnd⟩ := hW
  have hA : DataW.TrodAll enc Tryd.prog W 0 (fun _ => true) true Tryd.f5.params.toList args.toList ds p := hA0
  rw [Tryd.params5] at hA hval hsz
  obtain ⟨v0, vs0, d0, ds0, p0, q0, hargs, rfl, rfl, h0, r0⟩ := trodAll_cons hA
  obtain ⟨rfl, rfl, rfl⟩ := trodAll_nil r0
  obtain rfl : args = #[v0] := by cases args; simp_all
  obtain ⟨rfl, rfl⟩ := trodVars_none hV
  obtain ⟨o_o, rfl, i_o, bk_o⟩ := op_openU (hval 0 28 v0 rfl rfl) h0
  have hbk : (o_o.pa.length + o_o.ot.length + o_o.da.length) ≤ 1048576 := by
    have h9 := of_decide_eq_true hk
    simp only [List.append_nil, Rows.uptoBulkAll] at h9
    omega
  refine (ops_walk o_o W i_o hbk (tab_laid hL)).mono fun e W' ⟨he, hg⟩ => ?_
  subst he
  exact ⟨_, rfl, law_post laidOut (by rw [Tryd.params5]; decide +kernel) rfl hW' rfl Tryd.underlying4 ⟨rfl, rfl, rfl⟩ (hg.below (Nat.le_refl _) fun _ h => h.elim)⟩
set_option maxRecDepth 100000 in
theorem lifted (os : Os) (started : os.Started) (H : Type) (enc : TypeId × Value → H) (F : Stop.Interp) :
    ReturnsInHanded {} Tryd.checked os 5 .any ((Rows.OpenSpec.upto Rows.scriptOpsSpec).preRow enc Tryd.prog Tryd.f5 Rows.scriptOpsUptoRow.domain false Rows.scriptOpsUptoRow.laid) (((Rows.OpenSpec.upto Rows.scriptOpsSpec).at F).post enc Tryd.prog Tryd.f5 false true false false) := by
  refine returnsInHanded_of_row (C := Tryd.checked) (s := Rows.OpenSpec.upto Rows.scriptOpsSpec) own started (by kernel_rfl) Tryd.func5
    (witness_row_atRef (enc := enc) (C := Tryd.checked) false (laidWorld (World.holding Tryd.prog os ⟨#[.cells #[.string synS] 121, .cells #[.string rngS] 121], #[], []⟩) (World.holding Tryd.prog os ⟨#[], #[], []⟩).heap.size) #[.agg #[.int .i64 0, .string ⟨#[]⟩, .string ⟨#[]⟩, .int .i64 0, .int .i64 0, .int .i64 0, .int .i64 0, .string ⟨#[]⟩]] rfl (by kernel_rfl) (by kernel_rfl) (by kernel_rfl)
      (OpenSpec.preRow_of_cond (x := ([.agg [.lit (.int .i64 0), .lit (.string []), .lit (.string []), .lit (.int .i64 0), .lit (.int .i64 0), .lit (.int .i64 0), .lit (.int .i64 0), .lit (.string [])]], [], [])) 8 (by kernel_rfl) (by kernel_rfl) (fun k hk => by cases hk; kernel_rfl) (by kernel_rfl) (laidMet_of_run' 8 (by kernel_rfl) (by kernel_rfl)))) ?_
  intro W base args ds gs before hval hW _ hcond hsz hL _ _
  exact contract H enc W base args ds gs before hval hW hsz (hcond _ rfl) hL
theorem said : Rows.ScriptOpsUptoSaid :=
  OpenClaim.holds_of_cond 5 Tryd.f5 rfl rfl rfl rfl rfl rfl rfl ⟨rfl, rfl, rfl, rfl, rfl⟩ rfl rfl rfl rfl rfl (by kernel_rfl) Tryd.func5 (by kernel_rfl)
    (of_decide_eq_true (by kernel_rfl)) (by unfold Func.isWrapper; first | (rw [if_pos (by decide +kernel)]; kernel_rfl) | (rw [if_neg (by decide +kernel)]; exact ⟨rfl, rfl⟩))
    (fun os started H enc _ F => by rw [OpenClaim.pre_eq_preRow]; exact lifted os started H enc F)
theorem plain (f : FuncId) (fn : Func) (hf : Tryd.pinned.checked.prog.funcNamed Rows.scriptOpsUptoRow.func = some f) (hfn : Tryd.pinned.checked.prog.funcs[f]? = some fn) :
    true = Tryd.pinned.checked.prog.looks [] ∧ ∀ (j : Nat) t, fn.params[j]? = some t → Tryd.pinned.checked.prog.wantsStandIn t = false := by
  obtain rfl : f = 5 := Option.some.inj ((show Tryd.prog.funcNamed Rows.scriptOpsUptoRow.func = some 5 by kernel_rfl).symm.trans hf) |>.symm
  obtain rfl : fn = Tryd.f5 := (Option.some.inj (Tryd.func5.symm.trans hfn)).symm
  refine ⟨by kernel_rfl, fun j t ht => ?_⟩
  rw [Tryd.params5] at ht
  have hm : t ∈ [28] := by simpa using Array.mem_of_getElem? ht
  have hall : [28].all (fun t => !Tryd.prog.wantsStandIn t) = true := by kernel_rfl
  have h1 := List.all_eq_true.1 hall t hm
  have h2 : Tryd.prog.wantsStandIn t = false := by simpa using h1
  exact h2
theorem card : Rows.ScriptOpsUptoCardSaid :=
  Claim7.holds_tied_plain_at .later [] _ _ _ _ said (fun _ h => by cases h) (by kernel_rfl) (fun _ h => by cases h) scriptOpsUpto_row_tie rfl ⟨rfl, rfl⟩ (by kernel_rfl) rfl plain (by kernel_rfl)
end Go.Proofs.YthacioomcnbibaaDoor.ScriptOps
namespace Go.Proofs.YthacioomcnbibaaDoor
theorem scriptOpsUpto_card : Rows.ScriptOpsUptoCardSaid := ScriptOps.card
end Go.Proofs.YthacioomcnbibaaDoor
