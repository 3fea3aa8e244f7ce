/-
  ShaBits (P1.1, P1.4): whatever the sum and the numbers: Bits tells what the document's tells, and Bits of Bits is Bits of the lesser number: the law's call returns true and leaves its arguments as they were.
  Condition: the table roundWords holds what the program's text lays (the card ties it).
-/
import Derived.Test.YtbankcgkbiflhaaDoorSK
import Derived.Test.YtbankcgkbiflhaaDoorShQ
import Derived.Test.YtbankcgkbiflhaaDoorBt2
namespace Go.Proofs.YtbankcgkbiflhaaDoor
open Go.RowKit
set_option linter.unusedVariables false
set_option maxHeartbeats 4000000 in
set_option maxRecDepth 100000 in
theorem sbits_walk (l : List UInt8) (n m : Int) (w : World) (hl : l.length = 32) (n1 : -9223372036854775808 ≤ n) (n2 : n ≤ 9223372036854775807) (m1 : -9223372036854775808 ≤ m) (m2 : m ≤ 9223372036854775807) (hT : Tab w) :
    Calls Tryd.prog 6 #[.agg (l.map U8).toArray, .int .i64 n, .int .i64 m] w fun e w' => e = .returned (.bool true) ∧ Same w w' := by
  have HT := hidden hT
  have HL := hidden hl
  have HZ : Hid ((l.map U8).toArray.size = 32) := hidden (by simp [hl])
  have bn := hidden (And.intro n1 n2)
  have bm := hidden (And.intro m1 m2)
  clear hT hl
  by_cases hmn : m < n
  ·
    have HMm : Hid (∀ W, Calls Tryd.prog 18 #[.agg ((bitsL n l).map U8).toArray, .int .i64 m] W fun e w' => e = .returned (.agg ((bitsL m l).map U8).toArray) ∧ Same W w') := hidden (fun W => by
      have h := bits_any (bitsL n l) (bitsL_len n l) m bm.out.1 bm.out.2 W
      rw [bits_bits, if_pos hmn] at h
      exact h)
    go_enter Tryd.func6, Tryd.ntmps6
    go_wp2
    have K3 := hidden (same_alloc w (.cells (l.map U8).toArray 24))
    have B1 := hidden (blk_new w (.cells (l.map U8).toArray 24))
    obtain ⟨r, hr⟩ : ∃ r, w.heap.size = r := ⟨_, rfl⟩
    rw [hr] at B1 ⊢
    generalize w.alloc (.cells (l.map U8).toArray 24) = W3 at *
    have HTr : Hid (∀ W, Same W3 W → Tab W) := hidden (fun W k => HT.out.same (Kept.trans K3.out k))
    have Hl1 : Hid (∀ W, Same W3 W → (Instr.loadAt 24 (.pointer (some ⟨r, 0, none⟩))).run Tryd.prog W = .ok (.agg (l.map U8).toArray) W) := hidden (fun W k => ld_row (blk_kept k (fun h => h) B1.out) Tryd.underlying24 rfl 32 i24 HZ.out)
    clear hr B1
    refine reg_same hmx (by kernel_rfl) ?_
    refine q_call (by rfl) 10 #[] (.bool true) (fun W => by go_simp; try rfl) (fun W hC => (lives_any W (HTr.out W hC)).mono fun _ w' ⟨h1, h2⟩ => ⟨h1, Kept.trans hC h2⟩) ?_; (try go_simp)
    refine q_val (by rfl) (.bool true) (fun W _ => by go_simp; try rfl) ?_; (try go_simp)
    refine q_val (by rfl) (.agg (l.map U8).toArray) (fun W hC => y_load rfl rfl (Hl1.out W hC)) ?_; (try go_simp)
    refine q_val (by rfl) (.int .i64 n) (fun W _ => by go_simp; try rfl) ?_; (try go_simp)
    refine q_call (by rfl) 18 #[(.agg (l.map U8).toArray), .int .i64 n] (.agg ((bitsL n l).map U8).toArray) (fun W => by go_simp; try rfl) (fun W hC => (bits_any l HL.out n bn.out.1 bn.out.2 W).mono fun _ w' ⟨h1, h2⟩ => ⟨h1, Kept.trans hC h2⟩) ?_; (try go_simp)
    refine q_val (by rfl) (.agg (l.map U8).toArray) (fun W hC => y_load rfl rfl (Hl1.out W hC)) ?_; (try go_simp)
    refine q_val (by rfl) (.int .i64 n) (fun W _ => by go_simp; try rfl) ?_; (try go_simp)
    refine q_call (by rfl) 19 #[(.agg (l.map U8).toArray), .int .i64 n] (.agg ((bitsL n l).map U8).toArray) (fun W => by go_simp; try rfl) (fun W hC => (bitsD_any l HL.out n bn.out.1 bn.out.2 W).mono fun _ w' ⟨h1, h2⟩ => ⟨h1, Kept.trans hC h2⟩) ?_; (try go_simp)
    refine q_val (by rfl) (.bool true) (fun W hC => y_eq rfl rfl rfl (sum_eq _ (bitsL_len n l) W)) ?_; (try go_simp)
    refine q_val (by rfl) (.bool true) (fun W _ => by go_simp; try rfl) ?_; (try go_simp)
    refine q_val (by rfl) (.bool true) (fun W _ => by go_simp; try rfl) ?_; (try go_simp)
    refine q_val (by rfl) (.agg (l.map U8).toArray) (fun W hC => y_load rfl rfl (Hl1.out W hC)) ?_; (try go_simp)
    refine q_val (by rfl) (.int .i64 n) (fun W _ => by go_simp; try rfl) ?_; (try go_simp)
    refine q_call (by rfl) 18 #[(.agg (l.map U8).toArray), .int .i64 n] (.agg ((bitsL n l).map U8).toArray) (fun W => by go_simp; try rfl) (fun W hC => (bits_any l HL.out n bn.out.1 bn.out.2 W).mono fun _ w' ⟨h1, h2⟩ => ⟨h1, Kept.trans hC h2⟩) ?_; (try go_simp)
    refine q_val (by rfl) (.int .i64 m) (fun W _ => by go_simp; try rfl) ?_; (try go_simp)
    refine q_call (by rfl) 18 #[(.agg ((bitsL n l).map U8).toArray), .int .i64 m] (.agg ((bitsL m l).map U8).toArray) (fun W => by go_simp; try rfl) (fun W hC => (HMm.out W).mono fun _ w' ⟨h1, h2⟩ => ⟨h1, Kept.trans hC h2⟩) ?_; (try go_simp)
    refine q_val (by rfl) (.agg (l.map U8).toArray) (fun W hC => y_load rfl rfl (Hl1.out W hC)) ?_; (try go_simp)
    refine q_val (by rfl) (.int .i64 m) (fun W _ => by go_simp; try rfl) ?_; (try go_simp)
    refine q_call (by rfl) 18 #[(.agg (l.map U8).toArray), .int .i64 m] (.agg ((bitsL m l).map U8).toArray) (fun W => by go_simp; try rfl) (fun W hC => (bits_any l HL.out m bm.out.1 bm.out.2 W).mono fun _ w' ⟨h1, h2⟩ => ⟨h1, Kept.trans hC h2⟩) ?_; (try go_simp)
    refine q_val (by rfl) (.bool true) (fun W hC => y_eq rfl rfl rfl (sum_eq _ (bitsL_len m l) W)) ?_; (try go_simp)
    refine q_val (by rfl) (.bool true) (fun W _ => by go_simp; try rfl) ?_; (try go_simp)
    refine q_val (by rfl) (.bool true) (fun W _ => by go_simp; try rfl) ?_; (try go_simp)
    refine wpQuiet_nil ?_
    intro w4 k4
    go_wp2
    go_returns
    exact ⟨rfl, Kept.trans K3.out k4⟩
  ·
    have HMm : Hid (∀ W, Calls Tryd.prog 18 #[.agg ((bitsL n l).map U8).toArray, .int .i64 m] W fun e w' => e = .returned (.agg ((bitsL n l).map U8).toArray) ∧ Same W w') := hidden (fun W => by
      have h := bits_any (bitsL n l) (bitsL_len n l) m bm.out.1 bm.out.2 W
      rw [bits_bits, if_neg hmn] at h
      exact h)
    go_enter Tryd.func6, Tryd.ntmps6
    go_wp2
    have K3 := hidden (same_alloc w (.cells (l.map U8).toArray 24))
    have B1 := hidden (blk_new w (.cells (l.map U8).toArray 24))
    obtain ⟨r, hr⟩ : ∃ r, w.heap.size = r := ⟨_, rfl⟩
    rw [hr] at B1 ⊢
    generalize w.alloc (.cells (l.map U8).toArray 24) = W3 at *
    have HTr : Hid (∀ W, Same W3 W → Tab W) := hidden (fun W k => HT.out.same (Kept.trans K3.out k))
    have Hl1 : Hid (∀ W, Same W3 W → (Instr.loadAt 24 (.pointer (some ⟨r, 0, none⟩))).run Tryd.prog W = .ok (.agg (l.map U8).toArray) W) := hidden (fun W k => ld_row (blk_kept k (fun h => h) B1.out) Tryd.underlying24 rfl 32 i24 HZ.out)
    clear hr B1
    refine reg_same hmx (by kernel_rfl) ?_
    refine q_call (by rfl) 10 #[] (.bool true) (fun W => by go_simp; try rfl) (fun W hC => (lives_any W (HTr.out W hC)).mono fun _ w' ⟨h1, h2⟩ => ⟨h1, Kept.trans hC h2⟩) ?_; (try go_simp)
    refine q_val (by rfl) (.bool true) (fun W _ => by go_simp; try rfl) ?_; (try go_simp)
    refine q_val (by rfl) (.agg (l.map U8).toArray) (fun W hC => y_load rfl rfl (Hl1.out W hC)) ?_; (try go_simp)
    refine q_val (by rfl) (.int .i64 n) (fun W _ => by go_simp; try rfl) ?_; (try go_simp)
    refine q_call (by rfl) 18 #[(.agg (l.map U8).toArray), .int .i64 n] (.agg ((bitsL n l).map U8).toArray) (fun W => by go_simp; try rfl) (fun W hC => (bits_any l HL.out n bn.out.1 bn.out.2 W).mono fun _ w' ⟨h1, h2⟩ => ⟨h1, Kept.trans hC h2⟩) ?_; (try go_simp)
    refine q_val (by rfl) (.agg (l.map U8).toArray) (fun W hC => y_load rfl rfl (Hl1.out W hC)) ?_; (try go_simp)
    refine q_val (by rfl) (.int .i64 n) (fun W _ => by go_simp; try rfl) ?_; (try go_simp)
    refine q_call (by rfl) 19 #[(.agg (l.map U8).toArray), .int .i64 n] (.agg ((bitsL n l).map U8).toArray) (fun W => by go_simp; try rfl) (fun W hC => (bitsD_any l HL.out n bn.out.1 bn.out.2 W).mono fun _ w' ⟨h1, h2⟩ => ⟨h1, Kept.trans hC h2⟩) ?_; (try go_simp)
    refine q_val (by rfl) (.bool true) (fun W hC => y_eq rfl rfl rfl (sum_eq _ (bitsL_len n l) W)) ?_; (try go_simp)
    refine q_val (by rfl) (.bool true) (fun W _ => by go_simp; try rfl) ?_; (try go_simp)
    refine q_val (by rfl) (.bool true) (fun W _ => by go_simp; try rfl) ?_; (try go_simp)
    refine q_val (by rfl) (.agg (l.map U8).toArray) (fun W hC => y_load rfl rfl (Hl1.out W hC)) ?_; (try go_simp)
    refine q_val (by rfl) (.int .i64 n) (fun W _ => by go_simp; try rfl) ?_; (try go_simp)
    refine q_call (by rfl) 18 #[(.agg (l.map U8).toArray), .int .i64 n] (.agg ((bitsL n l).map U8).toArray) (fun W => by go_simp; try rfl) (fun W hC => (bits_any l HL.out n bn.out.1 bn.out.2 W).mono fun _ w' ⟨h1, h2⟩ => ⟨h1, Kept.trans hC h2⟩) ?_; (try go_simp)
    refine q_val (by rfl) (.int .i64 m) (fun W _ => by go_simp; try rfl) ?_; (try go_simp)
    refine q_call (by rfl) 18 #[(.agg ((bitsL n l).map U8).toArray), .int .i64 m] (.agg ((bitsL n l).map U8).toArray) (fun W => by go_simp; try rfl) (fun W hC => (HMm.out W).mono fun _ w' ⟨h1, h2⟩ => ⟨h1, Kept.trans hC h2⟩) ?_; (try go_simp)
    refine q_val (by rfl) (.agg (l.map U8).toArray) (fun W hC => y_load rfl rfl (Hl1.out W hC)) ?_; (try go_simp)
    refine q_val (by rfl) (.int .i64 n) (fun W _ => by go_simp; try rfl) ?_; (try go_simp)
    refine q_call (by rfl) 18 #[(.agg (l.map U8).toArray), .int .i64 n] (.agg ((bitsL n l).map U8).toArray) (fun W => by go_simp; try rfl) (fun W hC => (bits_any l HL.out n bn.out.1 bn.out.2 W).mono fun _ w' ⟨h1, h2⟩ => ⟨h1, Kept.trans hC h2⟩) ?_; (try go_simp)
    refine q_val (by rfl) (.bool true) (fun W hC => y_eq rfl rfl rfl (sum_eq _ (bitsL_len n l) W)) ?_; (try go_simp)
    refine q_val (by rfl) (.bool true) (fun W _ => by go_simp; try rfl) ?_; (try go_simp)
    refine q_val (by rfl) (.bool true) (fun W _ => by go_simp; try rfl) ?_; (try go_simp)
    refine wpQuiet_nil ?_
    intro w4 k4
    go_wp2
    go_returns
    exact ⟨rfl, Kept.trans K3.out k4⟩
end Go.Proofs.YtbankcgkbiflhaaDoor
namespace Go.Proofs.YtbankcgkbiflhaaDoor.ShaBits
open Go.ChangeShapes Go.WideShapes Go.ChangeAt Go.RowKit Go.Joins Go.ChangeMaps
set_option maxRecDepth 100000 in
theorem contract (H : Type) (enc : TypeId × Value → H) (W : World) (base : Nat) (args : Array Value) (ds gs : List (DataW H)) (before : List MemPlace)
    (hval : ∀ (j : Nat) t v, Tryd.f6.params[j]? = some t → args[j]? = some v → Value.okWide Tryd.prog W .any base t v)
    (hW : DataW.Whole enc Tryd.prog Tryd.f6.params.toList Rows.shaBitsSpec.vars false W args.toList ds gs before)
    (hsz : (DataW.weightsEach Tryd.prog (Tryd.f6.params.toList ++ (OpenSpec.ofChange Rows.shaBitsSpec).bare.plain.varTypes Tryd.prog) (ds ++ gs)).all (· ≤ reachBytes) = true)
    (hL : laidMetH Tryd.prog Rows.shaBitsRow.laid W) :
    Calls Tryd.prog 6 args W fun e W' => ∃ v, e = .returned v ∧ Rows.shaBitsSpec.post enc Tryd.prog Tryd.f6 false true false false W args v W' := by
  have hW' := hW
  obtain ⟨p, q, hA0, hV, rfl, hfz, hnd⟩ := hW
  have hA : DataW.TrodAll enc Tryd.prog W 0 (fun _ => true) true Tryd.f6.params.toList args.toList ds p := hA0
  rw [Tryd.params6] at hA hval hsz
  obtain ⟨v0, vs0, d0, ds0, p0, q0, hargs, rfl, rfl, h0, r0⟩ := trodAll_cons hA
  obtain ⟨v1, vs1, d1, ds1, p1, q1, rfl, rfl, rfl, h1, r1⟩ := trodAll_cons r0
  obtain ⟨v2, vs2, d2, ds2, p2, q2, rfl, rfl, rfl, h2, r2⟩ := trodAll_cons r1
  obtain ⟨rfl, rfl, rfl⟩ := trodAll_nil r2
  obtain rfl : args = #[v0, v1, v2] := by cases args; simp_all
  obtain ⟨rfl, rfl⟩ := trodVars_none hV
  obtain ⟨l_sum, ln_sum, rfl⟩ := arr32_open (hval 0 24 v0 rfl rfl) h0
  obtain ⟨n, rfl, rfl, rfl, w_n⟩ := open_int Tryd.underlying3 (hval 1 3 v1 rfl rfl) h1
  have b_n : -9223372036854775808 ≤ n ∧ n ≤ 9223372036854775807 := by simpa [Lit.wf, IntKind.min, IntKind.max, IntKind.signed, IntKind.bits] using w_n
  obtain ⟨m, rfl, rfl, rfl, w_m⟩ := open_int Tryd.underlying3 (hval 2 3 v2 rfl rfl) h2
  have b_m : -9223372036854775808 ≤ m ∧ m ≤ 9223372036854775807 := by simpa [Lit.wf, IntKind.min, IntKind.max, IntKind.signed, IntKind.bits] using w_m
  refine (sbits_walk l_sum n m W ln_sum b_n.1 b_n.2 b_m.1 b_m.2 (tab_laid hL)).mono fun e W' ⟨he, hg⟩ => ?_
  subst he
  exact ⟨_, rfl, law_post laidOut (by rw [Tryd.params6]; decide +kernel) rfl hW' rfl Tryd.underlying4 ⟨rfl, rfl, rfl⟩ (hg.below (Nat.le_refl _) fun _ h => h.elim)⟩
set_option maxRecDepth 100000 in
theorem lifted (os : Os) (started : os.Started) (H : Type) (enc : TypeId × Value → H) (F : Stop.Interp) :
    ReturnsInHanded {} Tryd.checked os 6 .any ((OpenSpec.ofChange Rows.shaBitsSpec).preRow enc Tryd.prog Tryd.f6 Rows.shaBitsRow.domain false Rows.shaBitsRow.laid) (((OpenSpec.ofChange Rows.shaBitsSpec).at F).post enc Tryd.prog Tryd.f6 false true false false) := by
  refine returnsInHanded_of_row (C := Tryd.checked) (s := OpenSpec.ofChange Rows.shaBitsSpec) own started (by kernel_rfl) Tryd.func6
    (witness_row_at (enc := enc) (C := Tryd.checked) false ({ World.holding Tryd.prog os ⟨#[], #[], []⟩ with heap := (World.holding Tryd.prog os ⟨#[], #[], []⟩).heap.modify tabBlock fun | .cells _ t frozen => .cells (tabInts.map (Value.int .u32)).toArray t frozen | o => o }) #[.agg (((List.replicate 32 (0 : UInt8)).map U8).toArray), .int .i64 0, .int .i64 0] rfl (by kernel_rfl) (by kernel_rfl) (by kernel_rfl)
      (OpenSpec.preRow_of_cond (x := ([.agg (List.replicate 32 (.lit (.int .u8 0))), .lit (.int .i64 0), .lit (.int .i64 0)], [], [])) 8 (by kernel_rfl) (by kernel_rfl) (fun k hk => by cases hk) (by kernel_rfl) (laidMet_of_run' 8 (by kernel_rfl) (by kernel_rfl)))) ?_
  intro W base args ds gs before hval hW _ _ hsz hL _ _
  exact contract H enc W base args ds gs before hval hW hsz hL
theorem said : Rows.ShaBitsSaid :=
  OpenClaim.holds_of_cond 6 Tryd.f6 rfl rfl rfl rfl rfl rfl rfl ⟨rfl, rfl, rfl, rfl, rfl⟩ rfl rfl rfl rfl rfl (by kernel_rfl) Tryd.func6 (by kernel_rfl)
    (of_decide_eq_true (by kernel_rfl)) (by unfold Func.isWrapper; first | (rw [if_pos (by decide +kernel)]; kernel_rfl) | (rw [if_neg (by decide +kernel)]; exact ⟨rfl, rfl⟩))
    (fun os started H enc _ F => by rw [OpenClaim.pre_eq_preRow]; exact lifted os started H enc F)
theorem plain (f : FuncId) (fn : Func) (hf : Tryd.pinned.checked.prog.funcNamed Rows.shaBitsRow.func = some f) (hfn : Tryd.pinned.checked.prog.funcs[f]? = some fn) :
    false = Tryd.pinned.checked.prog.looks [] ∧ ∀ (j : Nat) t, fn.params[j]? = some t → Tryd.pinned.checked.prog.wantsStandIn t = false := by
  obtain rfl : f = 6 := Option.some.inj ((show Tryd.prog.funcNamed Rows.shaBitsRow.func = some 6 by kernel_rfl).symm.trans hf) |>.symm
  obtain rfl : fn = Tryd.f6 := (Option.some.inj (Tryd.func6.symm.trans hfn)).symm
  refine ⟨by kernel_rfl, fun j t ht => ?_⟩
  rw [Tryd.params6] at ht
  have hm : t ∈ [24, 3, 3] := by simpa using Array.mem_of_getElem? ht
  have hall : [24, 3, 3].all (fun t => !Tryd.prog.wantsStandIn t) = true := by kernel_rfl
  have h1 := List.all_eq_true.1 hall t hm
  have h2 : Tryd.prog.wantsStandIn t = false := by simpa using h1
  exact h2
theorem card : Rows.ShaBitsCardSaid :=
  Claim7.holds_tied_plain_at .later [] _ _ _ _ said (fun _ h => by cases h) (by kernel_rfl) (fun _ h => by cases h) shaBits_row_tie rfl ⟨rfl, rfl⟩ (by kernel_rfl) rfl plain (by kernel_rfl)
end Go.Proofs.YtbankcgkbiflhaaDoor.ShaBits
namespace Go.Proofs.YtbankcgkbiflhaaDoor
theorem shaBits_card : Rows.ShaBitsCardSaid := ShaBits.card
end Go.Proofs.YtbankcgkbiflhaaDoor
