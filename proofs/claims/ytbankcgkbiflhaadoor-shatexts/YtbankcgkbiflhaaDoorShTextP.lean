/-
  ShaTexts (P1.1, P1.4): whatever the sum: its text is the document's, and Parse of it is the sum: the law's call returns true and leaves its argument as it was.
  Condition: the table roundWords holds what the program's text lays (the card ties it).
-/
import Derived.Test.YtbankcgkbiflhaaDoorSK
import Derived.Test.YtbankcgkbiflhaaDoorShQ
import Derived.Test.YtbankcgkbiflhaaDoorPr1
import Derived.Test.YtbankcgkbiflhaaDoorHx2
namespace Go.Proofs.YtbankcgkbiflhaaDoor
open Go.RowKit
set_option linter.unusedVariables false
set_option maxHeartbeats 4000000 in
set_option maxRecDepth 100000 in
theorem stexts_walk (l : List UInt8) (w : World) (hl : l.length = 32) (hT : Tab w) :
    Calls Tryd.prog 4 #[.agg (l.map U8).toArray] w fun e w' => e = .returned (.bool true) ∧ Same w w' := by
  have HT := hidden hT
  have HL := hidden hl
  have hz : (l.map U8).toArray.size = 32 := by simp [hl]
  have HZ := hidden hz
  have H1c : Hid ((l.map U8).toArray.all (·.oneCell') = true) := hidden (by rw [← row32_full l hl]; exact row32_one _ _)
  have HPa := hidden (fun W => parse_any ⟨(hexOf l).toArray⟩ (by rw [← size_list]; simp [hexOf_len, hl]) W)
  have e1 : (⟨(hexOf l).toArray⟩ : ByteArray).data.toList = hexOf l := by simp
  rw [e1, par_hex l hl, hex_ok l hl] at HPa
  have HHx := hidden (fun W => hex_any l hl W)
  obtain ⟨r, hr⟩ : ∃ r, w.heap.size = r := ⟨_, rfl⟩
  have B0 : Hid ((w.alloc (.cells (l.map U8).toArray 24)).heap[r]? = some (.cells (l.map U8).toArray 24 (0, 0))) := hidden (by rw [← hr]; exact blk_new w _)
  clear e1 hT hl hz
  go_enter Tryd.func4, Tryd.ntmps4
  go_wp2_with (first
    | (refine wl_load 24 _ rfl rfl _ rfl _ (ld_row B0.out Tryd.underlying24 rfl 32 i24 HZ.out) ?_)
    | (go_at_call 15; refine (HHx.out _).mono ?_; rintro e w1 ⟨rfl, k1⟩)
    | (go_at_call 14; refine (HPa.out _).mono ?_; rintro e w2 ⟨rfl, k2⟩)
    | (refine wl_store 24 _ _ rfl rfl rfl _ rfl _ rfl (run_storeAt_new w2 24 _ (l.map U8).toArray (by rw [i24, HZ.out]) (by rw [HZ.out]; rfl) H1c.out) ?_))
  have K3 := hidden (((Kept.trans (Kept.trans (same_alloc w (.cells (l.map U8).toArray 24)) k1) k2)).alloc (.cells (l.map U8).toArray 24))
  have B1 := hidden (blk_alloc (blk_kept k2 (fun h => h) (blk_kept k1 (fun h => h) B0.out)) (.cells (l.map U8).toArray 24))
  have B3 := hidden (blk_new w2 (.cells (l.map U8).toArray 24))
  obtain ⟨g3, hg3⟩ : ∃ g3, w2.heap.size = g3 := ⟨_, rfl⟩
  rw [hg3] at B3 ⊢
  generalize w2.alloc (.cells (l.map U8).toArray 24) = W3 at *
  have HTr : Hid (∀ W, Same W3 W → Tab W) := hidden (fun W k => HT.out.same (Kept.trans K3.out k))
  have Hl1 : Hid (∀ W, Same W3 W → (Instr.loadAt 24 (.pointer (some ⟨r, 0, none⟩))).run Tryd.prog W = .ok (.agg (l.map U8).toArray) W) := hidden (fun W k => ld_row (blk_kept k (fun h => h) B1.out) Tryd.underlying24 rfl 32 i24 HZ.out)
  have Hl3 : Hid (∀ W, Same W3 W → (Instr.loadAt 24 (.pointer (some ⟨g3, 0, none⟩))).run Tryd.prog W = .ok (.agg (l.map U8).toArray) W) := hidden (fun W k => ld_row (blk_kept k (fun h => h) B3.out) Tryd.underlying24 rfl 32 i24 HZ.out)
  clear k1 k2 hg3 B0 B1 B3
  refine reg_same hmx (by kernel_rfl) ?_
  refine q_call (by rfl) 10 #[] (.bool true) (fun W => by go_simp; try rfl) (fun W hC => (lives_any W (HTr.out W hC)).mono fun _ w' ⟨h1, h2⟩ => ⟨h1, Kept.trans hC h2⟩) ?_; (try go_simp)
  refine q_val (by rfl) (.bool true) (fun W _ => by go_simp; try rfl) ?_; (try go_simp)
  refine q_val (by rfl) (.agg (l.map U8).toArray) (fun W hC => y_load rfl rfl (Hl1.out W hC)) ?_; (try go_simp)
  refine q_call (by rfl) 15 #[.agg (l.map U8).toArray] (.string ⟨(hexOf l).toArray⟩) (fun W => by go_simp; try rfl) (fun W hC => (hex_any l HL.out W).mono fun _ w' ⟨h1, h2⟩ => ⟨h1, Kept.trans hC h2⟩) ?_; (try go_simp)
  refine q_val (by rfl) (.agg (l.map U8).toArray) (fun W hC => y_load rfl rfl (Hl1.out W hC)) ?_; (try go_simp)
  refine q_call (by rfl) 16 #[.agg (l.map U8).toArray] (.string ⟨(hexOf l).toArray⟩) (fun W => by go_simp; try rfl) (fun W hC => (hexD_any l HL.out W).mono fun _ w' ⟨h1, h2⟩ => ⟨h1, Kept.trans hC h2⟩) ?_; (try go_simp)
  refine q_val (by rfl) (.bool true) (fun W _ => by go_simp; try rfl) ?_; (try go_simp)
  refine q_val (by rfl) (.bool true) (fun W _ => by go_simp; try rfl) ?_; (try go_simp)
  refine q_val (by rfl) (.bool true) (fun W _ => by go_simp; try rfl) ?_; (try go_simp)
  refine q_val (by rfl) (.bool true) (fun W _ => by go_simp; try rfl) ?_; (try go_simp)
  refine q_val (by rfl) (.bool true) (fun W _ => by go_simp; try rfl) ?_; (try go_simp)
  refine q_val (by rfl) (.bool true) (fun W _ => by go_simp; try rfl) ?_; (try go_simp)
  refine q_val (by rfl) (.agg (l.map U8).toArray) (fun W hC => y_load rfl rfl (Hl3.out W hC)) ?_; (try go_simp)
  refine q_val (by rfl) (.agg (l.map U8).toArray) (fun W hC => y_load rfl rfl (Hl1.out W hC)) ?_; (try go_simp)
  refine q_val (by rfl) (.bool true) (fun W hC => y_eq rfl rfl rfl (sum_eq l HL.out W)) ?_; (try go_simp)
  refine q_val (by rfl) (.bool true) (fun W _ => by go_simp; try rfl) ?_; (try go_simp)
  refine q_val (by rfl) (.bool true) (fun W _ => by go_simp; try rfl) ?_; (try go_simp)
  refine wpQuiet_nil ?_
  intro w4 k4
  go_wp2
  go_returns
  exact ⟨rfl, Kept.trans K3.out k4⟩
end Go.Proofs.YtbankcgkbiflhaaDoor
namespace Go.Proofs.YtbankcgkbiflhaaDoor.ShaTexts
open Go.ChangeShapes Go.WideShapes Go.ChangeAt Go.RowKit Go.Joins Go.ChangeMaps
set_option maxRecDepth 100000 in
theorem contract (H : Type) (enc : TypeId × Value → H) (W : World) (base : Nat) (args : Array Value) (ds gs : List (DataW H)) (before : List MemPlace)
    (hval : ∀ (j : Nat) t v, Tryd.f4.params[j]? = some t → args[j]? = some v → Value.okWide Tryd.prog W .any base t v)
    (hW : DataW.Whole enc Tryd.prog Tryd.f4.params.toList Rows.shaTextsSpec.vars false W args.toList ds gs before)
    (hsz : (DataW.weightsEach Tryd.prog (Tryd.f4.params.toList ++ (OpenSpec.ofChange Rows.shaTextsSpec).bare.plain.varTypes Tryd.prog) (ds ++ gs)).all (· ≤ reachBytes) = true)
    (hL : laidMetH Tryd.prog Rows.shaTextsRow.laid W) :
    Calls Tryd.prog 4 args W fun e W' => ∃ v, e = .returned v ∧ Rows.shaTextsSpec.post enc Tryd.prog Tryd.f4 false true false false W args v W' := by
  have hW' := hW
  obtain ⟨p, q, hA0, hV, rfl, hfz, hnd⟩ := hW
  have hA : DataW.TrodAll enc Tryd.prog W 0 (fun _ => true) true Tryd.f4.params.toList args.toList ds p := hA0
  rw [Tryd.params4] at hA hval hsz
  obtain ⟨v0, vs0, d0, ds0, p0, q0, hargs, rfl, rfl, h0, r0⟩ := trodAll_cons hA
  obtain ⟨rfl, rfl, rfl⟩ := trodAll_nil r0
  obtain rfl : args = #[v0] := by cases args; simp_all
  obtain ⟨rfl, rfl⟩ := trodVars_none hV
  obtain ⟨l_sum, ln_sum, rfl⟩ := arr32_open (hval 0 24 v0 rfl rfl) h0
  refine (stexts_walk l_sum W ln_sum (tab_laid hL)).mono fun e W' ⟨he, hg⟩ => ?_
  subst he
  exact ⟨_, rfl, law_post laidOut (by rw [Tryd.params4]; decide +kernel) rfl hW' rfl Tryd.underlying4 ⟨rfl, rfl, rfl⟩ (hg.below (Nat.le_refl _) fun _ h => h.elim)⟩
set_option maxRecDepth 100000 in
theorem lifted (os : Os) (started : os.Started) (H : Type) (enc : TypeId × Value → H) (F : Stop.Interp) :
    ReturnsInHanded {} Tryd.checked os 4 .any ((OpenSpec.ofChange Rows.shaTextsSpec).preRow enc Tryd.prog Tryd.f4 Rows.shaTextsRow.domain false Rows.shaTextsRow.laid) (((OpenSpec.ofChange Rows.shaTextsSpec).at F).post enc Tryd.prog Tryd.f4 false true false false) := by
  refine returnsInHanded_of_row (C := Tryd.checked) (s := OpenSpec.ofChange Rows.shaTextsSpec) own started (by kernel_rfl) Tryd.func4
    (witness_row_at (enc := enc) (C := Tryd.checked) false ({ World.holding Tryd.prog os ⟨#[], #[], []⟩ with heap := (World.holding Tryd.prog os ⟨#[], #[], []⟩).heap.modify tabBlock fun | .cells _ t frozen => .cells (tabInts.map (Value.int .u32)).toArray t frozen | o => o }) #[.agg (((List.replicate 32 (0 : UInt8)).map U8).toArray)] rfl (by kernel_rfl) (by kernel_rfl) (by kernel_rfl)
      (OpenSpec.preRow_of_cond (x := ([.agg (List.replicate 32 (.lit (.int .u8 0)))], [], [])) 8 (by kernel_rfl) (by kernel_rfl) (fun k hk => by cases hk) (by kernel_rfl) (laidMet_of_run' 8 (by kernel_rfl) (by kernel_rfl)))) ?_
  intro W base args ds gs before hval hW _ _ hsz hL _ _
  exact contract H enc W base args ds gs before hval hW hsz hL
theorem said : Rows.ShaTextsSaid :=
  OpenClaim.holds_of_cond 4 Tryd.f4 rfl rfl rfl rfl rfl rfl rfl ⟨rfl, rfl, rfl, rfl, rfl⟩ rfl rfl rfl rfl rfl (by kernel_rfl) Tryd.func4 (by kernel_rfl)
    (of_decide_eq_true (by kernel_rfl)) (by unfold Func.isWrapper; first | (rw [if_pos (by decide +kernel)]; kernel_rfl) | (rw [if_neg (by decide +kernel)]; exact ⟨rfl, rfl⟩))
    (fun os started H enc _ F => by rw [OpenClaim.pre_eq_preRow]; exact lifted os started H enc F)
theorem plain (f : FuncId) (fn : Func) (hf : Tryd.pinned.checked.prog.funcNamed Rows.shaTextsRow.func = some f) (hfn : Tryd.pinned.checked.prog.funcs[f]? = some fn) :
    false = Tryd.pinned.checked.prog.looks [] ∧ ∀ (j : Nat) t, fn.params[j]? = some t → Tryd.pinned.checked.prog.wantsStandIn t = false := by
  obtain rfl : f = 4 := Option.some.inj ((show Tryd.prog.funcNamed Rows.shaTextsRow.func = some 4 by kernel_rfl).symm.trans hf) |>.symm
  obtain rfl : fn = Tryd.f4 := (Option.some.inj (Tryd.func4.symm.trans hfn)).symm
  refine ⟨by kernel_rfl, fun j t ht => ?_⟩
  rw [Tryd.params4] at ht
  have hm : t ∈ [24] := by simpa using Array.mem_of_getElem? ht
  have hall : [24].all (fun t => !Tryd.prog.wantsStandIn t) = true := by kernel_rfl
  have h1 := List.all_eq_true.1 hall t hm
  have h2 : Tryd.prog.wantsStandIn t = false := by simpa using h1
  exact h2
theorem card : Rows.ShaTextsCardSaid :=
  Claim7.holds_tied_plain_at .later [] _ _ _ _ said (fun _ h => by cases h) (by kernel_rfl) (fun _ h => by cases h) shaTexts_row_tie rfl ⟨rfl, rfl⟩ (by kernel_rfl) rfl plain (by kernel_rfl)
end Go.Proofs.YtbankcgkbiflhaaDoor.ShaTexts
namespace Go.Proofs.YtbankcgkbiflhaaDoor
theorem shaTexts_card : Rows.ShaTextsCardSaid := ShaTexts.card
end Go.Proofs.YtbankcgkbiflhaaDoor
