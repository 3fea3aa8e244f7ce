/-
  ShaParses (P1.1, P1.4): whatever the text: Parse tells what the document's tells, and Hex of what it tells is the text: the law's call returns true and leaves its argument as it was.
  Condition: the table roundWords holds what the program's text lays (the card ties it).
-/
import Derived.Test.YtbankcgkbiflhaaDoorSK
import Derived.Test.YtbankcgkbiflhaaDoorShQ
import Derived.Test.YtbankcgkbiflhaaDoorPr2
namespace Go.Proofs.YtbankcgkbiflhaaDoor
open Go.RowKit
set_option linter.unusedVariables false
set_option maxHeartbeats 4000000 in
set_option maxRecDepth 100000 in
theorem sparses_walk (s : ByteArray) (w : World) (hs : s.size ≤ 140737488351232) (hT : Tab w) :
    Calls Tryd.prog 5 #[.string s] w fun e w' => e = .returned (.bool true) ∧ Same w w' := by
  have HT := hidden hT
  have hpl := parV_len s.data.toList
  have hz : ((parV s.data.toList).map U8).toArray.size = 32 := by simp [hpl]
  have HZ := hidden hz
  have H1c : Hid (((parV s.data.toList).map U8).toArray.all (·.oneCell') = true) := hidden (by rw [← row32_full _ hpl]; exact row32_one _ _)
  have HPa := hidden (fun W => parse_any s (by omega) W)
  have HPd := hidden (fun W => parseD_any s (by omega) W)
  have heq := fun W => sum_eqIn (parV s.data.toList) hpl W
  have HHx : Hid (okS s.data.toList = true → ∀ W, Calls Tryd.prog 15 #[.agg ((parV s.data.toList).map U8).toArray] W fun e w' => e = .returned (.string s) ∧ Same W w') := hidden (fun ho W => by
    have h := hex_any (parV s.data.toList) hpl W
    have e : parV s.data.toList = valS s.data.toList := by unfold parV; rw [ho]; rfl
    have e2 : (⟨(hexOf (parV s.data.toList)).toArray⟩ : ByteArray) = s := by rw [e, val_hex _ ho]
    rw [e2] at h
    exact h)
  generalize okS s.data.toList = ok at *
  generalize ((parV s.data.toList).map U8).toArray = C at *
  clear hT hpl hz
  cases ok with
  | true =>
    have HH := hidden (HHx.out rfl)
    clear HHx
    go_enter Tryd.func5, Tryd.ntmps5
    go_wp2_with (first
      | (go_at_call 14; refine (HPa.out _).mono ?_; rintro e w1 ⟨rfl, k1⟩; have K1 := hidden k1; clear k1; have tok : True := trivial)
      | (go_at_call 17; refine (HPd.out _).mono ?_; rintro e w3 ⟨rfl, k3⟩; have K3 := hidden (Kept.trans K2.out k3); have B3 := hidden (blk_kept k3 (fun h => h) B2.out); clear k3)
      | (have _t := tok; refine wl_store 24 _ _ rfl rfl rfl _ rfl C rfl (run_storeAt_new w1 24 _ C (by rw [i24, HZ.out]) (by rw [HZ.out]; rfl) H1c.out) ?_; clear tok; have K2 := hidden (K1.out.alloc (.cells C 24)); have B2 := hidden (blk_new w1 (.cells C 24)); obtain ⟨g1, hg1⟩ : ∃ g1, w1.heap.size = g1 := ⟨_, rfl⟩; rw [hg1] at B2 ⊢; generalize w1.alloc (.cells C 24) = W2 at *; clear hg1)
      | (refine wl_store 24 _ _ rfl rfl rfl _ rfl C rfl (run_storeAt_new w3 24 _ C (by rw [i24, HZ.out]) (by rw [HZ.out]; rfl) H1c.out) ?_; have K4 := hidden (K3.out.alloc (.cells C 24)); have B4 := hidden (blk_alloc B3.out (.cells C 24)); have B5 := hidden (blk_new w3 (.cells C 24)); obtain ⟨g3, hg3⟩ : ∃ g3, w3.heap.size = g3 := ⟨_, rfl⟩; rw [hg3] at B5 ⊢; generalize w3.alloc (.cells C 24) = W4 at *; clear hg3)
      | (go_at_call 10; refine (lives_any _ (HT.out.same K4.out)).mono ?_; rintro e w5 ⟨rfl, k5⟩; have L1 := hidden (ld_row (P := Tryd.prog) (ty := 24) (blk_kept k5 (fun h => h) B4.out) Tryd.underlying24 rfl 32 i24 HZ.out); have L2 := hidden (ld_row (P := Tryd.prog) (ty := 24) (blk_kept k5 (fun h => h) B5.out) Tryd.underlying24 rfl 32 i24 HZ.out); have K5 := hidden (Kept.trans K4.out k5); clear k5)
      | (refine wg_load 24 _ rfl rfl _ rfl _ L1.out ?_)
      | (refine wg_load 24 _ rfl rfl _ rfl _ L2.out ?_)
      | (go_at_call 15; refine (HH.out _).mono ?_; rintro e w6 ⟨rfl, k6⟩))
    go_returns
    exact ⟨rfl, Kept.trans K5.out k6⟩
  | false =>
    clear HHx
    go_enter Tryd.func5, Tryd.ntmps5
    go_wp2_with (first
      | (go_at_call 14; refine (HPa.out _).mono ?_; rintro e w1 ⟨rfl, k1⟩; have K1 := hidden k1; clear k1; have tok : True := trivial)
      | (go_at_call 17; refine (HPd.out _).mono ?_; rintro e w3 ⟨rfl, k3⟩; have K3 := hidden (Kept.trans K2.out k3); have B3 := hidden (blk_kept k3 (fun h => h) B2.out); clear k3)
      | (have _t := tok; refine wl_store 24 _ _ rfl rfl rfl _ rfl C rfl (run_storeAt_new w1 24 _ C (by rw [i24, HZ.out]) (by rw [HZ.out]; rfl) H1c.out) ?_; clear tok; have K2 := hidden (K1.out.alloc (.cells C 24)); have B2 := hidden (blk_new w1 (.cells C 24)); obtain ⟨g1, hg1⟩ : ∃ g1, w1.heap.size = g1 := ⟨_, rfl⟩; rw [hg1] at B2 ⊢; generalize w1.alloc (.cells C 24) = W2 at *; clear hg1)
      | (refine wl_store 24 _ _ rfl rfl rfl _ rfl C rfl (run_storeAt_new w3 24 _ C (by rw [i24, HZ.out]) (by rw [HZ.out]; rfl) H1c.out) ?_; have K4 := hidden (K3.out.alloc (.cells C 24)); have B4 := hidden (blk_alloc B3.out (.cells C 24)); have B5 := hidden (blk_new w3 (.cells C 24)); obtain ⟨g3, hg3⟩ : ∃ g3, w3.heap.size = g3 := ⟨_, rfl⟩; rw [hg3] at B5 ⊢; generalize w3.alloc (.cells C 24) = W4 at *; clear hg3)
      | (go_at_call 10; refine (lives_any _ (HT.out.same K4.out)).mono ?_; rintro e w5 ⟨rfl, k5⟩; have L1 := hidden (ld_row (P := Tryd.prog) (ty := 24) (blk_kept k5 (fun h => h) B4.out) Tryd.underlying24 rfl 32 i24 HZ.out); have L2 := hidden (ld_row (P := Tryd.prog) (ty := 24) (blk_kept k5 (fun h => h) B5.out) Tryd.underlying24 rfl 32 i24 HZ.out); have K5 := hidden (Kept.trans K4.out k5); clear k5)
      | (refine wg_load 24 _ rfl rfl _ rfl _ L1.out ?_)
      | (refine wg_load 24 _ rfl rfl _ rfl _ L2.out ?_))
    go_returns
    exact ⟨rfl, K5.out⟩
end Go.Proofs.YtbankcgkbiflhaaDoor
namespace Go.Proofs.YtbankcgkbiflhaaDoor.ShaParses
open Go.ChangeShapes Go.WideShapes Go.ChangeAt Go.RowKit Go.Joins Go.ChangeMaps
set_option maxRecDepth 100000 in
theorem contract (H : Type) (enc : TypeId × Value → H) (W : World) (base : Nat) (args : Array Value) (ds gs : List (DataW H)) (before : List MemPlace)
    (hval : ∀ (j : Nat) t v, Tryd.f5.params[j]? = some t → args[j]? = some v → Value.okWide Tryd.prog W .any base t v)
    (hW : DataW.Whole enc Tryd.prog Tryd.f5.params.toList Rows.shaParsesSpec.vars false W args.toList ds gs before)
    (hsz : (DataW.weightsEach Tryd.prog (Tryd.f5.params.toList ++ (OpenSpec.ofChange Rows.shaParsesSpec).bare.plain.varTypes Tryd.prog) (ds ++ gs)).all (· ≤ reachBytes) = true)
    (hL : laidMetH Tryd.prog Rows.shaParsesRow.laid W) :
    Calls Tryd.prog 5 args W fun e W' => ∃ v, e = .returned v ∧ Rows.shaParsesSpec.post enc Tryd.prog Tryd.f5 false true false false W args v W' := by
  have hW' := hW
  obtain ⟨p, q, hA0, hV, rfl, hfz, hnd⟩ := hW
  have hA : DataW.TrodAll enc Tryd.prog W 0 (fun _ => true) true Tryd.f5.params.toList args.toList ds p := hA0
  rw [Tryd.params5] at hA hval hsz
  obtain ⟨v0, vs0, d0, ds0, p0, q0, hargs, rfl, rfl, h0, r0⟩ := trodAll_cons hA
  obtain ⟨rfl, rfl, rfl⟩ := trodAll_nil r0
  obtain rfl : args = #[v0] := by cases args; simp_all
  obtain ⟨rfl, rfl⟩ := trodVars_none hV
  obtain ⟨s, rfl, rfl, rfl, _⟩ := open_string Tryd.underlying9 (hval 0 9 v0 rfl rfl) h0
  have l_s : s.size ≤ 140737488351232 := by
    have h2 := sized_string hsz (j := 0) (t := 9) (bytes := s.data.toList) rfl rfl
    rw [size_list] at h2
    unfold reachBytes at h2
    omega
  refine (sparses_walk s W l_s (tab_laid hL)).mono fun e W' ⟨he, hg⟩ => ?_
  subst he
  exact ⟨_, rfl, law_post laidOut (by rw [Tryd.params5]; decide +kernel) rfl hW' rfl Tryd.underlying4 ⟨rfl, rfl, rfl⟩ (hg.below (Nat.le_refl _) fun _ h => h.elim)⟩
set_option maxRecDepth 100000 in
theorem lifted (os : Os) (started : os.Started) (H : Type) (enc : TypeId × Value → H) (F : Stop.Interp) :
    ReturnsInHanded {} Tryd.checked os 5 .any ((OpenSpec.ofChange Rows.shaParsesSpec).preRow enc Tryd.prog Tryd.f5 Rows.shaParsesRow.domain false Rows.shaParsesRow.laid) (((OpenSpec.ofChange Rows.shaParsesSpec).at F).post enc Tryd.prog Tryd.f5 false true false false) := by
  refine returnsInHanded_of_row (C := Tryd.checked) (s := OpenSpec.ofChange Rows.shaParsesSpec) own started (by kernel_rfl) Tryd.func5
    (witness_row_at (enc := enc) (C := Tryd.checked) false ({ World.holding Tryd.prog os ⟨#[], #[], []⟩ with heap := (World.holding Tryd.prog os ⟨#[], #[], []⟩).heap.modify tabBlock fun | .cells _ t frozen => .cells (tabInts.map (Value.int .u32)).toArray t frozen | o => o }) #[.string ⟨#[]⟩] rfl (by kernel_rfl) (by kernel_rfl) (by kernel_rfl)
      (OpenSpec.preRow_of_cond (x := ([.lit (.string [])], [], [])) 8 (by kernel_rfl) (by kernel_rfl) (fun k hk => by cases hk) (by kernel_rfl) (laidMet_of_run' 8 (by kernel_rfl) (by kernel_rfl)))) ?_
  intro W base args ds gs before hval hW _ _ hsz hL _ _
  exact contract H enc W base args ds gs before hval hW hsz hL
theorem said : Rows.ShaParsesSaid :=
  OpenClaim.holds_of_cond 5 Tryd.f5 rfl rfl rfl rfl rfl rfl rfl ⟨rfl, rfl, rfl, rfl, rfl⟩ rfl rfl rfl rfl rfl (by kernel_rfl) Tryd.func5 (by kernel_rfl)
    (of_decide_eq_true (by kernel_rfl)) (by unfold Func.isWrapper; first | (rw [if_pos (by decide +kernel)]; kernel_rfl) | (rw [if_neg (by decide +kernel)]; exact ⟨rfl, rfl⟩))
    (fun os started H enc _ F => by rw [OpenClaim.pre_eq_preRow]; exact lifted os started H enc F)
theorem plain (f : FuncId) (fn : Func) (hf : Tryd.pinned.checked.prog.funcNamed Rows.shaParsesRow.func = some f) (hfn : Tryd.pinned.checked.prog.funcs[f]? = some fn) :
    false = Tryd.pinned.checked.prog.looks [] ∧ ∀ (j : Nat) t, fn.params[j]? = some t → Tryd.pinned.checked.prog.wantsStandIn t = false := by
  obtain rfl : f = 5 := Option.some.inj ((show Tryd.prog.funcNamed Rows.shaParsesRow.func = some 5 by kernel_rfl).symm.trans hf) |>.symm
  obtain rfl : fn = Tryd.f5 := (Option.some.inj (Tryd.func5.symm.trans hfn)).symm
  refine ⟨by kernel_rfl, fun j t ht => ?_⟩
  rw [Tryd.params5] at ht
  have hm : t ∈ [9] := by simpa using Array.mem_of_getElem? ht
  have hall : [9].all (fun t => !Tryd.prog.wantsStandIn t) = true := by kernel_rfl
  have h1 := List.all_eq_true.1 hall t hm
  have h2 : Tryd.prog.wantsStandIn t = false := by simpa using h1
  exact h2
theorem card : Rows.ShaParsesCardSaid :=
  Claim7.holds_tied_plain_at .later [] _ _ _ _ said (fun _ h => by cases h) (by kernel_rfl) (fun _ h => by cases h) shaParses_row_tie rfl ⟨rfl, rfl⟩ (by kernel_rfl) rfl plain (by kernel_rfl)
end Go.Proofs.YtbankcgkbiflhaaDoor.ShaParses
namespace Go.Proofs.YtbankcgkbiflhaaDoor
theorem shaParses_card : Rows.ShaParsesCardSaid := ShaParses.card
end Go.Proofs.YtbankcgkbiflhaaDoor
