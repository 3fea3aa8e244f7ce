/- PathSplits: of every path (the bounded form) path.Split, Parent and Slash tell what the document tells. -/
import Derived.Test.YtabpjegigpmfmaaDoorPaO
import Derived.Test.YtabpjegigpmfmaaDoorPaR
namespace Go.Proofs.YtabpjegigpmfmaaDoor
open Go.RowKit
set_option linter.unusedVariables false
set_option maxHeartbeats 4000000 in
set_option maxRecDepth 100000 in
theorem splits_walk (p : ByteArray) (w : World) (hb : p.size ≤ 1048576) : Calls Tryd.prog 3 #[.string p] w fun e w' => e = .returned (.bool true) ∧ Same w w' := by
  have HA := hidden awake_any
  obtain ⟨P, hP⟩ : ∃ P, P = p.data.toList := ⟨_, rfl⟩
  have hPl : P.length ≤ 1048576 := by rw [hP, size_list]; exact hb
  have hLl : (splL P).length ≤ 1048577 := by
    unfold splL
    split
    · have := pc_len P []; simp at this; omega
    · simp
  have hRl : (parL P).length ≤ 1048577 := by
    unfold parL
    split
    · have := pc_len P []; simp at this; simp; omega
    · simp
  have HS : Hid (∀ W, Calls Tryd.prog 10 #[.string p] W fun e w' => ∃ a n c, e = .returned (.tuple #[.slice a n c, .int .i64 (splE P)]) ∧ Row w' (.slice a n c) (TS ((splL P).map BA)) ∧ Same W w') := hidden (fun W => (split_any p (by omega) W).mono fun e w' ⟨u, he, ⟨v, hu, ho⟩, k⟩ => by
    rw [← hP] at hu ho
    have hr := ho.row
    obtain ⟨a, n, c, rfl⟩ := hr.any
    exact ⟨a, n, c, by rw [he, hu], hr, k⟩)
  have HSD : Hid (∀ W, Calls Tryd.prog 11 #[.string p] W fun e w' => ∃ a n c, e = .returned (.tuple #[.slice a n c, .int .i64 (splE P)]) ∧ Row w' (.slice a n c) (TS ((splL P).map BA)) ∧ Same W w') := hidden (fun W => (splitD_any p (by omega) W).mono fun e w' ⟨u, he, ⟨v, hu, ho⟩, k⟩ => by
    rw [← hP] at hu ho
    have hr := ho.row
    obtain ⟨a, n, c, rfl⟩ := hr.any
    exact ⟨a, n, c, by rw [he, hu], hr, k⟩)
  have HR : Hid (∀ W, Calls Tryd.prog 12 #[.string p] W fun e w' => ∃ a n c, e = .returned (.tuple #[.slice a n c, .string (BA (parN P)), .int .i64 (parE P)]) ∧ Row w' (.slice a n c) (TS ((parL P).map BA)) ∧ Same W w') := hidden (fun W => (parent_any p (by omega) W).mono fun e w' ⟨u, he, ⟨v, hu, hr⟩, k⟩ => by
    rw [← hP] at hu hr
    obtain ⟨a, n, c, rfl⟩ := hr.any
    exact ⟨a, n, c, by rw [he, hu], hr, k⟩)
  have HRD : Hid (∀ W, Calls Tryd.prog 13 #[.string p] W fun e w' => ∃ a n c, e = .returned (.tuple #[.slice a n c, .string (BA (parN P)), .int .i64 (parE P)]) ∧ Row w' (.slice a n c) (TS ((parL P).map BA)) ∧ Same W w') := hidden (fun W => (parentD_any p (by omega) W).mono fun e w' ⟨u, he, ⟨v, hu, hr⟩, k⟩ => by
    rw [← hP] at hu hr
    obtain ⟨a, n, c, rfl⟩ := hr.any
    exact ⟨a, n, c, by rw [he, hu], hr, k⟩)
  have HL := hidden (slash_any p (by omega))
  have HLD := hidden (slashD_any p (by omega))
  rw [← hP] at HL HLD
  generalize splE P = z1 at HS HSD
  generalize parE P = z2 at HR HRD
  generalize BA (parN P) = y at HR HRD
  generalize slashP P = t at HL HLD
  have hl1 : ((splL P).map BA).length ≤ 17592186044416 := by rw [List.length_map]; omega
  have hl2 : ((parL P).map BA).length ≤ 17592186044416 := by rw [List.length_map]; omega
  generalize (splL P).map BA = l1 at HS HSD hl1
  generalize (parL P).map BA = l2 at HR HRD hl2
  have HL1 := hidden hl1
  have HL2 := hidden hl2
  have q : (y.toList == y.toList) = true := by simp
  clear hl1 hl2 hLl hRl hPl hP hb
  have t1 : True := trivial
  go_enter Tryd.func3, Tryd.ntmps3
  go_wp2_with (first
    | (go_at_call 10; refine (HS.out _).mono ?_; rintro e w1 ⟨a1, n1, c1, rfl, r1, k1⟩; have R1 := hidden r1; have K1 := hidden k1; clear r1 k1)
    | (go_at_call 11; refine (HSD.out _).mono ?_; rintro e w2 ⟨a2, n2, c2, rfl, r2, k2⟩; have R2 := hidden r2; have K2 := hidden k2; clear r2 k2)
    | (go_at_call 12; refine (HR.out _).mono ?_; rintro e w3 ⟨a3, n3, c3, rfl, r3, k3⟩; have R3 := hidden r3; have K3 := hidden k3; clear r3 k3)
    | (go_at_call 13; refine (HRD.out _).mono ?_; rintro e w4 ⟨a4, n4, c4, rfl, r4, k4⟩; have R4 := hidden r4; have K4 := hidden k4; clear r4 k4)
    | (go_at_call 14; refine (HA.out _).mono ?_; rintro e w5 ⟨rfl, k5⟩; have K5 := hidden k5; clear k5)
    | (go_at_call 15; have _t := t1; refine (same_eq l1 a1 a2 n1 n2 c1 c2 _ (R1.out.same (K2.out.trans (K3.out.trans (K4.out.trans K5.out)))) (R2.out.same (K3.out.trans (K4.out.trans K5.out))) HL1.out).mono ?_; rintro e w6 ⟨rfl, k6⟩; have K6 := hidden k6; clear k6 t1 _t)
    | (go_at_call 15; refine (same_eq l2 a3 a4 n3 n4 c3 c4 _ (R3.out.same (K4.out.trans (K5.out.trans K6.out))) (R4.out.same (K5.out.trans K6.out)) HL2.out).mono ?_; rintro e w7 ⟨rfl, k7⟩; have K7 := hidden k7; clear k7)
    | (go_at_call 16; refine (HL.out _).mono ?_; rintro e w8 ⟨rfl, k8⟩; have K8 := hidden k8; clear k8)
    | (go_at_call 17; refine (HLD.out _).mono ?_; rintro e w9 ⟨rfl, k9⟩; have K9 := hidden k9; clear k9))
  go_returns
  exact ⟨rfl, K1.out.trans (K2.out.trans (K3.out.trans (K4.out.trans (K5.out.trans (K6.out.trans (K7.out.trans (K8.out.trans K9.out)))))))⟩
end Go.Proofs.YtabpjegigpmfmaaDoor
namespace Go.Proofs.YtabpjegigpmfmaaDoor.PathSplits
open Go.ChangeShapes Go.WideShapes Go.ChangeAt Go.RowKit Go.Joins Go.ChangeMaps
set_option maxRecDepth 100000 in
theorem contract (H : Type) (enc : TypeId × Value → H) (W : World) (base : Nat) (args : Array Value) (ds gs : List (DataW H)) (before : List MemPlace)
    (hval : ∀ (j : Nat) t v, Tryd.f3.params[j]? = some t → args[j]? = some v → Value.okWide Tryd.prog W .any base t v)
    (hW : DataW.Whole enc Tryd.prog Tryd.f3.params.toList Rows.pathSplitsSpec.vars false W args.toList ds gs before)
    (hsz : (DataW.weightsEach Tryd.prog (Tryd.f3.params.toList ++ (OpenSpec.ofChange Rows.pathSplitsSpec).bare.plain.varTypes Tryd.prog) (ds ++ gs)).all (· ≤ reachBytes) = true)
    (hk : Rows.uptoSmall H (ds ++ gs) = true)
    (_hL : laidMetH Tryd.prog Rows.pathSplitsUptoRow.laid W) :
    Calls Tryd.prog 3 args W fun e W' => ∃ v, e = .returned v ∧ Rows.pathSplitsSpec.post enc Tryd.prog Tryd.f3 false true false false W args v W' := by
  have hW' := hW
  obtain ⟨p, q, hA0, hV, rfl, hfz, hnd⟩ := hW
  have hA : DataW.TrodAll enc Tryd.prog W 0 (fun _ => true) true Tryd.f3.params.toList args.toList ds p := hA0
  rw [Tryd.params3] at hA hval hsz
  obtain ⟨v0, vs0, d0, ds0, p0, q0, hargs, rfl, rfl, h0, r0⟩ := trodAll_cons hA
  obtain ⟨rfl, rfl, rfl⟩ := trodAll_nil r0
  obtain rfl : args = #[v0] := by cases args; simp_all
  obtain ⟨rfl, rfl⟩ := trodVars_none hV
  obtain ⟨p, rfl, rfl, rfl, _⟩ := open_string Tryd.underlying9 (hval 0 9 v0 rfl rfl) h0
  have bk_p := bulk_string (H := H) p
  have hbk : p.size ≤ 1048576 := by
    have h9 := of_decide_eq_true hk
    simp only [List.append_nil, Rows.uptoBulkAll] at h9
    omega
  refine (splits_walk p W hbk).mono fun e W' ⟨he, hg⟩ => ?_
  subst he
  exact ⟨_, rfl, law_post laidOut (by rw [Tryd.params3]; decide +kernel) rfl hW' rfl Tryd.underlying4 ⟨rfl, rfl, rfl⟩ (hg.below (Nat.le_refl _) fun _ h => h.elim)⟩
set_option maxRecDepth 100000 in
theorem lifted (os : Os) (started : os.Started) (H : Type) (enc : TypeId × Value → H) (F : Stop.Interp) :
    ReturnsInHanded {} Tryd.checked os 3 .any ((Rows.OpenSpec.upto Rows.pathSplitsSpec).preRow enc Tryd.prog Tryd.f3 Rows.pathSplitsUptoRow.domain false Rows.pathSplitsUptoRow.laid) (((Rows.OpenSpec.upto Rows.pathSplitsSpec).at F).post enc Tryd.prog Tryd.f3 false true false false) := by
  refine returnsInHanded_of_row (C := Tryd.checked) (s := Rows.OpenSpec.upto Rows.pathSplitsSpec) own started (by kernel_rfl) Tryd.func3
    (witness_row_at (enc := enc) (C := Tryd.checked) false (tabWorld (World.holding Tryd.prog os ⟨#[], #[], []⟩)) #[.string ⟨#[]⟩] rfl (by kernel_rfl) (by kernel_rfl) (by kernel_rfl)
      (OpenSpec.preRow_of_cond (x := ([.lit (.string [])], [], [])) 8 (by kernel_rfl) (by kernel_rfl) (fun k hk => by cases hk; kernel_rfl) (by kernel_rfl) (laidMet_of_run' 8 (by kernel_rfl) (by kernel_rfl)))) ?_
  intro W base args ds gs before hval hW _ hcond hsz hL _ _
  exact contract H enc W base args ds gs before hval hW hsz (hcond _ rfl) hL
theorem said : Rows.PathSplitsUptoSaid :=
  OpenClaim.holds_of_cond 3 Tryd.f3 rfl rfl rfl rfl rfl rfl rfl ⟨rfl, rfl, rfl, rfl, rfl⟩ rfl rfl rfl rfl rfl (by kernel_rfl) Tryd.func3 (by kernel_rfl)
    (of_decide_eq_true (by kernel_rfl)) (by unfold Func.isWrapper; first | (rw [if_pos (by decide +kernel)]; kernel_rfl) | (rw [if_neg (by decide +kernel)]; exact ⟨rfl, rfl⟩))
    (fun os started H enc _ F => by rw [OpenClaim.pre_eq_preRow]; exact lifted os started H enc F)
theorem plain (f : FuncId) (fn : Func) (hf : Tryd.pinned.checked.prog.funcNamed Rows.pathSplitsUptoRow.func = some f) (hfn : Tryd.pinned.checked.prog.funcs[f]? = some fn) :
    false = Tryd.pinned.checked.prog.looks [] ∧ ∀ (j : Nat) t, fn.params[j]? = some t → Tryd.pinned.checked.prog.wantsStandIn t = false := by
  obtain rfl : f = 3 := Option.some.inj ((show Tryd.prog.funcNamed Rows.pathSplitsUptoRow.func = some 3 by kernel_rfl).symm.trans hf) |>.symm
  obtain rfl : fn = Tryd.f3 := (Option.some.inj (Tryd.func3.symm.trans hfn)).symm
  refine ⟨by kernel_rfl, fun j t ht => ?_⟩
  rw [Tryd.params3] at ht
  have hm : t ∈ [9] := by simpa using Array.mem_of_getElem? ht
  have hall : [9].all (fun t => !Tryd.prog.wantsStandIn t) = true := by kernel_rfl
  have h1 := List.all_eq_true.1 hall t hm
  have h2 : Tryd.prog.wantsStandIn t = false := by simpa using h1
  exact h2
theorem card : Rows.PathSplitsUptoCardSaid :=
  Claim7.holds_tied_plain_at .later [] _ _ _ _ said (fun _ h => by cases h) (by kernel_rfl) (fun _ h => by cases h) pathSplitsUpto_row_tie rfl ⟨rfl, rfl⟩ (by kernel_rfl) rfl plain (by kernel_rfl)
end Go.Proofs.YtabpjegigpmfmaaDoor.PathSplits
namespace Go.Proofs.YtabpjegigpmfmaaDoor
theorem pathSplitsUpto_card : Rows.PathSplitsUptoCardSaid := PathSplits.card
end Go.Proofs.YtabpjegigpmfmaaDoor
