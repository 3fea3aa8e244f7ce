/-
  SeqNobody (P10.4): whatever the step: of a nil Heap and of a nil Map the program tells what the chapter says: the law's call returns true and leaves its arguments as they were.
  No condition.
-/
import Derived.Test.YtcejgbojiejjdaaSNobody
namespace Go.Proofs.Ytcejgbojiejjdaa
end Go.Proofs.Ytcejgbojiejjdaa
namespace Go.Proofs.Ytcejgbojiejjdaa.SeqNobody
open Go.ChangeShapes Go.WideShapes Go.ChangeAt Go.RowKit Go.Joins Go.ChangeMaps
set_option maxRecDepth 100000 in
theorem contract (H : Type) (enc : TypeId × Value → H) (W : World) (base : Nat) (args : Array Value) (ds gs : List (DataW H)) (before : List MemPlace)
    (hval : ∀ (j : Nat) t v, Try.f10.params[j]? = some t → args[j]? = some v → Value.okWide Try.prog W .any base t v)
    (hW : DataW.Whole enc Try.prog Try.f10.params.toList Rows.seqNobodySpec.vars false W args.toList ds gs before)
    (hsz : (DataW.weightsEach Try.prog (Try.f10.params.toList ++ (OpenSpec.ofChange Rows.seqNobodySpec).bare.plain.varTypes Try.prog) (ds ++ gs)).all (· ≤ reachBytes) = true)
    (_hL : laidMetH Try.prog Rows.seqNobodyRow.laid W) :
    Calls Try.prog 10 args W fun e W' => ∃ v, e = .returned v ∧ Rows.seqNobodySpec.post enc Try.prog Try.f10 false true false false W args v W' := by
  have hW' := hW
  obtain ⟨p, q, hA0, hV, rfl, hfz, hnd⟩ := hW
  have hA : DataW.TrodAll enc Try.prog W 0 (fun _ => true) true Try.f10.params.toList args.toList ds p := hA0
  rw [Try.params10] at hA hval hsz
  obtain ⟨v0, vs0, d0, ds0, p0, q0, hargs, rfl, rfl, h0, r0⟩ := trodAll_cons hA
  obtain ⟨rfl, rfl, rfl⟩ := trodAll_nil r0
  obtain rfl : args = #[v0] := by cases args; simp_all
  obtain ⟨rfl, rfl⟩ := trodVars_none hV
  obtain ⟨c0_0, c0_1, c0_2, c0_3, y0_0, y0_1, y0_2, y0_3, m0, rfl, rfl, hp0, hy0_0, hy0_1, hy0_2, hy0_3⟩ := open_agg4 Try.underlying44 (by kernel_rfl) (by kernel_rfl) (hval 0 44 v0 rfl rfl) h0
  obtain ⟨oKind, e0_0, rfl, w_oKind⟩ := DataW.trod_int Try.underlying3 hy0_0
  obtain ⟨oKey, e0_1, rfl, _⟩ := DataW.trod_string Try.underlying9 hy0_1
  obtain ⟨oTo, e0_2, rfl, _⟩ := DataW.trod_string Try.underlying9 hy0_2
  obtain ⟨oN, e0_3, rfl, w_oN⟩ := DataW.trod_int Try.underlying3 hy0_3
  simp at e0_0 e0_1 e0_2 e0_3
  subst e0_0 e0_1 e0_2 e0_3
  have b_oKind : -9223372036854775808 ≤ oKind ∧ oKind ≤ 9223372036854775807 := by simpa [Lit.wf, IntKind.min, IntKind.max, IntKind.signed, IntKind.bits] using w_oKind
  have b_oN : -9223372036854775808 ≤ oN ∧ oN ≤ 9223372036854775807 := by simpa [Lit.wf, IntKind.min, IntKind.max, IntKind.signed, IntKind.bits] using w_oN
  have l_oKey : oKey.size ≤ 140737488351232 := by
    have h1 := List.all_eq_true.1 hsz oKey.data.toList.length (DataW.weights_mem_each (j := 0) (t := 44) rfl rfl _ (by simp [DataW.weights, DataW.weightsEach, Try.underlying44]))
    have h2 := of_decide_eq_true h1
    rw [size_list] at h2
    unfold reachBytes at h2
    omega
  have l_oTo : oTo.size ≤ 140737488351232 := by
    have h1 := List.all_eq_true.1 hsz oTo.data.toList.length (DataW.weights_mem_each (j := 0) (t := 44) rfl rfl _ (by simp [DataW.weights, DataW.weightsEach, Try.underlying44]))
    have h2 := of_decide_eq_true h1
    rw [size_list] at h2
    unfold reachBytes at h2
    omega
  refine (nobody_walk2 oKind oKey oTo oN W b_oKind.1 b_oKind.2 l_oKey l_oTo b_oN.1 b_oN.2).mono fun e W' ⟨he, hg⟩ => ?_
  subst he
  exact ⟨_, rfl, law_post laidOut (by rw [Try.params10]; decide +kernel) rfl hW' rfl Try.underlying4 ⟨rfl, rfl, rfl⟩ (hg.below (Nat.le_refl _) fun _ h => h.elim)⟩
set_option maxRecDepth 100000 in
theorem lifted (os : Os) (started : os.Started) (H : Type) (enc : TypeId × Value → H) (F : Stop.Interp) :
    ReturnsInHanded {} Try.checked os 10 .any ((OpenSpec.ofChange Rows.seqNobodySpec).preRow enc Try.prog Try.f10 Rows.seqNobodyRow.domain false Rows.seqNobodyRow.laid) (((OpenSpec.ofChange Rows.seqNobodySpec).at F).post enc Try.prog Try.f10 false true false false) := by
  refine returnsInHanded_of_row (C := Try.checked) (s := OpenSpec.ofChange Rows.seqNobodySpec) own started (by kernel_rfl) Try.func10
    (witness_row_at (enc := enc) (C := Try.checked) false (World.holding Try.prog os ⟨#[], #[], []⟩) #[.agg #[.int .i64 0, .string ⟨#[]⟩, .string ⟨#[]⟩, .int .i64 0]] rfl (by kernel_rfl) (by kernel_rfl) (by kernel_rfl)
      (OpenSpec.preRow_of_cond (x := ([.agg [.lit (.int .i64 0), .lit (.string []), .lit (.string []), .lit (.int .i64 0)]], [], [])) 8 (by kernel_rfl) (by kernel_rfl) (fun k hk => by cases hk) (by kernel_rfl) (laidMet_of_run' 8 (by kernel_rfl) (by kernel_rfl)))) ?_
  intro W base args ds gs before hval hW _ _ hsz hL _ _
  exact contract H enc W base args ds gs before hval hW hsz hL
theorem said : Rows.SeqNobodySaid :=
  OpenClaim.holds_of_cond 10 Try.f10 rfl rfl rfl rfl rfl rfl rfl ⟨rfl, rfl, rfl, rfl, rfl⟩ rfl rfl rfl rfl rfl (by kernel_rfl) Try.func10 (by kernel_rfl)
    (of_decide_eq_true (by kernel_rfl)) (by unfold Func.isWrapper; first | (rw [if_pos (by decide +kernel)]; kernel_rfl) | (rw [if_neg (by decide +kernel)]; exact ⟨rfl, rfl⟩))
    (fun os started H enc _ F => by rw [OpenClaim.pre_eq_preRow]; exact lifted os started H enc F)
end Go.Proofs.Ytcejgbojiejjdaa.SeqNobody
namespace Go.Proofs.Ytcejgbojiejjdaa
theorem seqNobody_said : Rows.SeqNobodySaid := SeqNobody.said
end Go.Proofs.Ytcejgbojiejjdaa
