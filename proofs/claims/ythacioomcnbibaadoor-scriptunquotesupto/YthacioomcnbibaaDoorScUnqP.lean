/- ScriptUnquotes: of every text (the bounded form) script.Unquote tells what the document tells, and Quote gives back what was taken. -/
import Derived.Test.YthacioomcnbibaaDoorScK
import Derived.Test.YthacioomcnbibaaDoorSc14
import Derived.Test.YthacioomcnbibaaDoorSc5
namespace Go.Proofs.YthacioomcnbibaaDoor
open Go.RowKit
set_option linter.unusedVariables false
theorem decL_le (n : Nat) (s : List UInt8) : (decL n s).length ≤ s.length := by
  induction n generalizing s with
  | zero => simp [decL]
  | succ n ih =>
    unfold decL
    split
    · simp
    · cases s with
      | nil => simp at *
      | cons c r =>
        have h1 := dec1_size c r
        have h2 := ih ((c :: r).drop (dec1 (c :: r)).2)
        rw [List.length_drop] at h2
        simp only [List.length_cons] at *
        omega
theorem unq_len {s l : List UInt8} (h : unq s = some l) : l.length ≤ s.length := by
  have := unq_some h
  have h2 := quoteL_len l
  have h3 := (qb_len l).1
  rw [this] at h2
  omega
set_option maxHeartbeats 400000 in
set_option maxRecDepth 100000 in
theorem unquotes_walk (s : ByteArray) (w : World) (hb : s.size ≤ 1048576) (T : Tb w) : Calls Tryd.prog 4 #[.string s] w fun e w' => e = .returned (.bool true) ∧ Same w w' := by
  have HA := hidden (fun W k => awake_any W (T.same k))
  have HU := hidden (unquote_any s (by omega))
  have HD := hidden (unquoteD_any s (by omega))
  have hsl : s.data.toList.length = s.size := size_list s
  cases hu : unq s.data.toList with
  | none =>
    rw [hu] at HU HD
    simp only [uqV] at HU HD
    clear T hsl hu
    go_enter Tryd.func4, Tryd.ntmps4
    go_wp2_with (first
      | (go_at_call 10; refine (HU.out _).mono ?_; rintro e w1 ⟨rfl, k1⟩; have K1 := hidden k1; clear k1)
      | (go_at_call 13; refine (HD.out _).mono ?_; rintro e w2 ⟨rfl, k2⟩; have K2 := hidden (K1.out.trans k2); clear k2)
      | (go_at_call 11; refine (HA.out _ K2.out).mono ?_; rintro e w3 ⟨rfl, k3⟩; have K3 := hidden (K2.out.trans k3); clear k3))
    go_returns
    exact ⟨rfl, K3.out⟩
  | some l =>
    rw [hu] at HU HD
    simp only [uqV] at HU HD
    have hl := unq_len hu
    have HQ := hidden (quote_any (BA l) (by rw [BA_size]; omega))
    rw [BA_data, unq_some hu, BA_of] at HQ
    generalize BA l = y at *
    clear T hsl hu hl
    go_enter Tryd.func4, Tryd.ntmps4
    go_wp2_with (first
      | (go_at_call 10; refine (HU.out _).mono ?_; rintro e w1 ⟨rfl, k1⟩; have K1 := hidden k1; clear k1)
      | (go_at_call 13; refine (HD.out _).mono ?_; rintro e w2 ⟨rfl, k2⟩; have K2 := hidden (K1.out.trans k2); clear k2)
      | (go_at_call 11; refine (HA.out _ K2.out).mono ?_; rintro e w3 ⟨rfl, k3⟩; have K3 := hidden (K2.out.trans k3); clear k3)
      | (go_at_call 9; refine (HQ.out _).mono ?_; rintro e w4 ⟨rfl, k4⟩; have K4 := hidden (K3.out.trans k4); clear k4))
    go_returns
    exact ⟨rfl, K4.out⟩
end Go.Proofs.YthacioomcnbibaaDoor
namespace Go.Proofs.YthacioomcnbibaaDoor.ScriptUnquotes
open Go.ChangeShapes Go.WideShapes Go.ChangeAt Go.RowKit Go.Joins Go.ChangeMaps
set_option maxRecDepth 100000 in
theorem contract (H : Type) (enc : TypeId × Value → H) (W : World) (base : Nat) (args : Array Value) (ds gs : List (DataW H)) (before : List MemPlace)
    (hval : ∀ (j : Nat) t v, Tryd.f4.params[j]? = some t → args[j]? = some v → Value.okWide Tryd.prog W .any base t v)
    (hW : DataW.Whole enc Tryd.prog Tryd.f4.params.toList Rows.scriptUnquotesSpec.vars false W args.toList ds gs before)
    (hsz : (DataW.weightsEach Tryd.prog (Tryd.f4.params.toList ++ (OpenSpec.ofChange Rows.scriptUnquotesSpec).bare.plain.varTypes Tryd.prog) (ds ++ gs)).all (· ≤ reachBytes) = true)
    (hk : Rows.uptoSmall H (ds ++ gs) = true)
    (hL : laidMetH Tryd.prog Rows.scriptUnquotesUptoRow.laid W) :
    Calls Tryd.prog 4 args W fun e W' => ∃ v, e = .returned v ∧ Rows.scriptUnquotesSpec.post enc Tryd.prog Tryd.f4 false true false false W args v W' := by
  have hW' := hW
  obtain ⟨p, q, hA0, hV, rfl, hfz, hnd⟩ := hW
  have hA : DataW.TrodAll enc Tryd.prog W 0 (fun _ => true) true Tryd.f4.params.toList args.toList ds p := hA0
  rw [Tryd.params4] at hA hval hsz
  obtain ⟨v0, vs0, d0, ds0, p0, q0, hargs, rfl, rfl, h0, r0⟩ := trodAll_cons hA
  obtain ⟨rfl, rfl, rfl⟩ := trodAll_nil r0
  obtain rfl : args = #[v0] := by cases args; simp_all
  obtain ⟨rfl, rfl⟩ := trodVars_none hV
  obtain ⟨s, rfl, rfl, rfl, _⟩ := open_string Tryd.underlying9 (hval 0 9 v0 rfl rfl) h0
  have bk_s := bulk_string (H := H) s
  have hbk : s.size ≤ 1048576 := by
    have h9 := of_decide_eq_true hk
    simp only [List.append_nil, Rows.uptoBulkAll] at h9
    omega
  refine (unquotes_walk s W hbk (tab_laid hL)).mono fun e W' ⟨he, hg⟩ => ?_
  subst he
  exact ⟨_, rfl, law_post laidOut (by rw [Tryd.params4]; decide +kernel) rfl hW' rfl Tryd.underlying4 ⟨rfl, rfl, rfl⟩ (hg.below (Nat.le_refl _) fun _ h => h.elim)⟩
set_option maxRecDepth 100000 in
theorem lifted (os : Os) (started : os.Started) (H : Type) (enc : TypeId × Value → H) (F : Stop.Interp) :
    ReturnsInHanded {} Tryd.checked os 4 .any ((Rows.OpenSpec.upto Rows.scriptUnquotesSpec).preRow enc Tryd.prog Tryd.f4 Rows.scriptUnquotesUptoRow.domain false Rows.scriptUnquotesUptoRow.laid) (((Rows.OpenSpec.upto Rows.scriptUnquotesSpec).at F).post enc Tryd.prog Tryd.f4 false true false false) := by
  refine returnsInHanded_of_row (C := Tryd.checked) (s := Rows.OpenSpec.upto Rows.scriptUnquotesSpec) own started (by kernel_rfl) Tryd.func4
    (witness_row_atRef (enc := enc) (C := Tryd.checked) false (laidWorld (World.holding Tryd.prog os ⟨#[.cells #[.string synS] 121, .cells #[.string rngS] 121], #[], []⟩) (World.holding Tryd.prog os ⟨#[], #[], []⟩).heap.size) #[.string ⟨#[]⟩] rfl (by kernel_rfl) (by kernel_rfl) (by kernel_rfl)
      (OpenSpec.preRow_of_cond (x := ([.lit (.string [])], [], [])) 8 (by kernel_rfl) (by kernel_rfl) (fun k hk => by cases hk; kernel_rfl) (by kernel_rfl) (laidMet_of_run' 8 (by kernel_rfl) (by kernel_rfl)))) ?_
  intro W base args ds gs before hval hW _ hcond hsz hL _ _
  exact contract H enc W base args ds gs before hval hW hsz (hcond _ rfl) hL
theorem said : Rows.ScriptUnquotesUptoSaid :=
  OpenClaim.holds_of_cond 4 Tryd.f4 rfl rfl rfl rfl rfl rfl rfl ⟨rfl, rfl, rfl, rfl, rfl⟩ rfl rfl rfl rfl rfl (by kernel_rfl) Tryd.func4 (by kernel_rfl)
    (of_decide_eq_true (by kernel_rfl)) (by unfold Func.isWrapper; first | (rw [if_pos (by decide +kernel)]; kernel_rfl) | (rw [if_neg (by decide +kernel)]; exact ⟨rfl, rfl⟩))
    (fun os started H enc _ F => by rw [OpenClaim.pre_eq_preRow]; exact lifted os started H enc F)
theorem plain (f : FuncId) (fn : Func) (hf : Tryd.pinned.checked.prog.funcNamed Rows.scriptUnquotesUptoRow.func = some f) (hfn : Tryd.pinned.checked.prog.funcs[f]? = some fn) :
    true = Tryd.pinned.checked.prog.looks [] ∧ ∀ (j : Nat) t, fn.params[j]? = some t → Tryd.pinned.checked.prog.wantsStandIn t = false := by
  obtain rfl : f = 4 := Option.some.inj ((show Tryd.prog.funcNamed Rows.scriptUnquotesUptoRow.func = some 4 by kernel_rfl).symm.trans hf) |>.symm
  obtain rfl : fn = Tryd.f4 := (Option.some.inj (Tryd.func4.symm.trans hfn)).symm
  refine ⟨by kernel_rfl, fun j t ht => ?_⟩
  rw [Tryd.params4] at ht
  have hm : t ∈ [9] := by simpa using Array.mem_of_getElem? ht
  have hall : [9].all (fun t => !Tryd.prog.wantsStandIn t) = true := by kernel_rfl
  have h1 := List.all_eq_true.1 hall t hm
  have h2 : Tryd.prog.wantsStandIn t = false := by simpa using h1
  exact h2
theorem card : Rows.ScriptUnquotesUptoCardSaid :=
  Claim7.holds_tied_plain_at .later [] _ _ _ _ said (fun _ h => by cases h) (by kernel_rfl) (fun _ h => by cases h) scriptUnquotesUpto_row_tie rfl ⟨rfl, rfl⟩ (by kernel_rfl) rfl plain (by kernel_rfl)
end Go.Proofs.YthacioomcnbibaaDoor.ScriptUnquotes
namespace Go.Proofs.YthacioomcnbibaaDoor
theorem scriptUnquotesUpto_card : Rows.ScriptUnquotesUptoCardSaid := ScriptUnquotes.card
end Go.Proofs.YthacioomcnbibaaDoor
