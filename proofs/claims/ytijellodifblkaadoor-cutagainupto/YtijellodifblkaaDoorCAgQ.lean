/-
  CutAgain (P5.5, P5.6): again_gen at the lengths that the program answers with, and the law in its bounded form.
  Conditions: the form's bound on all that is read; the library's two tables hold what its text lays (the card ties them).
-/
import Derived.Test.YtijellodifblkaaDoorCAgP
namespace Go.Proofs.YtijellodifblkaaDoor
open Go.ChangeShapes Go.WideShapes Go.ChangeAt Go.RowKit Go.Joins Go.ChangeMaps Go.Shelf
set_option linter.unusedVariables false
theorem feet_yes (c : Shp) (hc : c.Ok) : Feet c.lens :=
  ⟨fun l => Nat.le_of_eq (lens_sum c hc l.length l (Nat.le_refl _)).1, fun l => c.lens_len hc l.length l (Nat.le_refl _),
   fun l => (lens_sum c hc l.length l (Nat.le_refl _)).2, fun a b t i j h1 h2 h3 h4 => lens_again c hc a b t h1 h2 h3 h4⟩
theorem feet_no : Feet (fun _ => []) :=
  ⟨fun l => Nat.zero_le _, fun l => Nat.zero_le _, fun l n h => absurd h (by simp), fun a b t i j _ _ _ _ => by simp⟩
set_option maxHeartbeats 1000000 in
theorem again_walk (mn no mx : Int) (seed : Nat) (va : Value) (la : List UInt8) (vb : Value) (lb : List UInt8) (vt : Value) (lt : List UInt8) (w : World)
    (h0 : -9223372036854775808 ≤ no) (h1 : no ≤ 9223372036854775807) (hs : seed < 18446744073709551616)
    (ha : Byt w va la) (hb : Byt w vb lb) (ht : Byt w vt lt) (hbk : la.length + lb.length + lt.length ≤ 1048576) (hT : Tab w) :
    Calls Tryd.prog 5 #[.agg #[.int .i64 mn, .int .i64 no, .int .i64 mx, .int .u64 seed], va, vb, vt] w fun e w' => e = .returned (.bool true) ∧ Same w w' := by
  by_cases hk : CutOk mn no mx
  · have hcs := hk.shp hs
    obtain ⟨c, hc, rfl, rfl, rfl, rfl⟩ := hcs
    refine again_gen _ _ _ _ 0 c.lens (feet_yes c hc) va la vb lb vt lt w ha hb ht hbk hT ?_ ?_
    · intro W v l hT hb hl
      refine (lengths_yes c hc hT hb (by omega)).mono ?_
      rintro e w' ⟨u, h, h2, h3⟩
      exact ⟨u, h, h2.ncs, h3⟩
    · intro W
      have h := refCheck_any c.mn c.no c.mx c.seed W h0 h1
      rw [show cutErr c.mn c.no c.mx = 0 from if_pos hc.cutOk] at h
      exact h
  · refine again_gen _ _ _ _ 50 (fun _ => []) feet_no va la vb lb vt lt w ha hb ht hbk hT ?_ ?_
    · intro W v l hT hb hl
      refine (lengths_no hk seed v W).mono ?_
      rintro e w' ⟨h, h3⟩
      exact ⟨_, h, NCs.nil _, h3⟩
    · intro W
      have h := refCheck_any mn no mx seed W h0 h1
      rw [show cutErr mn no mx = 50 from if_neg hk] at h
      exact h
end Go.Proofs.YtijellodifblkaaDoor
namespace Go.Proofs.YtijellodifblkaaDoor.CutAgain
open Go.ChangeShapes Go.WideShapes Go.ChangeAt Go.RowKit Go.Joins Go.ChangeMaps
set_option maxRecDepth 100000 in
theorem contract (H : Type) (enc : TypeId × Value → H) (W : World) (base : Nat) (args : Array Value) (ds gs : List (DataW H)) (before : List MemPlace)
    (hval : ∀ (j : Nat) t v, Tryd.f5.params[j]? = some t → args[j]? = some v → Value.okWide Tryd.prog W .any base t v)
    (hW : DataW.Whole enc Tryd.prog Tryd.f5.params.toList Rows.cutAgainSpec.vars false W args.toList ds gs before)
    (hsz : (DataW.weightsEach Tryd.prog (Tryd.f5.params.toList ++ (OpenSpec.ofChange Rows.cutAgainSpec).bare.plain.varTypes Tryd.prog) (ds ++ gs)).all (· ≤ reachBytes) = true)
    (hk : Rows.uptoSmall H (ds ++ gs) = true)
    (hL : laidMetH Tryd.prog Rows.cutAgainUptoRow.laid W) :
    Calls Tryd.prog 5 args W fun e W' => ∃ v, e = .returned v ∧ Rows.cutAgainSpec.post enc Tryd.prog Tryd.f5 false true false false W args v W' := by
  have hW' := hW
  obtain ⟨p, q, hA0, hV, rfl, hfz, hnd⟩ := hW
  have hA : DataW.TrodAll enc Tryd.prog W 0 (fun _ => true) true Tryd.f5.params.toList args.toList ds p := hA0
  rw [Tryd.params5] at hA hval hsz
  obtain ⟨v0, vs0, d0, ds0, p0, q0, hargs, rfl, rfl, h0, r0⟩ := trodAll_cons hA
  obtain ⟨v1, vs1, d1, ds1, p1, q1, rfl, rfl, rfl, h1, r1⟩ := trodAll_cons r0
  obtain ⟨v2, vs2, d2, ds2, p2, q2, rfl, rfl, rfl, h2, r2⟩ := trodAll_cons r1
  obtain ⟨v3, vs3, d3, ds3, p3, q3, rfl, rfl, rfl, h3, r3⟩ := trodAll_cons r2
  obtain ⟨rfl, rfl, rfl⟩ := trodAll_nil r3
  obtain rfl : args = #[v0, v1, v2, v3] := by cases args; simp_all
  obtain ⟨rfl, rfl⟩ := trodVars_none hV
  obtain ⟨mn, no, mx, seed, rfl, b_mn, b_no, b_mx, b_seed⟩ := cut_open (hval 0 24 v0 rfl rfl) h0
  obtain ⟨l_a, in_a, bk_a⟩ := bytes_openU (hval 1 25 v1 rfl rfl) h1
  obtain ⟨l_b, in_b, bk_b⟩ := bytes_openU (hval 2 25 v2 rfl rfl) h2
  obtain ⟨l_tail, in_tail, bk_tail⟩ := bytes_openU (hval 3 25 v3 rfl rfl) h3
  have hbk : l_a.length + l_b.length + l_tail.length ≤ 1048576 := by
    have h9 := of_decide_eq_true hk
    simp only [List.append_nil, Rows.uptoBulkAll] at h9
    omega
  refine (again_walk mn no mx seed v1 l_a v2 l_b v3 l_tail W b_no.1 b_no.2 b_seed in_a in_b in_tail hbk (tab_laid hL)).mono fun e W' ⟨he, hg⟩ => ?_
  subst he
  exact ⟨_, rfl, law_post laidOut (by rw [Tryd.params5]; decide +kernel) rfl hW' rfl Tryd.underlying4 ⟨rfl, rfl, rfl⟩ (hg.below (Nat.le_refl _) fun _ h => h.elim)⟩
set_option maxRecDepth 100000 in
theorem lifted (os : Os) (started : os.Started) (H : Type) (enc : TypeId × Value → H) (F : Stop.Interp) :
    ReturnsInHanded {} Tryd.checked os 5 .any ((Rows.OpenSpec.upto Rows.cutAgainSpec).preRow enc Tryd.prog Tryd.f5 Rows.cutAgainUptoRow.domain false Rows.cutAgainUptoRow.laid) (((Rows.OpenSpec.upto Rows.cutAgainSpec).at F).post enc Tryd.prog Tryd.f5 false true false false) := by
  refine returnsInHanded_of_row (C := Tryd.checked) (s := Rows.OpenSpec.upto Rows.cutAgainSpec) own started (by kernel_rfl) Tryd.func5
    (witness_row_at (enc := enc) (C := Tryd.checked) false (tabWorld (World.holding Tryd.prog os ⟨#[], #[], []⟩)) #[.agg #[.int .i64 0, .int .i64 0, .int .i64 0, .int .u64 0], .slice none 0 0, .slice none 0 0, .slice none 0 0] rfl (by kernel_rfl) (by kernel_rfl) (by kernel_rfl)
      (OpenSpec.preRow_of_cond (x := ([.agg [.lit (.int .i64 0), .lit (.int .i64 0), .lit (.int .i64 0), .lit (.int .u64 0)], .nil, .nil, .nil], [], [])) 8 (by kernel_rfl) (by kernel_rfl) (fun k hk => by cases hk; kernel_rfl) (by kernel_rfl) (laidMet_of_run' 8 (by kernel_rfl) (by kernel_rfl)))) ?_
  intro W base args ds gs before hval hW _ hcond hsz hL _ _
  exact contract H enc W base args ds gs before hval hW hsz (hcond _ rfl) hL
theorem said : Rows.CutAgainUptoSaid :=
  OpenClaim.holds_of_cond 5 Tryd.f5 rfl rfl rfl rfl rfl rfl rfl ⟨rfl, rfl, rfl, rfl, rfl⟩ rfl rfl rfl rfl rfl (by kernel_rfl) Tryd.func5 (by kernel_rfl)
    (of_decide_eq_true (by kernel_rfl)) (by unfold Func.isWrapper; first | (rw [if_pos (by decide +kernel)]; kernel_rfl) | (rw [if_neg (by decide +kernel)]; exact ⟨rfl, rfl⟩))
    (fun os started H enc _ F => by rw [OpenClaim.pre_eq_preRow]; exact lifted os started H enc F)
theorem plain (f : FuncId) (fn : Func) (hf : Tryd.pinned.checked.prog.funcNamed Rows.cutAgainUptoRow.func = some f) (hfn : Tryd.pinned.checked.prog.funcs[f]? = some fn) :
    false = Tryd.pinned.checked.prog.looks [] ∧ ∀ (j : Nat) t, fn.params[j]? = some t → Tryd.pinned.checked.prog.wantsStandIn t = false := by
  obtain rfl : f = 5 := Option.some.inj ((show Tryd.prog.funcNamed Rows.cutAgainUptoRow.func = some 5 by kernel_rfl).symm.trans hf) |>.symm
  obtain rfl : fn = Tryd.f5 := (Option.some.inj (Tryd.func5.symm.trans hfn)).symm
  refine ⟨by kernel_rfl, fun j t ht => ?_⟩
  rw [Tryd.params5] at ht
  have hm : t ∈ [24, 25, 25, 25] := by simpa using Array.mem_of_getElem? ht
  have hall : [24, 25, 25, 25].all (fun t => !Tryd.prog.wantsStandIn t) = true := by kernel_rfl
  have h1 := List.all_eq_true.1 hall t hm
  have h2 : Tryd.prog.wantsStandIn t = false := by simpa using h1
  exact h2
theorem card : Rows.CutAgainUptoCardSaid :=
  Claim7.holds_tied_plain_at .later [] _ _ _ _ said (fun _ h => by cases h) (by kernel_rfl) (fun _ h => by cases h) cutAgainUpto_row_tie rfl ⟨rfl, rfl⟩ (by kernel_rfl) rfl plain (by kernel_rfl)
end Go.Proofs.YtijellodifblkaaDoor.CutAgain
namespace Go.Proofs.YtijellodifblkaaDoor
theorem cutAgainUpto_card : Rows.CutAgainUptoCardSaid := CutAgain.card
end Go.Proofs.YtijellodifblkaaDoor
