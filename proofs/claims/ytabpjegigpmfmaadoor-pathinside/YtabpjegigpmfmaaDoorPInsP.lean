/- PathInside: of any parts path.Inside tells what the document tells; it is an order: nothing lies inside itself, no two lie inside each other, what lies inside what lies inside lies inside. -/
import Derived.Test.YtabpjegigpmfmaaDoorPaO
namespace Go.Proofs.YtabpjegigpmfmaaDoor
open Go.RowKit
set_option linter.unusedVariables false
set_option maxHeartbeats 4000000 in
set_option maxRecDepth 100000 in
theorem inside_walk (aa : Option Addr) (na ca : Nat) (la : List ByteArray) (ab : Option Addr) (nb cb : Nat) (lb : List ByteArray) (ac : Option Addr) (nc cc : Nat) (lc : List ByteArray) (w : World)
    (ra : Row w (.slice aa na ca) (TS la)) (ba : na ≤ 8796093022208) (rb : Row w (.slice ab nb cb) (TS lb)) (bb : nb ≤ 8796093022208) (rc : Row w (.slice ac nc cc) (TS lc)) (bc : nc ≤ 8796093022208) :
    Calls Tryd.prog 8 #[.slice aa na ca, .slice ab nb cb, .slice ac nc cc] w fun e w' => e = .returned (.bool true) ∧ Same w w' := by
  have HA := hidden awake_any
  have HAA := hidden (fun W (k : Same w W) => inside_any la la aa aa na na ca ca W (ra.same k) (ra.same k) (by omega) (by omega))
  have HAB := hidden (fun W (k : Same w W) => inside_any la lb aa ab na nb ca cb W (ra.same k) (rb.same k) (by omega) (by omega))
  have HBA := hidden (fun W (k : Same w W) => inside_any lb la ab aa nb na cb ca W (rb.same k) (ra.same k) (by omega) (by omega))
  have HBC := hidden (fun W (k : Same w W) => inside_any lb lc ab ac nb nc cb cc W (rb.same k) (rc.same k) (by omega) (by omega))
  have HAC := hidden (fun W (k : Same w W) => inside_any la lc aa ac na nc ca cc W (ra.same k) (rc.same k) (by omega) (by omega))
  have DAB := hidden (fun W (k : Same w W) => insideD_any la lb aa ab na nb ca cb W (ra.same k) (rb.same k) (by omega) (by omega))
  have DBC := hidden (fun W (k : Same w W) => insideD_any lb lc ab ac nb nc cb cc W (rb.same k) (rc.same k) (by omega) (by omega))
  have x1 := ins_irrefl la
  have x2 := @ins_asymm la lb
  have x3 := @ins_trans la lb lc
  rw [x1] at HAA
  generalize ins la lb = tab at *
  generalize ins lb la = tba at *
  generalize ins lb lc = tbc at *
  generalize ins la lc = tac at *
  clear ra rb rc x1
  have HX2 := hidden x2
  have HX3 := hidden x3
  clear x2 x3
  have t1 : True := trivial
  have t2 : True := trivial
  have t3 : True := trivial
  have t4 : True := trivial
  have t5 : True := trivial
  have t6 : True := trivial
  have t7 : True := trivial
  have t8 : True := trivial
  have t9 : True := trivial
  have t10 : True := trivial
  cases tab
  · -- a is not inside b
    go_enter Tryd.func8, Tryd.ntmps8
    go_wp2_with (first
      | (go_at_call 14; refine (HA.out _).mono ?_; rintro e w1 ⟨rfl, k1⟩; have KK := hidden k1; clear k1)
      | (go_at_call 25; have _t := t1; refine (HAB.out _ KK.out).mono ?_; rintro e wn ⟨rfl, kn⟩; have KN := hidden (KK.out.trans kn); clear t1 _t kn KK; have KK := KN; clear KN)
      | (go_at_call 26; have _t := t2; refine (DAB.out _ KK.out).mono ?_; rintro e wn ⟨rfl, rfl⟩; clear t2 _t)
      | (go_at_call 25; have _t := t3; refine (HBC.out _ KK.out).mono ?_; rintro e wn ⟨rfl, kn⟩; have KN := hidden (KK.out.trans kn); clear t3 _t kn KK; have KK := KN; clear KN)
      | (go_at_call 26; have _t := t4; refine (DBC.out _ KK.out).mono ?_; rintro e wn ⟨rfl, rfl⟩; clear t4 _t)
      | (go_at_call 25; have _t := t5; refine (HAA.out _ KK.out).mono ?_; rintro e wn ⟨rfl, kn⟩; have KN := hidden (KK.out.trans kn); clear t5 _t kn KK; have KK := KN; clear KN)
      | (go_at_call 25; have _t := t6; refine (HAB.out _ KK.out).mono ?_; rintro e wn ⟨rfl, kn⟩; have KN := hidden (KK.out.trans kn); clear t6 _t kn KK; have KK := KN; clear KN)
      | (go_at_call 25; have _t := t7; refine (HAB.out _ KK.out).mono ?_; rintro e wn ⟨rfl, kn⟩; have KN := hidden (KK.out.trans kn); clear t7 _t kn KK; have KK := KN; clear KN))
    go_returns
    exact ⟨rfl, KK.out⟩
  · obtain rfl := HX2.out rfl
    cases tbc
    · -- a inside b, b not inside c
      go_enter Tryd.func8, Tryd.ntmps8
      go_wp2_with (first
        | (go_at_call 14; refine (HA.out _).mono ?_; rintro e w1 ⟨rfl, k1⟩; have KK := hidden k1; clear k1)
        | (go_at_call 25; have _t := t1; refine (HAB.out _ KK.out).mono ?_; rintro e wn ⟨rfl, kn⟩; have KN := hidden (KK.out.trans kn); clear t1 _t kn KK; have KK := KN; clear KN)
        | (go_at_call 26; have _t := t2; refine (DAB.out _ KK.out).mono ?_; rintro e wn ⟨rfl, rfl⟩; clear t2 _t)
        | (go_at_call 25; have _t := t3; refine (HBC.out _ KK.out).mono ?_; rintro e wn ⟨rfl, kn⟩; have KN := hidden (KK.out.trans kn); clear t3 _t kn KK; have KK := KN; clear KN)
        | (go_at_call 26; have _t := t4; refine (DBC.out _ KK.out).mono ?_; rintro e wn ⟨rfl, rfl⟩; clear t4 _t)
        | (go_at_call 25; have _t := t5; refine (HAA.out _ KK.out).mono ?_; rintro e wn ⟨rfl, kn⟩; have KN := hidden (KK.out.trans kn); clear t5 _t kn KK; have KK := KN; clear KN)
        | (go_at_call 25; have _t := t6; refine (HAB.out _ KK.out).mono ?_; rintro e wn ⟨rfl, kn⟩; have KN := hidden (KK.out.trans kn); clear t6 _t kn KK; have KK := KN; clear KN)
        | (go_at_call 25; have _t := t7; refine (HBA.out _ KK.out).mono ?_; rintro e wn ⟨rfl, kn⟩; have KN := hidden (KK.out.trans kn); clear t7 _t kn KK; have KK := KN; clear KN)
        | (go_at_call 25; have _t := t8; refine (HAB.out _ KK.out).mono ?_; rintro e wn ⟨rfl, kn⟩; have KN := hidden (KK.out.trans kn); clear t8 _t kn KK; have KK := KN; clear KN)
        | (go_at_call 25; have _t := t9; refine (HBC.out _ KK.out).mono ?_; rintro e wn ⟨rfl, kn⟩; have KN := hidden (KK.out.trans kn); clear t9 _t kn KK; have KK := KN; clear KN))
      go_returns
      exact ⟨rfl, KK.out⟩
    · obtain rfl := HX3.out rfl rfl
      go_enter Tryd.func8, Tryd.ntmps8
      go_wp2_with (first
        | (go_at_call 14; refine (HA.out _).mono ?_; rintro e w1 ⟨rfl, k1⟩; have KK := hidden k1; clear k1)
        | (go_at_call 25; have _t := t1; refine (HAB.out _ KK.out).mono ?_; rintro e wn ⟨rfl, kn⟩; have KN := hidden (KK.out.trans kn); clear t1 _t kn KK; have KK := KN; clear KN)
        | (go_at_call 26; have _t := t2; refine (DAB.out _ KK.out).mono ?_; rintro e wn ⟨rfl, rfl⟩; clear t2 _t)
        | (go_at_call 25; have _t := t3; refine (HBC.out _ KK.out).mono ?_; rintro e wn ⟨rfl, kn⟩; have KN := hidden (KK.out.trans kn); clear t3 _t kn KK; have KK := KN; clear KN)
        | (go_at_call 26; have _t := t4; refine (DBC.out _ KK.out).mono ?_; rintro e wn ⟨rfl, rfl⟩; clear t4 _t)
        | (go_at_call 25; have _t := t5; refine (HAA.out _ KK.out).mono ?_; rintro e wn ⟨rfl, kn⟩; have KN := hidden (KK.out.trans kn); clear t5 _t kn KK; have KK := KN; clear KN)
        | (go_at_call 25; have _t := t6; refine (HAB.out _ KK.out).mono ?_; rintro e wn ⟨rfl, kn⟩; have KN := hidden (KK.out.trans kn); clear t6 _t kn KK; have KK := KN; clear KN)
        | (go_at_call 25; have _t := t7; refine (HBA.out _ KK.out).mono ?_; rintro e wn ⟨rfl, kn⟩; have KN := hidden (KK.out.trans kn); clear t7 _t kn KK; have KK := KN; clear KN)
        | (go_at_call 25; have _t := t8; refine (HAB.out _ KK.out).mono ?_; rintro e wn ⟨rfl, kn⟩; have KN := hidden (KK.out.trans kn); clear t8 _t kn KK; have KK := KN; clear KN)
        | (go_at_call 25; have _t := t9; refine (HBC.out _ KK.out).mono ?_; rintro e wn ⟨rfl, kn⟩; have KN := hidden (KK.out.trans kn); clear t9 _t kn KK; have KK := KN; clear KN)
        | (go_at_call 25; have _t := t10; refine (HAC.out _ KK.out).mono ?_; rintro e wn ⟨rfl, kn⟩; have KN := hidden (KK.out.trans kn); clear t10 _t kn KK; have KK := KN; clear KN))
      go_returns
      exact ⟨rfl, KK.out⟩
end Go.Proofs.YtabpjegigpmfmaaDoor
namespace Go.Proofs.YtabpjegigpmfmaaDoor.PathInside
open Go.ChangeShapes Go.WideShapes Go.ChangeAt Go.RowKit Go.Joins Go.ChangeMaps
set_option maxRecDepth 100000 in
theorem contract (H : Type) (enc : TypeId × Value → H) (W : World) (base : Nat) (args : Array Value) (ds gs : List (DataW H)) (before : List MemPlace)
    (hval : ∀ (j : Nat) t v, Tryd.f8.params[j]? = some t → args[j]? = some v → Value.okWide Tryd.prog W .any base t v)
    (hW : DataW.Whole enc Tryd.prog Tryd.f8.params.toList Rows.pathInsideSpec.vars false W args.toList ds gs before)
    (hsz : (DataW.weightsEach Tryd.prog (Tryd.f8.params.toList ++ (OpenSpec.ofChange Rows.pathInsideSpec).bare.plain.varTypes Tryd.prog) (ds ++ gs)).all (· ≤ reachBytes) = true)
    (_hL : laidMetH Tryd.prog Rows.pathInsideRow.laid W) :
    Calls Tryd.prog 8 args W fun e W' => ∃ v, e = .returned v ∧ Rows.pathInsideSpec.post enc Tryd.prog Tryd.f8 false true false false W args v W' := by
  have hW' := hW
  obtain ⟨p, q, hA0, hV, rfl, hfz, hnd⟩ := hW
  have hA : DataW.TrodAll enc Tryd.prog W 0 (fun _ => true) true Tryd.f8.params.toList args.toList ds p := hA0
  rw [Tryd.params8] at hA hval hsz
  obtain ⟨v0, vs0, d0, ds0, p0, q0, hargs, rfl, rfl, h0, r0⟩ := trodAll_cons hA
  obtain ⟨v1, vs1, d1, ds1, p1, q1, rfl, rfl, rfl, h1, r1⟩ := trodAll_cons r0
  obtain ⟨v2, vs2, d2, ds2, p2, q2, rfl, rfl, rfl, h2, r2⟩ := trodAll_cons r1
  obtain ⟨rfl, rfl, rfl⟩ := trodAll_nil r2
  obtain rfl : args = #[v0, v1, v2] := by cases args; simp_all
  obtain ⟨rfl, rfl⟩ := trodVars_none hV
  obtain ⟨a_a, n_a, c_a, l_a, rfl, r_a, b_a⟩ := texts_open (hval 0 22 v0 rfl rfl) h0 _ _ 0 hsz rfl rfl
  obtain ⟨a_b, n_b, c_b, l_b, rfl, r_b, b_b⟩ := texts_open (hval 1 22 v1 rfl rfl) h1 _ _ 1 hsz rfl rfl
  obtain ⟨a_c, n_c, c_c, l_c, rfl, r_c, b_c⟩ := texts_open (hval 2 22 v2 rfl rfl) h2 _ _ 2 hsz rfl rfl
  refine (inside_walk a_a n_a c_a l_a a_b n_b c_b l_b a_c n_c c_c l_c W r_a b_a r_b b_b r_c b_c).mono fun e W' ⟨he, hg⟩ => ?_
  subst he
  exact ⟨_, rfl, law_post laidOut (by rw [Tryd.params8]; decide +kernel) rfl hW' rfl Tryd.underlying4 ⟨rfl, rfl, rfl⟩ (hg.below (Nat.le_refl _) fun _ h => h.elim)⟩
set_option maxRecDepth 100000 in
theorem lifted (os : Os) (started : os.Started) (H : Type) (enc : TypeId × Value → H) (F : Stop.Interp) :
    ReturnsInHanded {} Tryd.checked os 8 .any ((OpenSpec.ofChange Rows.pathInsideSpec).preRow enc Tryd.prog Tryd.f8 Rows.pathInsideRow.domain false Rows.pathInsideRow.laid) (((OpenSpec.ofChange Rows.pathInsideSpec).at F).post enc Tryd.prog Tryd.f8 false true false false) := by
  refine returnsInHanded_of_row (C := Tryd.checked) (s := OpenSpec.ofChange Rows.pathInsideSpec) own started (by kernel_rfl) Tryd.func8
    (witness_row_at (enc := enc) (C := Tryd.checked) false (tabWorld (World.holding Tryd.prog os ⟨#[], #[], []⟩)) #[.slice none 0 0, .slice none 0 0, .slice none 0 0] rfl (by kernel_rfl) (by kernel_rfl) (by kernel_rfl)
      (OpenSpec.preRow_of_cond (x := ([.nil, .nil, .nil], [], [])) 8 (by kernel_rfl) (by kernel_rfl) (fun k hk => by cases hk) (by kernel_rfl) (laidMet_of_run' 8 (by kernel_rfl) (by kernel_rfl)))) ?_
  intro W base args ds gs before hval hW _ _ hsz hL _ _
  exact contract H enc W base args ds gs before hval hW hsz hL
theorem said : Rows.PathInsideSaid :=
  OpenClaim.holds_of_cond 8 Tryd.f8 rfl rfl rfl rfl rfl rfl rfl ⟨rfl, rfl, rfl, rfl, rfl⟩ rfl rfl rfl rfl rfl (by kernel_rfl) Tryd.func8 (by kernel_rfl)
    (of_decide_eq_true (by kernel_rfl)) (by unfold Func.isWrapper; first | (rw [if_pos (by decide +kernel)]; kernel_rfl) | (rw [if_neg (by decide +kernel)]; exact ⟨rfl, rfl⟩))
    (fun os started H enc _ F => by rw [OpenClaim.pre_eq_preRow]; exact lifted os started H enc F)
theorem plain (f : FuncId) (fn : Func) (hf : Tryd.pinned.checked.prog.funcNamed Rows.pathInsideRow.func = some f) (hfn : Tryd.pinned.checked.prog.funcs[f]? = some fn) :
    false = Tryd.pinned.checked.prog.looks [] ∧ ∀ (j : Nat) t, fn.params[j]? = some t → Tryd.pinned.checked.prog.wantsStandIn t = false := by
  obtain rfl : f = 8 := Option.some.inj ((show Tryd.prog.funcNamed Rows.pathInsideRow.func = some 8 by kernel_rfl).symm.trans hf) |>.symm
  obtain rfl : fn = Tryd.f8 := (Option.some.inj (Tryd.func8.symm.trans hfn)).symm
  refine ⟨by kernel_rfl, fun j t ht => ?_⟩
  rw [Tryd.params8] at ht
  have hm : t ∈ [22, 22, 22] := by simpa using Array.mem_of_getElem? ht
  have hall : [22, 22, 22].all (fun t => !Tryd.prog.wantsStandIn t) = true := by kernel_rfl
  have h1 := List.all_eq_true.1 hall t hm
  have h2 : Tryd.prog.wantsStandIn t = false := by simpa using h1
  exact h2
theorem card : Rows.PathInsideCardSaid :=
  Claim7.holds_tied_plain_at .later [] _ _ _ _ said (fun _ h => by cases h) (by kernel_rfl) (fun _ h => by cases h) pathInside_row_tie rfl ⟨rfl, rfl⟩ (by kernel_rfl) rfl plain (by kernel_rfl)
end Go.Proofs.YtabpjegigpmfmaaDoor.PathInside
namespace Go.Proofs.YtabpjegigpmfmaaDoor
theorem pathInside_card : Rows.PathInsideCardSaid := PathInside.card
end Go.Proofs.YtabpjegigpmfmaaDoor
