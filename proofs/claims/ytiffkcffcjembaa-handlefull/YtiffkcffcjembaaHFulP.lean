/-
  HandleFull (P24.3): whatever the inode and the descriptor that is closed: of a new table 64 can be opened and no more, each under the least free number; a closed one's number is given again: the law's call returns true and leaves its arguments as they were.
  No condition.
-/
import Derived.Test.YtiffkcffcjembaaPTab
import Derived.Test.YtiffkcffcjembaaH3
namespace Go.Proofs.Ytiffkcffcjembaa
open Go.RowKit Go.Maps
set_option linter.unusedVariables false
set_option linter.unusedSimpArgs false
/-- The first k places are open on x. -/
def fF (x : Int) (k : Nat) : FT := fun j => if j < k then (x, (j : Int)) else (0, 0)
theorem fF_zero (x : Int) : fF x 0 = f0 := by funext j; simp [fF]
theorem fF_succ (x : Int) (k : Nat) : (fF x k).set k (x, (k : Int)) = fF x (k + 1) := by
  funext j
  unfold FT.set fF
  by_cases h : j = k
  · subst h; simp
  · rw [if_neg h]
    by_cases h2 : j < k
    · rw [if_pos h2, if_pos (by omega)]
    · rw [if_neg h2, if_neg (by omega)]
theorem fF_at (x : Int) (k j : Nat) (h : j < k) : (fF x k j).1 = x := by simp [fF, h]
theorem fF_cn (x : Int) (hx : x ≠ 0) (K : Nat) : ∀ k, k ≤ K → cn (fF x K) x k = k
  | 0, _ => rfl
  | k + 1, h => by
    simp only [cn]
    rw [fF_cn x hx K k (by omega), if_pos ⟨hx, fF_at x K k (by omega)⟩]
set_option maxHeartbeats 4000000 in
set_option maxRecDepth 100000 in
theorem hfull_walk (x y : Int) (w : World) (h0 : -9223372036854775808 ≤ x) (h1 : x ≤ 9223372036854775807) (h2 : -9223372036854775808 ≤ y) (h3 : y ≤ 9223372036854775807) :
    Calls Try.prog 5 #[.int .i64 x, .int .i64 y] w fun e w' => e = .returned (.bool true) ∧ Same w w' := by
  by_cases hx : x < 1
  · go_enter Try.func5, Try.ntmps5
    go_wp2_with (first
      | (go_at_call 7; refine (h_new _).mono ?_; rintro e w0 ⟨g, bm, rfl, hg, hbm, k0, T0⟩; have K0 := hidden k0; have HT0 := hidden T0; clear k0 T0)
      | (go_at_call 8; refine (h_awake _).mono ?_; rintro e w1 ⟨rfl, k1⟩; have K1 := hidden (K0.out.trans k1); have HT1 := hidden (HT0.out.same k1); clear k1)
      | (go_at_call 12; refine (h_open_bad g bm _ _ x 0 0 _ HT1.out (by decide) (by intro i hi; omega) rfl hx).mono ?_; rintro e w2 ⟨rfl, k2⟩; have K2 := hidden (K1.out.trans k2); clear k2))
    go_returns
    exact ⟨rfl, K2.out⟩
  · have hx1 : 1 ≤ x := by omega
    clear hx
    go_enter Try.func5, Try.ntmps5
    go_wp2_with (first
      | (go_at_call 7; refine (h_new _).mono ?_; rintro e w0 ⟨g, bm, rfl, hg, hbm, k0, T0⟩; have K0 := hidden k0; have HT0 := hidden T0; clear k0 T0)
      | (go_at_call 8; refine (h_awake _).mono ?_; rintro e w1 ⟨rfl, k1⟩; have K1 := hidden (K0.out.trans k1); have HT1 := hidden (HT0.out.same k1); clear k1))
    go_loopw [8] (fun i wr => ∃ k : Nat, k ≤ 64 ∧ i = .int .i64 k ∧ Same w wr ∧ TB wr g bm (fF x k) k) (fun i _ => 64 - (intOf i).toNat)
    case atStart => exact ⟨0, by decide, rfl, K1.out, by rw [fF_zero]; exact HT1.out⟩
    case round =>
      obtain ⟨k, hk, rfl, hs, hT⟩ := hrel
      have S1 := hidden hs
      have T1 := hidden hT
      clear hs hT
      by_cases hlt : k < 64
      · go_wp2_with (first
          | (go_at_call 12; refine (h_open g bm _ _ x k k _ T1.out hlt (by intro i hi; rw [fF_at x k i hi]; omega) (by simp [fF]) hx1 ⟨h0, h1⟩ ⟨by omega, by omega⟩ (by omega)).mono ?_; rintro e w2 ⟨rfl, T2, k2⟩; have K2 := hidden (Same.then S1.out k2 (by rintro i hi (rfl | rfl) <;> omega)); rw [fF_succ] at T2; have HT2 := hidden T2; clear k2 T2))
        go_roundw
        case rel => exact ⟨k + 1, by omega, by go_num, K2.out, HT2.out⟩
        case measure => simp [intOf]; omega
      · obtain rfl : k = 64 := by omega
        have hall : ∀ i, i < 64 → (fF x 64 i).1 ≠ 0 := fun i hi => by rw [fF_at x 64 i hi]; omega
        have hcn := fF_cn x (by omega) 64 64 (Nat.le_refl _)
        by_cases hy : 0 ≤ y ∧ y < 64
        · obtain ⟨c, rfl⟩ : ∃ c : Nat, y = c := ⟨y.toNat, by omega⟩
          have hc : c < 64 := by omega
          have t1 : True := trivial
          have HCN := hidden hcn
          clear hcn hy
          go_wp2_with (first
            | (go_at_call 12; have _t := t1; refine (h_open_full g bm _ _ x 0 _ T1.out hall).mono ?_; rintro e w2 ⟨rfl, k2⟩; clear t1; have K2 := hidden (S1.out.trans k2); have HT2 := hidden (T1.out.same k2); clear k2)
            | (go_at_call 13; refine (h_count g bm _ _ x _ HT2.out ⟨h0, h1⟩).mono ?_; rintro e w3 ⟨rfl, rfl⟩; rw [HCN.out])
            | (go_at_call 14; refine (h_close' g bm _ _ c x false _ HT2.out hc (fF_at x 64 c hc) (by omega) (by rw [HCN.out]; decide) (by decide)).mono ?_; rintro e w4 ⟨rfl, T4, k4⟩; have K4 := hidden (Same.then K2.out k4 (by rintro i hi (rfl | rfl) <;> omega)); have HT4 := hidden T4; clear k4 T4)
            | (go_at_call 12; refine (h_open g bm _ _ x 0 c _ HT4.out hc (by intro i hi; rw [FT.set_other _ _ (by omega)]; exact hall i (by omega)) (by rw [FT.set_same]) hx1 ⟨h0, h1⟩ ⟨by omega, by omega⟩ (by decide)).mono ?_; rintro e w5 ⟨rfl, T5, k5⟩; have K5 := hidden (Same.then K4.out k5 (by rintro i hi (rfl | rfl) <;> omega)); clear k5 T5))
          go_returns
          exact ⟨rfl, K5.out⟩
        · have t1 : True := trivial
          have HCN := hidden hcn
          have hy' : y < 0 ∨ 64 ≤ y := by omega
          clear hcn hy
          rcases hy' with hy | hy
          all_goals
            go_wp2_with (first
              | (go_at_call 12; have _t := t1; refine (h_open_full g bm _ _ x 0 _ T1.out hall).mono ?_; rintro e w2 ⟨rfl, k2⟩; clear t1; have K2 := hidden (S1.out.trans k2); have HT2 := hidden (T1.out.same k2); clear k2)
              | (go_at_call 13; refine (h_count g bm _ _ x _ HT2.out ⟨h0, h1⟩).mono ?_; rintro e w3 ⟨rfl, rfl⟩; rw [HCN.out])
              | (go_at_call 14; refine (h_close_no g bm _ _ y _ HT2.out ⟨h2, h3⟩ (by omega)).mono ?_; rintro e w4 ⟨rfl, k4⟩; have K4 := hidden (K2.out.trans k4); clear k4))
            go_returns
            exact ⟨rfl, K4.out⟩
end Go.Proofs.Ytiffkcffcjembaa
namespace Go.Proofs.Ytiffkcffcjembaa.HandleFull
open Go.ChangeShapes Go.WideShapes Go.ChangeAt Go.RowKit Go.Joins Go.ChangeMaps
set_option maxRecDepth 100000 in
theorem contract (H : Type) (enc : TypeId × Value → H) (W : World) (base : Nat) (args : Array Value) (ds gs : List (DataW H)) (before : List MemPlace)
    (hval : ∀ (j : Nat) t v, Try.f5.params[j]? = some t → args[j]? = some v → Value.okWide Try.prog W .any base t v)
    (hW : DataW.Whole enc Try.prog Try.f5.params.toList Rows.handleFullSpec.vars false W args.toList ds gs before)
    (hsz : (DataW.weightsEach Try.prog (Try.f5.params.toList ++ (OpenSpec.ofChange Rows.handleFullSpec).bare.plain.varTypes Try.prog) (ds ++ gs)).all (· ≤ reachBytes) = true)
    (_hL : laidMetH Try.prog Rows.handleFullRow.laid W) :
    Calls Try.prog 5 args W fun e W' => ∃ v, e = .returned v ∧ Rows.handleFullSpec.post enc Try.prog Try.f5 false true false false W args v W' := by
  have hW' := hW
  obtain ⟨p, q, hA0, hV, rfl, hfz, hnd⟩ := hW
  have hA : DataW.TrodAll enc Try.prog W 0 (fun _ => true) true Try.f5.params.toList args.toList ds p := hA0
  rw [Try.params5] at hA hval hsz
  obtain ⟨v0, vs0, d0, ds0, p0, q0, hargs, rfl, rfl, h0, r0⟩ := trodAll_cons hA
  obtain ⟨v1, vs1, d1, ds1, p1, q1, rfl, rfl, rfl, h1, r1⟩ := trodAll_cons r0
  obtain ⟨rfl, rfl, rfl⟩ := trodAll_nil r1
  obtain rfl : args = #[v0, v1] := by cases args; simp_all
  obtain ⟨rfl, rfl⟩ := trodVars_none hV
  obtain ⟨inode, rfl, rfl, rfl, w_inode⟩ := open_int Try.underlying3 (hval 0 3 v0 rfl rfl) h0
  have b_inode : -9223372036854775808 ≤ inode ∧ inode ≤ 9223372036854775807 := by simpa [Lit.wf, IntKind.min, IntKind.max, IntKind.signed, IntKind.bits] using w_inode
  obtain ⟨close, rfl, rfl, rfl, w_close⟩ := open_int Try.underlying3 (hval 1 3 v1 rfl rfl) h1
  have b_close : -9223372036854775808 ≤ close ∧ close ≤ 9223372036854775807 := by simpa [Lit.wf, IntKind.min, IntKind.max, IntKind.signed, IntKind.bits] using w_close
  refine (hfull_walk inode close W b_inode.1 b_inode.2 b_close.1 b_close.2).mono fun e W' ⟨he, hg⟩ => ?_
  subst he
  exact ⟨_, rfl, law_post laidOut (by rw [Try.params5]; decide +kernel) rfl hW' rfl Try.underlying4 ⟨rfl, rfl, rfl⟩ (hg.below (Nat.le_refl _) fun _ h => h.elim)⟩
set_option maxRecDepth 100000 in
theorem lifted (os : Os) (started : os.Started) (H : Type) (enc : TypeId × Value → H) (F : Stop.Interp) :
    ReturnsInHanded {} Try.checked os 5 .any ((OpenSpec.ofChange Rows.handleFullSpec).preRow enc Try.prog Try.f5 Rows.handleFullRow.domain false Rows.handleFullRow.laid) (((OpenSpec.ofChange Rows.handleFullSpec).at F).post enc Try.prog Try.f5 false true false false) := by
  refine returnsInHanded_of_row (C := Try.checked) (s := OpenSpec.ofChange Rows.handleFullSpec) own started (by kernel_rfl) Try.func5
    (witness_row_at (enc := enc) (C := Try.checked) false (World.holding Try.prog os ⟨#[], #[], []⟩) #[.int .i64 0, .int .i64 0] rfl (by kernel_rfl) (by kernel_rfl) (by kernel_rfl)
      (OpenSpec.preRow_of_cond (x := ([.lit (.int .i64 0), .lit (.int .i64 0)], [], [])) 8 (by kernel_rfl) (by kernel_rfl) (fun k hk => by cases hk) (by kernel_rfl) (laidMet_of_run' 8 (by kernel_rfl) (by kernel_rfl)))) ?_
  intro W base args ds gs before hval hW _ _ hsz hL _ _
  exact contract H enc W base args ds gs before hval hW hsz hL
theorem said : Rows.HandleFullSaid :=
  OpenClaim.holds_of_cond 5 Try.f5 rfl rfl rfl rfl rfl rfl rfl ⟨rfl, rfl, rfl, rfl, rfl⟩ rfl rfl rfl rfl rfl (by kernel_rfl) Try.func5 (by kernel_rfl)
    (of_decide_eq_true (by kernel_rfl)) (by unfold Func.isWrapper; first | (rw [if_pos (by decide +kernel)]; kernel_rfl) | (rw [if_neg (by decide +kernel)]; exact ⟨rfl, rfl⟩))
    (fun os started H enc _ F => by rw [OpenClaim.pre_eq_preRow]; exact lifted os started H enc F)
end Go.Proofs.Ytiffkcffcjembaa.HandleFull
namespace Go.Proofs.Ytiffkcffcjembaa
theorem handleFull_said : Rows.HandleFullSaid := HandleFull.said
end Go.Proofs.Ytiffkcffcjembaa
