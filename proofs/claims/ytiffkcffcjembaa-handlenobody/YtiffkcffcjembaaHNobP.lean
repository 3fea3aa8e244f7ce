/-
  HandleNobody (P24.2): whatever the call's numbers: of a table that New did not give (nil, or all zero) nothing is told but EBadF, 0, nothing and nil; and the numbers of errors are as the document has them: the law's call returns true and leaves its arguments as they were.
  No condition.
-/
import Derived.Test.YtiffkcffcjembaaPTab
import Derived.Test.YtiffkcffcjembaaH3
namespace Go.Proofs.Ytiffkcffcjembaa
open Go.RowKit Go.Maps
set_option linter.unusedVariables false
set_option linter.unusedSimpArgs false
/-- v is no table that New gave. -/
def NoT (w : World) (v : Value) : Prop := v = .pointer none ∨ ∃ g, v = .pointer (some ⟨g, 0, none⟩) ∧ w.cell? ⟨g, 192, none⟩ = some (.map none)
theorem NoT.same {w w' : World} {v : Value} (h : NoT w v) (k : Same w w') : NoT w' v := by
  rcases h with h | ⟨g, h, hc⟩
  · exact .inl h
  · exact .inr ⟨g, h, k.cell (fun h => h) hc⟩
theorem n_made (v : Value) (w : World) (h : NoT w v) : Calls Try.prog 26 #[v] w fun e w' => e = .returned (.bool false) ∧ w' = w := by
  rcases h with rfl | ⟨g, rfl, hc⟩
  · exact h_made_nil w
  · exact h_made_zero g w hc
set_option maxHeartbeats 1000000 in
theorem n_open (v : Value) (a b : Int) (w : World) (h : NoT w v) : Calls Try.prog 12 #[v, .int .i64 a, .int .i64 b] w fun e w' => e = .returned (.tuple #[.int .i64 0, .int .i64 237]) ∧ w' = w := by
  go_enter Try.func12, Try.ntmps12
  go_wp2_with (first | (go_at_call 26; refine (n_made _ _ h).mono ?_; rintro e w1 ⟨rfl, rfl⟩))
  go_ret2
  exact ⟨rfl, rfl⟩
set_option maxHeartbeats 1000000 in
theorem n_get (v : Value) (a : Int) (w : World) (h : NoT w v) : Calls Try.prog 15 #[v, .int .i64 a] w fun e w' => e = .returned (.tuple #[.agg #[.int .i64 0, .int .i64 0, .int .i64 0], .int .i64 237]) ∧ Same w w' := by
  go_enter Try.func15, Try.ntmps15
  go_wp2_with (first | (go_at_call 26; refine (n_made _ _ (h.same (same_alloc _ _))).mono ?_; rintro e w1 ⟨rfl, rfl⟩))
  exact bodyPost_ret (v := .tuple #[.agg #[.int .i64 0, .int .i64 0, .int .i64 0], .int .i64 237]) (by simp [results, Try.results15, go_sem]) rfl ⟨rfl, same_alloc _ _⟩
set_option maxHeartbeats 1000000 in
theorem n_close (v : Value) (a : Int) (w : World) (h : NoT w v) : Calls Try.prog 14 #[v, .int .i64 a] w fun e w' => e = .returned (.tuple #[.int .i64 0, .bool false, .int .i64 237]) ∧ Same w w' := by
  go_enter Try.func14, Try.ntmps14
  go_wp2_with (first | (go_at_call 15; refine (n_get _ _ _ h).mono ?_; rintro e w1 ⟨rfl, k1⟩))
  exact bodyPost_ret (v := .tuple #[.int .i64 0, .bool false, .int .i64 237]) (by simp [results, Try.results14, go_sem]) rfl ⟨rfl, k1.alloc _⟩
set_option maxHeartbeats 1000000 in
theorem n_count (v : Value) (a : Int) (w : World) (h : NoT w v) : Calls Try.prog 13 #[v, .int .i64 a] w fun e w' => e = .returned (.int .i64 0) ∧ w' = w := by
  go_enter Try.func13, Try.ntmps13
  go_wp2_with (first | (go_at_call 26; refine (n_made _ _ h).mono ?_; rintro e w1 ⟨rfl, rfl⟩))
  go_ret
  exact ⟨rfl, rfl⟩
set_option maxHeartbeats 1000000 in
theorem n_all (v : Value) (w : World) (h : NoT w v) : Calls Try.prog 16 #[v] w fun e w' => e = .returned (.slice none 0 0) ∧ w' = w := by
  go_enter Try.func16, Try.ntmps16
  go_wp2_with (first | (go_at_call 26; refine (n_made _ _ h).mono ?_; rintro e w1 ⟨rfl, rfl⟩))
  go_ret
  exact ⟨rfl, rfl⟩
set_option maxHeartbeats 1000000 in
theorem n_inodes (v : Value) (w : World) (h : NoT w v) : Calls Try.prog 17 #[v] w fun e w' => e = .returned (.slice none 0 0) ∧ w' = w := by
  go_enter Try.func17, Try.ntmps17
  go_wp2_with (first | (go_at_call 26; refine (n_made _ _ h).mono ?_; rintro e w1 ⟨rfl, rfl⟩))
  go_ret
  exact ⟨rfl, rfl⟩
set_option maxHeartbeats 1000000 in
theorem n_clear (v : Value) (w : World) (h : NoT w v) : Calls Try.prog 18 #[v] w fun e w' => e = .returned (.slice none 0 0) ∧ w' = w := by
  go_enter Try.func18, Try.ntmps18
  go_wp2_with (first
    | (go_at_call 17; refine (n_inodes _ _ h).mono ?_; rintro e w1 ⟨rfl, rfl⟩)
    | (go_at_call 26; refine (n_made _ _ h).mono ?_; rintro e w1 ⟨rfl, rfl⟩))
  go_ret
  exact ⟨rfl, rfl⟩
set_option maxHeartbeats 1000000 in
theorem n_fork (v : Value) (w : World) (h : NoT w v) : Calls Try.prog 11 #[v] w fun e w' => e = .returned (.pointer none) ∧ w' = w := by
  go_enter Try.func11, Try.ntmps11
  go_wp2_with (first | (go_at_call 26; refine (n_made _ _ h).mono ?_; rintro e w1 ⟨rfl, rfl⟩))
  go_ret
  exact ⟨rfl, rfl⟩
theorem ZT_map : ZT[192]? = some (.map none) := by kernel_rfl
set_option maxHeartbeats 4000000 in
set_option maxRecDepth 100000 in
theorem hnob_walk (kd x fl : Int) (w : World) (_ : -9223372036854775808 ≤ kd) (_ : kd ≤ 9223372036854775807) (_ : -9223372036854775808 ≤ x) (_ : x ≤ 9223372036854775807) (_ : -9223372036854775808 ≤ fl) (_ : fl ≤ 9223372036854775807) :
    Calls Try.prog 6 #[.agg #[.int .i64 kd, .int .i64 x, .int .i64 fl]] w fun e w' => e = .returned (.bool true) ∧ Same w w' := by
  have hz := zeroT
  have hs := ZT_size
  go_enter Try.func6, Try.ntmps6
  go_wp2_with (first
    | (go_at_call 8; refine (h_awake _).mono ?_; rintro e w1 ⟨rfl, k1⟩))
  have k2 : Same w1 ((w1.alloc (.cells ZT 48)).alloc (.cells #[.pointer none, .pointer (some ⟨w1.heap.size, 0, none⟩)] 23)) := (same_alloc _ _).alloc _
  have bz := blk_alloc (blk_new w1 (.cells ZT 48)) (.cells #[.pointer none, .pointer (some ⟨w1.heap.size, 0, none⟩)] 23)
  have br := blk_new (w1.alloc (.cells ZT 48)) (.cells #[.pointer none, .pointer (some ⟨w1.heap.size, 0, none⟩)] 23)
  rw [show (w1.alloc (.cells ZT 48)).heap.size = w1.heap.size + 1 by simp] at br
  have bo := blk_kept k2 (fun h => h) (blk_kept k1 (fun h => h) (blk_new w (.cells #[.int .i64 kd, .int .i64 x, .int .i64 fl] 31)))
  have KK := hidden (((same_alloc w (.cells #[.int .i64 kd, .int .i64 x, .int .i64 fl] 31)).trans k1).trans k2)
  generalize hW : (w1.alloc (.cells ZT 48)).alloc (.cells #[.pointer none, .pointer (some ⟨w1.heap.size, 0, none⟩)] 23) = W at *
  generalize w1.heap.size + 1 = R at *
  generalize w1.heap.size = Z at *
  generalize w.heap.size = B at *
  clear hW k2 k1 hz hs
  go_loopw [18] (fun i wr => ∃ k : Nat, k ≤ 2 ∧ i = .int .i64 k ∧ Same W wr) (fun i _ => 2 - (intOf i).toNat)
  case atStart => exact ⟨0, by decide, rfl, Kept.refl _ _⟩
  case round =>
    obtain ⟨k, hk, rfl, hS⟩ := hrel
    have S0 := hidden hS
    by_cases hlt : k < 2
    · obtain ⟨v, hv, hN⟩ : ∃ v, wr.cell? ⟨R, k, none⟩ = some v ∧ NoT wr v := by
        have hr := blk_kept hS (fun h => h) br
        have hzz := blk_kept hS (fun h => h) bz
        obtain rfl | rfl : k = 0 ∨ k = 1 := by omega
        · exact ⟨_, (blk_cell hr).trans rfl, .inl rfl⟩
        · exact ⟨_, (blk_cell hr).trans rfl, .inr ⟨Z, rfl, (blk_cell hzz).trans ZT_map⟩⟩
      have o1 : wr.cell? ⟨B, 1, none⟩ = some (.int .i64 x) := (blk_cell (blk_kept hS (fun h => h) bo)).trans rfl
      have o2 : wr.cell? ⟨B, 2, none⟩ = some (.int .i64 fl) := (blk_cell (blk_kept hS (fun h => h) bo)).trans rfl
      have hB : B < wr.heap.size := blk_lt (blk_kept hS (fun h => h) bo)
      have HN := hidden hN
      clear hN hS bz br bo
      go_wp2_with (first
        | (go_at_call 12; refine (n_open _ _ _ _ HN.out).mono ?_; rintro e w2 ⟨rfl, rfl⟩)
        | (go_at_call 14; refine (n_close _ _ _ HN.out).mono ?_; rintro e w3 ⟨rfl, k3⟩; have N3 := hidden (HN.out.same k3); have p1 := k3.cell (fun h => h) o1; have hB3 : B < w3.heap.size := (Nat.lt_of_lt_of_le hB k3.size); have S3 := hidden (S0.out.trans k3); clear k3)
        | (go_at_call 15; refine (n_get _ _ _ N3.out).mono ?_; rintro e w4 ⟨rfl, k4⟩; have N4 := hidden ((N3.out.same k4).same (same_alloc _ (.cells #[.int .i64 0, .int .i64 0, .int .i64 0] 44))); have q1 := k4.cell (fun h => h) p1; have hB4 : B < w4.heap.size := (Nat.lt_of_lt_of_le hB3 k4.size); have S4 := hidden ((S3.out.trans k4).alloc (.cells #[.int .i64 0, .int .i64 0, .int .i64 0] 44)); clear k4)
        | (go_at_call 13; refine (n_count _ _ _ N4.out).mono ?_; rintro e w5 ⟨rfl, rfl⟩)
        | (go_at_call 16; refine (n_all _ _ N4.out).mono ?_; rintro e w5 ⟨rfl, rfl⟩)
        | (go_at_call 17; refine (n_inodes _ _ N4.out).mono ?_; rintro e w5 ⟨rfl, rfl⟩)
        | (go_at_call 18; refine (n_clear _ _ N4.out).mono ?_; rintro e w5 ⟨rfl, rfl⟩)
        | (go_at_call 11; refine (n_fork _ _ N4.out).mono ?_; rintro e w5 ⟨rfl, rfl⟩))
      go_roundw
      case rel => exact ⟨k + 1, by omega, by go_num, S4.out⟩
      case measure => simp [intOf]; omega
    · go_wp2
      go_returns
      exact ⟨rfl, KK.out.trans S0.out⟩
end Go.Proofs.Ytiffkcffcjembaa
namespace Go.Proofs.Ytiffkcffcjembaa.HandleNobody
open Go.ChangeShapes Go.WideShapes Go.ChangeAt Go.RowKit Go.Joins Go.ChangeMaps
set_option maxRecDepth 100000 in
theorem contract (H : Type) (enc : TypeId × Value → H) (W : World) (base : Nat) (args : Array Value) (ds gs : List (DataW H)) (before : List MemPlace)
    (hval : ∀ (j : Nat) t v, Try.f6.params[j]? = some t → args[j]? = some v → Value.okWide Try.prog W .any base t v)
    (hW : DataW.Whole enc Try.prog Try.f6.params.toList Rows.handleNobodySpec.vars false W args.toList ds gs before)
    (hsz : (DataW.weightsEach Try.prog (Try.f6.params.toList ++ (OpenSpec.ofChange Rows.handleNobodySpec).bare.plain.varTypes Try.prog) (ds ++ gs)).all (· ≤ reachBytes) = true)
    (_hL : laidMetH Try.prog Rows.handleNobodyRow.laid W) :
    Calls Try.prog 6 args W fun e W' => ∃ v, e = .returned v ∧ Rows.handleNobodySpec.post enc Try.prog Try.f6 false true false false W args v W' := by
  have hW' := hW
  obtain ⟨p, q, hA0, hV, rfl, hfz, hnd⟩ := hW
  have hA : DataW.TrodAll enc Try.prog W 0 (fun _ => true) true Try.f6.params.toList args.toList ds p := hA0
  rw [Try.params6] at hA hval hsz
  obtain ⟨v0, vs0, d0, ds0, p0, q0, hargs, rfl, rfl, h0, r0⟩ := trodAll_cons hA
  obtain ⟨rfl, rfl, rfl⟩ := trodAll_nil r0
  obtain rfl : args = #[v0] := by cases args; simp_all
  obtain ⟨rfl, rfl⟩ := trodVars_none hV
  obtain ⟨c0_0, c0_1, c0_2, y0_0, y0_1, y0_2, m0, rfl, rfl, hp0, hy0_0, hy0_1, hy0_2⟩ := open_agg3 Try.underlying31 (by kernel_rfl) (by kernel_rfl) (hval 0 31 v0 rfl rfl) h0
  obtain ⟨oKind, e0_0, rfl, w_oKind⟩ := DataW.trod_int Try.underlying3 hy0_0
  obtain ⟨oN, e0_1, rfl, w_oN⟩ := DataW.trod_int Try.underlying3 hy0_1
  obtain ⟨oFlags, e0_2, rfl, w_oFlags⟩ := DataW.trod_int Try.underlying3 hy0_2
  simp at e0_0 e0_1 e0_2
  subst e0_0 e0_1 e0_2
  have b_oKind : -9223372036854775808 ≤ oKind ∧ oKind ≤ 9223372036854775807 := by simpa [Lit.wf, IntKind.min, IntKind.max, IntKind.signed, IntKind.bits] using w_oKind
  have b_oN : -9223372036854775808 ≤ oN ∧ oN ≤ 9223372036854775807 := by simpa [Lit.wf, IntKind.min, IntKind.max, IntKind.signed, IntKind.bits] using w_oN
  have b_oFlags : -9223372036854775808 ≤ oFlags ∧ oFlags ≤ 9223372036854775807 := by simpa [Lit.wf, IntKind.min, IntKind.max, IntKind.signed, IntKind.bits] using w_oFlags
  refine (hnob_walk oKind oN oFlags W b_oKind.1 b_oKind.2 b_oN.1 b_oN.2 b_oFlags.1 b_oFlags.2).mono fun e W' ⟨he, hg⟩ => ?_
  subst he
  exact ⟨_, rfl, law_post laidOut (by rw [Try.params6]; decide +kernel) rfl hW' rfl Try.underlying4 ⟨rfl, rfl, rfl⟩ (hg.below (Nat.le_refl _) fun _ h => h.elim)⟩
set_option maxRecDepth 100000 in
theorem lifted (os : Os) (started : os.Started) (H : Type) (enc : TypeId × Value → H) (F : Stop.Interp) :
    ReturnsInHanded {} Try.checked os 6 .any ((OpenSpec.ofChange Rows.handleNobodySpec).preRow enc Try.prog Try.f6 Rows.handleNobodyRow.domain false Rows.handleNobodyRow.laid) (((OpenSpec.ofChange Rows.handleNobodySpec).at F).post enc Try.prog Try.f6 false true false false) := by
  refine returnsInHanded_of_row (C := Try.checked) (s := OpenSpec.ofChange Rows.handleNobodySpec) own started (by kernel_rfl) Try.func6
    (witness_row_at (enc := enc) (C := Try.checked) false (World.holding Try.prog os ⟨#[], #[], []⟩) #[.agg #[.int .i64 0, .int .i64 0, .int .i64 0]] rfl (by kernel_rfl) (by kernel_rfl) (by kernel_rfl)
      (OpenSpec.preRow_of_cond (x := ([.agg [.lit (.int .i64 0), .lit (.int .i64 0), .lit (.int .i64 0)]], [], [])) 8 (by kernel_rfl) (by kernel_rfl) (fun k hk => by cases hk) (by kernel_rfl) (laidMet_of_run' 8 (by kernel_rfl) (by kernel_rfl)))) ?_
  intro W base args ds gs before hval hW _ _ hsz hL _ _
  exact contract H enc W base args ds gs before hval hW hsz hL
theorem said : Rows.HandleNobodySaid :=
  OpenClaim.holds_of_cond 6 Try.f6 rfl rfl rfl rfl rfl rfl rfl ⟨rfl, rfl, rfl, rfl, rfl⟩ rfl rfl rfl rfl rfl (by kernel_rfl) Try.func6 (by kernel_rfl)
    (of_decide_eq_true (by kernel_rfl)) (by unfold Func.isWrapper; first | (rw [if_pos (by decide +kernel)]; kernel_rfl) | (rw [if_neg (by decide +kernel)]; exact ⟨rfl, rfl⟩))
    (fun os started H enc _ F => by rw [OpenClaim.pre_eq_preRow]; exact lifted os started H enc F)
end Go.Proofs.Ytiffkcffcjembaa.HandleNobody
namespace Go.Proofs.Ytiffkcffcjembaa
theorem handleNobody_said : Rows.HandleNobodySaid := HandleNobody.said
end Go.Proofs.Ytiffkcffcjembaa
