/-
  CodecSplits (P2.4): for every key and every count of numbers Split tells what the document says: the prefix, the numbers, the name, or ErrArg, ErrShort: the law's call returns true and leaves its arguments as they were.
  Condition: the table crcSteps holds what the program's text lays (the card ties it).
-/
import Derived.Test.YtneccmjilcjglacDoorCTab
import Derived.Test.YtneccmjilcjglacDoorSplit2
import Derived.Test.YtneccmjilcjglacDoorSameN
namespace Go.Proofs.YtneccmjilcjglacDoor
open Go.RowKit
set_option linter.unusedVariables false

theorem Same.drewN {w a : World} (h : Same w a) (n : Nat) : Same w (a.drewN n) := Kept.drewN h n
theorem spl_len (key : ByteArray) (k : Nat) (hk : k ≤ 4) : (spl key k).2.1.length ≤ 140737488355328 := by
  unfold spl
  split
  · simp
  · simp only [knums_len]; omega
set_option maxHeartbeats 2000000 in
set_option maxRecDepth 100000 in
theorem splits_walk (key : ByteArray) (k : Int) (w : World) (hs : key.size ≤ 140737488351232) (hk0 : -9223372036854775808 ≤ k) (hk1 : k ≤ 9223372036854775807) (hT : Tab w) :
    Calls Tryd.prog 3 #[.string key, .int .i64 k] w fun e w' => e = .returned (.bool true) ∧ Same w w' := by
  have HT := hidden hT
  clear hT
  by_cases hk : k < 0 ∨ 4 < k
  · go_enter Tryd.func3, Tryd.ntmps3
    go_wp2_with (first
      | (go_at_call 9; refine (split_out key k _ hk).mono ?_; rintro e w1 ⟨rfl, rfl⟩)
      | (go_at_call 10; refine (refSplit_out key k _ hk).mono ?_; rintro e w1 ⟨rfl, rfl⟩)
      | (go_at_call 11; refine (awake_any _ HT.out).mono ?_; rintro e w1 ⟨rfl, k1⟩)
      | (go_at_call 12; refine (same_any _ _ [] _ ⟨_, _, rfl, fun h => absurd rfl h⟩ ⟨_, _, rfl, fun h => absurd rfl h⟩ (Nat.zero_le _)).mono ?_; rintro e w2 ⟨rfl, nq, rfl⟩))
    go_returns
    exact ⟨rfl, Same.drewN k1 nq⟩
  · obtain ⟨k, rfl⟩ := Int.eq_ofNat_of_zero_le (show 0 ≤ k by omega)
    have h4 : k ≤ 4 := by omega
    have hsp := fun w => split_in key k w (by omega) h4
    have hlen := spl_len key k h4
    have href : ∀ w, Calls Tryd.prog 10 #[.string key, .int .i64 k] w fun e w' => ∃ v, e = .returned (.tuple #[.int .u8 (spl key k).1, v, .string (spl key k).2.2.1, .int .i64 (spl key k).2.2.2]) ∧ Nums w.heap.size v (spl key k).2.1 w' ∧ Same w w' := fun w => by
      by_cases h : key.size < 1 + 8 * k
      · have e : spl key k = (0, [], ⟨#[]⟩, 20) := by unfold spl; rw [if_pos h]
        rw [e]
        refine (refSplit_short key k w (by omega) h4 h).mono ?_
        rintro e w' ⟨rfl, rfl⟩
        exact ⟨_, rfl, Nums.nil _ _, Kept.refl _ _⟩
      · have e : spl key k = (num (key.data.toList.take 1), knums key.data.toList k, key.extract (1 + 8 * k) key.size, 0) := by unfold spl; rw [if_neg h]
        rw [e]
        exact refSplit_in key k w (by omega) h4 h
    generalize spl key k = R at hsp href hlen
    obtain ⟨a, l, nm, er⟩ := R
    have HS := hidden hsp
    have HR := hidden href
    have HL := hidden hlen
    clear hsp href hlen
    go_enter Tryd.func3, Tryd.ntmps3
    go_wp2_with (first
      | (go_at_call 9; refine (HS.out _).mono ?_; rintro e w1 ⟨v1, rfl, n1, k1⟩)
      | (go_at_call 10; refine (HR.out _).mono ?_; rintro e w2 ⟨v2, rfl, n2, k2⟩)
      | (go_at_call 11; refine (awake_any _ ((HT.out.same k1).same k2)).mono ?_; rintro e w3 ⟨rfl, k3⟩)
      | (go_at_call 12; refine (same_any _ _ l _ (Cells.same (Cells.same (Nums.cells n1) k2) k3) (Cells.same (Nums.cells n2) k3) HL.out).mono ?_; rintro e w4 ⟨rfl, nq, rfl⟩))
    go_returns
    exact ⟨rfl, Same.drewN (Kept.trans (Kept.trans k1 k2) k3) nq⟩
end Go.Proofs.YtneccmjilcjglacDoor
namespace Go.Proofs.YtneccmjilcjglacDoor.CodecSplits
open Go.ChangeShapes Go.WideShapes Go.ChangeAt Go.RowKit Go.Joins Go.ChangeMaps
theorem contract (H : Type) (enc : TypeId × Value → H) (W : World) (base : Nat) (args : Array Value) (ds gs : List (DataW H)) (before : List MemPlace)
    (hval : ∀ (j : Nat) t v, Tryd.f3.params[j]? = some t → args[j]? = some v → Value.okWide Tryd.prog W .any base t v)
    (hW : DataW.Whole enc Tryd.prog Tryd.f3.params.toList Rows.codecSplitsSpec.vars false W args.toList ds gs before)
    (hsz : (DataW.weightsEach Tryd.prog (Tryd.f3.params.toList ++ (OpenSpec.ofChange Rows.codecSplitsSpec).bare.plain.varTypes Tryd.prog) (ds ++ gs)).all (· ≤ reachBytes) = true)
    (hL : laidMetH Tryd.prog Rows.codecSplitsRow.laid W) :
    Calls Tryd.prog 3 args W fun e W' => ∃ v, e = .returned v ∧ Rows.codecSplitsSpec.post enc Tryd.prog Tryd.f3 false true false false W args v W' := by
  have hW' := hW
  obtain ⟨p, q, hA0, hV, rfl, hfz, hnd⟩ := hW
  have hA : DataW.TrodAll enc Tryd.prog W 0 (fun _ => true) true Tryd.f3.params.toList args.toList ds p := hA0
  rw [Tryd.params3] at hA hval hsz
  obtain ⟨v0, vs0, d0, ds0, p0, q0, hargs, rfl, rfl, h0, r0⟩ := trodAll_cons hA
  obtain ⟨v1, vs1, d1, ds1, p1, q1, rfl, rfl, rfl, h1, r1⟩ := trodAll_cons r0
  obtain ⟨rfl, rfl, rfl⟩ := trodAll_nil r1
  obtain rfl : args = #[v0, v1] := by cases args; simp_all
  obtain ⟨rfl, rfl⟩ := trodVars_none hV
  obtain ⟨key, rfl, rfl, rfl, _⟩ := open_string Tryd.underlying9 (hval 0 9 v0 rfl rfl) h0
  obtain ⟨k, rfl, rfl, rfl, w_k⟩ := open_int Tryd.underlying3 (hval 1 3 v1 rfl rfl) h1
  have b_k : -9223372036854775808 ≤ k ∧ k ≤ 9223372036854775807 := by simpa [Lit.wf, IntKind.min, IntKind.max, IntKind.signed, IntKind.bits] using w_k
  have l_key : key.size ≤ 140737488351232 := by
    have h2 := sized_string hsz (j := 0) (t := 9) (bytes := key.data.toList) rfl rfl
    rw [size_list] at h2
    unfold reachBytes at h2
    omega
  refine (splits_walk key k W l_key b_k.1 b_k.2 (tab_laid hL)).mono fun e W' ⟨he, hg⟩ => ?_
  subst he
  exact ⟨_, rfl, law_post laidOut (by rw [Tryd.params3]; decide +kernel) rfl hW' rfl Tryd.underlying4 ⟨rfl, rfl, rfl⟩ (hg.below (Nat.le_refl _) fun _ h => h.elim)⟩
set_option maxRecDepth 100000 in
theorem lifted (os : Os) (started : os.Started) (H : Type) (enc : TypeId × Value → H) (F : Stop.Interp) :
    ReturnsInHanded {} Tryd.checked os 3 .any ((OpenSpec.ofChange Rows.codecSplitsSpec).preRow enc Tryd.prog Tryd.f3 Rows.codecSplitsRow.domain false Rows.codecSplitsRow.laid) (((OpenSpec.ofChange Rows.codecSplitsSpec).at F).post enc Tryd.prog Tryd.f3 false true false false) := by
  refine returnsInHanded_of_row (C := Tryd.checked) (s := OpenSpec.ofChange Rows.codecSplitsSpec) own started (by kernel_rfl) Tryd.func3
    (witness_row_at (enc := enc) (C := Tryd.checked) false ({ World.holding Tryd.prog os ⟨#[], #[], []⟩ with heap := (World.holding Tryd.prog os ⟨#[], #[], []⟩).heap.modify tabBlock fun | .cells _ t frozen => .cells (tabInts.map (Value.int .u32)).toArray t frozen | o => o }) #[.string ⟨#[]⟩, .int .i64 0] rfl (by kernel_rfl) (by kernel_rfl) (by kernel_rfl)
      (OpenSpec.preRow_of_cond (x := ([.lit (.string []), .lit (.int .i64 0)], [], [])) 8 (by kernel_rfl) (by kernel_rfl) (fun k hk => by cases hk) (by kernel_rfl) (laidMet_of_run' 8 (by kernel_rfl) (by kernel_rfl)))) ?_
  intro W base args ds gs before hval hW _ _ hsz hL _ _
  exact contract H enc W base args ds gs before hval hW hsz hL
theorem said : Rows.CodecSplitsSaid :=
  OpenClaim.holds_of_cond 3 Tryd.f3 rfl rfl rfl rfl rfl rfl rfl ⟨rfl, rfl, rfl, rfl, rfl⟩ rfl rfl rfl rfl rfl (by kernel_rfl) Tryd.func3 (by kernel_rfl)
    (of_decide_eq_true (by kernel_rfl)) (by unfold Func.isWrapper; first | (rw [if_pos (by decide +kernel)]; kernel_rfl) | (rw [if_neg (by decide +kernel)]; exact ⟨rfl, rfl⟩))
    (fun os started H enc _ F => by rw [OpenClaim.pre_eq_preRow]; exact lifted os started H enc F)
theorem plain (f : FuncId) (fn : Func) (hf : Tryd.pinned.checked.prog.funcNamed Rows.codecSplitsRow.func = some f) (hfn : Tryd.pinned.checked.prog.funcs[f]? = some fn) :
    false = Tryd.pinned.checked.prog.looks [] ∧ ∀ (j : Nat) t, fn.params[j]? = some t → Tryd.pinned.checked.prog.wantsStandIn t = false := by
  obtain rfl : f = 3 := Option.some.inj ((show Tryd.prog.funcNamed Rows.codecSplitsRow.func = some 3 by kernel_rfl).symm.trans hf) |>.symm
  obtain rfl : fn = Tryd.f3 := (Option.some.inj (Tryd.func3.symm.trans hfn)).symm
  refine ⟨by kernel_rfl, fun j t ht => ?_⟩
  rw [Tryd.params3] at ht
  have hm : t ∈ [9, 3] := by simpa using Array.mem_of_getElem? ht
  have hall : [9, 3].all (fun t => !Tryd.prog.wantsStandIn t) = true := by kernel_rfl
  have h1 := List.all_eq_true.1 hall t hm
  have h2 : Tryd.prog.wantsStandIn t = false := by simpa using h1
  exact h2
theorem card : Rows.CodecSplitsCardSaid :=
  Claim7.holds_tied_plain_at .later [] _ _ _ _ said (fun _ h => by cases h) (by kernel_rfl) (fun _ h => by cases h) codecSplits_row_tie rfl ⟨rfl, rfl⟩ (by kernel_rfl) rfl plain (by kernel_rfl)
end Go.Proofs.YtneccmjilcjglacDoor.CodecSplits
namespace Go.Proofs.YtneccmjilcjglacDoor
theorem codecSplits_card : Rows.CodecSplitsCardSaid := CodecSplits.card
end Go.Proofs.YtneccmjilcjglacDoor
