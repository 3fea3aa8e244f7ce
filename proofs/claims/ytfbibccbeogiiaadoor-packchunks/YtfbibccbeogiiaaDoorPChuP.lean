/-
  PackChunks (P13.4): whatever the bytes and the slot: the program's Chunk tells the same bytes and the same error as the document's: the law's call returns true and leaves its arguments as they were.
  Condition: the table crcSteps holds what the program's text lays (the card ties it).
-/
import Derived.Test.YtfbibccbeogiiaaDoorKK
import Derived.Test.YtfbibccbeogiiaaDoorKR3
namespace Go.Proofs.YtfbibccbeogiiaaDoor
open Go.RowKit
set_option linter.unusedVariables false
set_option maxHeartbeats 4000000 in
set_option maxRecDepth 100000 in
theorem pchunks_walk (v : Value) (l : List UInt8) (o n : Int) (w : World) (hb : Bt w v l) (hl : l.length ≤ 140737488351232) (o0 : -9223372036854775808 ≤ o) (o1 : o ≤ 9223372036854775807) (n0 : -9223372036854775808 ≤ n) (n1 : n ≤ 9223372036854775807) (hT : Tab w) :
    Calls Tryd.prog 5 #[v, .agg #[.int .i64 o, .int .i64 n]] w fun e w' => e = .returned (.bool true) ∧ Same w w' := by
  have HT := hidden hT
  have HB := hidden hb
  obtain ⟨va, vc, rfl, _⟩ := hb.form
  have HA : Hid (∀ W, Same w W → Calls Tryd.prog 27 #[.slice va l.length vc, .agg #[.int .i64 o, .int .i64 n]] W fun e w' => ChunkP (chunkOf l o n) W e w') := hidden (fun W k => chunkP_any _ l o n W (hT.same k) (hb.same k) (by omega) o0 o1 n0 n1)
  have HR : Hid (∀ W, Same w W → Calls Tryd.prog 28 #[.slice va l.length vc, .agg #[.int .i64 o, .int .i64 n]] W fun e w' => ChunkP (chunkOf l o n) W e w') := hidden (fun W k => chunkR_any _ l o n W (hb.same k) (by omega) o0 o1 n0 n1)
  have hcl : ((chunkOf l o n).getD []).length ≤ 140737488355328 := by
    unfold chunkOf
    split
    · simp; omega
    · simp
  have HSm : Hid (∀ W x y, Bt W x ((chunkOf l o n).getD []) → Bt W y ((chunkOf l o n).getD []) → Calls Tryd.prog 17 #[x, y] W fun e w' => e = .returned (.bool true) ∧ Same W w') := hidden (fun W x y h1 h2 => by
    have := sameB_any x y _ _ W h1 h2 hcl hcl
    simpa using this)
  generalize chunkOf l o n = R at *
  obtain ⟨er, her⟩ : ∃ er : Int, (if R.isSome then (0 : Int) else 130) = er := ⟨_, rfl⟩
  have HER := hidden her
  clear hT hb hcl her
  go_enter Tryd.func5, Tryd.ntmps5
  go_wp2_with (first
    | (go_at_call 27; refine (HA.out _ (same_alloc _ _)).mono ?_; rintro e w1 ⟨x, rfl, hx, k1⟩; rw [HER.out]; have K1 := hidden (Kept.trans (same_alloc w _) k1); have b1 := blk_kept k1 (fun h => h) (blk_new w _); have c0 : w1.cell? ⟨w.heap.size, 0, none⟩ = some (.int .i64 o) := blk_cell b1; have c1 : w1.cell? ⟨w.heap.size, 1, none⟩ = some (.int .i64 n) := blk_cell b1; have X1 := hidden hx; clear k1 b1 hx)
    | (go_at_call 28; refine (HR.out _ K1.out).mono ?_; rintro e w2 ⟨y, rfl, hy, k2⟩; rw [HER.out]; have K2 := hidden (Kept.trans K1.out k2); have X2 := hidden (X1.out.same k2); have Y2 := hidden hy; clear k2 hy c0 c1)
    | (go_at_call 9; refine (p_lives _ (HT.out.same K2.out)).mono ?_; rintro e w3 ⟨rfl, k3⟩; have K3 := hidden (Kept.trans K2.out k3); have X3 := hidden (X2.out.same k3); have Y3 := hidden (Y2.out.same k3); clear k3)
    | (go_at_call 17; refine (HSm.out _ _ _ X3.out Y3.out).mono ?_; rintro e w4 ⟨rfl, k4⟩; have K4 := hidden (Kept.trans K3.out k4); clear k4))
  go_returns
  exact ⟨rfl, K4.out⟩
end Go.Proofs.YtfbibccbeogiiaaDoor
namespace Go.Proofs.YtfbibccbeogiiaaDoor.PackChunks
open Go.ChangeShapes Go.WideShapes Go.ChangeAt Go.RowKit Go.Joins Go.ChangeMaps
set_option maxRecDepth 100000 in
theorem contract (H : Type) (enc : TypeId × Value → H) (W : World) (base : Nat) (args : Array Value) (ds gs : List (DataW H)) (before : List MemPlace)
    (hval : ∀ (j : Nat) t v, Tryd.f5.params[j]? = some t → args[j]? = some v → Value.okWide Tryd.prog W .any base t v)
    (hW : DataW.Whole enc Tryd.prog Tryd.f5.params.toList Rows.packChunksSpec.vars false W args.toList ds gs before)
    (hsz : (DataW.weightsEach Tryd.prog (Tryd.f5.params.toList ++ (OpenSpec.ofChange Rows.packChunksSpec).bare.plain.varTypes Tryd.prog) (ds ++ gs)).all (· ≤ reachBytes) = true)
    (hL : laidMetH Tryd.prog Rows.packChunksRow.laid W) :
    Calls Tryd.prog 5 args W fun e W' => ∃ v, e = .returned v ∧ Rows.packChunksSpec.post enc Tryd.prog Tryd.f5 false true false false W args v W' := by
  have hW' := hW
  obtain ⟨p, q, hA0, hV, rfl, hfz, hnd⟩ := hW
  have hA : DataW.TrodAll enc Tryd.prog W 0 (fun _ => true) true Tryd.f5.params.toList args.toList ds p := hA0
  rw [Tryd.params5] at hA hval hsz
  obtain ⟨v0, vs0, d0, ds0, p0, q0, hargs, rfl, rfl, h0, r0⟩ := trodAll_cons hA
  obtain ⟨v1, vs1, d1, ds1, p1, q1, rfl, rfl, rfl, h1, r1⟩ := trodAll_cons r0
  obtain ⟨rfl, rfl, rfl⟩ := trodAll_nil r1
  obtain rfl : args = #[v0, v1] := by cases args; simp_all
  obtain ⟨rfl, rfl⟩ := trodVars_none hV
  obtain ⟨l_b, in_b, sz_b⟩ := bytes_open (hval 0 32 v0 rfl rfl) h0
  obtain ⟨c1_0, c1_1, y1_0, y1_1, m1, rfl, rfl, hp1, hy1_0, hy1_1⟩ := open_agg2 Tryd.underlying34 (by kernel_rfl) (by kernel_rfl) (hval 1 34 v1 rfl rfl) h1
  obtain ⟨sOffset, e1_0, rfl, w_sOffset⟩ := DataW.trod_int Tryd.underlying3 hy1_0
  obtain ⟨sLength, e1_1, rfl, w_sLength⟩ := DataW.trod_int Tryd.underlying3 hy1_1
  simp at e1_0 e1_1
  subst e1_0 e1_1
  have b_sOffset : -9223372036854775808 ≤ sOffset ∧ sOffset ≤ 9223372036854775807 := by simpa [Lit.wf, IntKind.min, IntKind.max, IntKind.signed, IntKind.bits] using w_sOffset
  have b_sLength : -9223372036854775808 ≤ sLength ∧ sLength ≤ 9223372036854775807 := by simpa [Lit.wf, IntKind.min, IntKind.max, IntKind.signed, IntKind.bits] using w_sLength
  refine (pchunks_walk v0 l_b sOffset sLength W in_b (sz_b _ _ 0 hsz rfl rfl) b_sOffset.1 b_sOffset.2 b_sLength.1 b_sLength.2 (tab_laid hL)).mono fun e W' ⟨he, hg⟩ => ?_
  subst he
  exact ⟨_, rfl, law_post laidOut (by rw [Tryd.params5]; decide +kernel) rfl hW' rfl Tryd.underlying4 ⟨rfl, rfl, rfl⟩ (hg.below (Nat.le_refl _) fun _ h => h.elim)⟩
set_option maxRecDepth 100000 in
theorem lifted (os : Os) (started : os.Started) (H : Type) (enc : TypeId × Value → H) (F : Stop.Interp) :
    ReturnsInHanded {} Tryd.checked os 5 .any ((OpenSpec.ofChange Rows.packChunksSpec).preRow enc Tryd.prog Tryd.f5 Rows.packChunksRow.domain false Rows.packChunksRow.laid) (((OpenSpec.ofChange Rows.packChunksSpec).at F).post enc Tryd.prog Tryd.f5 false true false false) := by
  refine returnsInHanded_of_row (C := Tryd.checked) (s := OpenSpec.ofChange Rows.packChunksSpec) own started (by kernel_rfl) Tryd.func5
    (witness_row_at (enc := enc) (C := Tryd.checked) false ({ World.holding Tryd.prog os ⟨#[], #[], []⟩ with heap := (World.holding Tryd.prog os ⟨#[], #[], []⟩).heap.modify tabBlock fun | .cells _ t frozen => .cells (tabInts.map (Value.int .u32)).toArray t frozen | o => o }) #[.slice none 0 0, .agg #[.int .i64 0, .int .i64 0]] rfl (by kernel_rfl) (by kernel_rfl) (by kernel_rfl)
      (OpenSpec.preRow_of_cond (x := ([.nil, .agg [.lit (.int .i64 0), .lit (.int .i64 0)]], [], [])) 8 (by kernel_rfl) (by kernel_rfl) (fun k hk => by cases hk) (by kernel_rfl) (laidMet_of_run' 8 (by kernel_rfl) (by kernel_rfl)))) ?_
  intro W base args ds gs before hval hW _ _ hsz hL _ _
  exact contract H enc W base args ds gs before hval hW hsz hL
theorem said : Rows.PackChunksSaid :=
  OpenClaim.holds_of_cond 5 Tryd.f5 rfl rfl rfl rfl rfl rfl rfl ⟨rfl, rfl, rfl, rfl, rfl⟩ rfl rfl rfl rfl rfl (by kernel_rfl) Tryd.func5 (by kernel_rfl)
    (of_decide_eq_true (by kernel_rfl)) (by unfold Func.isWrapper; first | (rw [if_pos (by decide +kernel)]; kernel_rfl) | (rw [if_neg (by decide +kernel)]; exact ⟨rfl, rfl⟩))
    (fun os started H enc _ F => by rw [OpenClaim.pre_eq_preRow]; exact lifted os started H enc F)
theorem plain (f : FuncId) (fn : Func) (hf : Tryd.pinned.checked.prog.funcNamed Rows.packChunksRow.func = some f) (hfn : Tryd.pinned.checked.prog.funcs[f]? = some fn) :
    false = Tryd.pinned.checked.prog.looks [] ∧ ∀ (j : Nat) t, fn.params[j]? = some t → Tryd.pinned.checked.prog.wantsStandIn t = false := by
  obtain rfl : f = 5 := Option.some.inj ((show Tryd.prog.funcNamed Rows.packChunksRow.func = some 5 by kernel_rfl).symm.trans hf) |>.symm
  obtain rfl : fn = Tryd.f5 := (Option.some.inj (Tryd.func5.symm.trans hfn)).symm
  refine ⟨by kernel_rfl, fun j t ht => ?_⟩
  rw [Tryd.params5] at ht
  have hm : t ∈ [32, 34] := by simpa using Array.mem_of_getElem? ht
  have hall : [32, 34].all (fun t => !Tryd.prog.wantsStandIn t) = true := by kernel_rfl
  have h1 := List.all_eq_true.1 hall t hm
  have h2 : Tryd.prog.wantsStandIn t = false := by simpa using h1
  exact h2
theorem card : Rows.PackChunksCardSaid :=
  Claim7.holds_tied_plain_at .later [] _ _ _ _ said (fun _ h => by cases h) (by kernel_rfl) (fun _ h => by cases h) packChunks_row_tie rfl ⟨rfl, rfl⟩ (by kernel_rfl) rfl plain (by kernel_rfl)
end Go.Proofs.YtfbibccbeogiiaaDoor.PackChunks
namespace Go.Proofs.YtfbibccbeogiiaaDoor
theorem packChunks_card : Rows.PackChunksCardSaid := PackChunks.card
end Go.Proofs.YtfbibccbeogiiaaDoor
