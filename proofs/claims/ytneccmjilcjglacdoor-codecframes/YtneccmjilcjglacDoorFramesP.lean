/-
  CodecFrames (P2.5): for every kind and body Frame tells the document's frame, or ErrLong where the body is too long, and Unframe of it, whatever text is behind it, tells kind, body and size again: the law's call returns true and leaves its arguments as they were.
  Condition: the table crcSteps holds what the program's text lays (the card ties it).
-/
import Derived.Test.YtneccmjilcjglacDoorCTab
import Derived.Test.YtneccmjilcjglacDoorFrameR
import Derived.Test.YtneccmjilcjglacDoorUnf3
import Derived.Test.YtneccmjilcjglacDoorBeP
namespace Go.Proofs.YtneccmjilcjglacDoor
open Go.RowKit
set_option linter.unusedVariables false

theorem dropTake (a b c : List UInt8) (i n : Nat) (ha : a.length = i) (hb : b.length = n) : ((a ++ (b ++ c)).drop i).take n = b := by
  rw [List.drop_left' ha, List.take_left' hb]
theorem num_one (k : Nat) (h : k < 256) : num (be 1 k) = k := by rw [num_be']; exact Nat.mod_eq_of_lt (by omega)
theorem num_four (k : Nat) (h : k < 4294967296) : num (be 4 k) = k := by rw [num_be']; exact Nat.mod_eq_of_lt (by omega)
theorem unf_frame (kind : Nat) (body behind : ByteArray) (hk : kind < 256) (hb : body.size ≤ 1048576) : unf (⟨(frameL kind body).toArray⟩ ++ behind) = (kind, body, 12 + body.size, 0) := by
  have hc := crc_lt (fhead kind body)
  have hl : (⟨(frameL kind body).toArray⟩ ++ behind : ByteArray).data.toList = frameL kind body ++ behind.data.toList := by rw [fr_app, ba_list]
  have hz : (⟨(frameL kind body).toArray⟩ ++ behind : ByteArray).size = 12 + body.size + behind.size := by rw [← size_list, hl, List.length_append, frameL_len, size_list]
  have e0 : frameL kind body ++ behind.data.toList = [68, 70] ++ (be 1 kind ++ (be 1 0 ++ (be 4 body.size ++ (body.data.toList ++ (be 4 (crc (fhead kind body)) ++ behind.data.toList))))) := by simp [frameL, fhead]
  have e2 : frameL kind body ++ behind.data.toList = [68, 70] ++ (be 1 kind ++ (be 1 0 ++ (be 4 body.size ++ (body.data.toList ++ (be 4 (crc (fhead kind body)) ++ behind.data.toList))))) := e0
  have e3 : frameL kind body ++ behind.data.toList = ([68, 70] ++ be 1 kind) ++ (be 1 0 ++ (be 4 body.size ++ (body.data.toList ++ (be 4 (crc (fhead kind body)) ++ behind.data.toList)))) := by simp [frameL, fhead]
  have e4 : frameL kind body ++ behind.data.toList = ([68, 70] ++ be 1 kind ++ be 1 0) ++ (be 4 body.size ++ (body.data.toList ++ (be 4 (crc (fhead kind body)) ++ behind.data.toList))) := by simp [frameL, fhead]
  have e8 : frameL kind body ++ behind.data.toList = ([68, 70] ++ be 1 kind ++ be 1 0 ++ be 4 body.size) ++ (body.data.toList ++ (be 4 (crc (fhead kind body)) ++ behind.data.toList)) := by simp [frameL, fhead]
  have e9 : frameL kind body ++ behind.data.toList = fhead kind body ++ (be 4 (crc (fhead kind body)) ++ behind.data.toList) := by simp [frameL]
  have q2 : num (((frameL kind body ++ behind.data.toList).drop 2).take 1) = kind := by rw [e2, dropTake _ _ _ 2 1 rfl (be_length _ _), num_one kind hk]
  have q3 : num (((frameL kind body ++ behind.data.toList).drop 3).take 1) = 0 := by rw [e3, dropTake _ _ _ 3 1 (by simp [be_length]) (be_length _ _), num_one 0 (by decide)]
  have q4 : num (((frameL kind body ++ behind.data.toList).drop 4).take 4) = body.size := by rw [e4, dropTake _ _ _ 4 4 (by simp [be_length]) (be_length _ _), num_four _ (by omega)]
  have q9 : num (((frameL kind body ++ behind.data.toList).drop (8 + body.size)).take 4) = crc (fhead kind body) := by rw [e9, dropTake _ _ _ (8 + body.size) 4 (fhead_len _ _) (be_length _ _), num_four _ hc]
  have qt : (frameL kind body ++ behind.data.toList).take (8 + body.size) = fhead kind body := by rw [e9, List.take_left' (fhead_len _ _)]
  have qb : (⟨(frameL kind body).toArray⟩ ++ behind : ByteArray).extract 8 (8 + body.size) = body := by
    apply ba_ext
    rw [Lib.extract_data, hl, e8, show 8 + body.size - 8 = body.size by omega, dropTake _ _ _ 8 body.size (by simp [be_length]) (size_list body)]
  have qm : (((⟨(frameL kind body).toArray⟩ ++ behind : ByteArray).extract 0 2).toList == [68, 70]) = true := by
    rw [Lib.toList_data, Lib.extract_data, hl, e0]
    rfl
  have qf : flen (⟨(frameL kind body).toArray⟩ ++ behind) = body.size := by unfold flen; rw [hl, q4]
  unfold unf
  rw [qf, hl, if_neg (by rw [hz]; omega), if_neg, if_neg (by rw [hz]; omega), q9, qt, if_neg (fun h => h rfl), q2, qb]
  rintro (h | h | h)
  · rw [qm] at h; cases h
  · exact h q3
  · omega
set_option maxHeartbeats 4000000 in
set_option maxRecDepth 100000 in
theorem frames_walk (kind : Nat) (body behind : ByteArray) (w : World) (hk : kind < 256) (hb : body.size ≤ 140737488351232) (hs : behind.size ≤ 140737488351232) (hT : Tab w) :
    Calls Tryd.prog 5 #[.int .u8 kind, .string body, .string behind] w fun e w' => e = .returned (.bool true) ∧ Same w w' := by
  have HT := hidden hT
  clear hT
  by_cases hlong : 1048576 < body.size
  · go_enter Tryd.func5, Tryd.ntmps5
    go_wp2_with (first
      | (go_at_call 11; refine (awake_any _ HT.out).mono ?_; rintro e w0 ⟨rfl, k0⟩)
      | (go_at_call 15; refine (frame_long kind body _ hlong (by omega)).mono ?_; rintro e w1 ⟨rfl, k1⟩)
      | (go_at_call 16; refine (refFrame_long kind body _ hlong (by omega)).mono ?_; rintro e w2 ⟨rfl, k2⟩))
    go_returns
    exact ⟨rfl, Kept.trans (Kept.trans k0 k1) k2⟩
  · have g1 := fun w h => frame_in kind body w hk (by omega) h
    have g2 := fun w => refFrame_in kind body w hk (by omega)
    have hz : (⟨(frameL kind body).toArray⟩ : ByteArray).size = 12 + body.size := by rw [ba_size, frameL_len]
    have g3 := fun w h => unframe_any (⟨(frameL kind body).toArray⟩ ++ behind) w (by rw [← size_list, fr_app, ba_list, List.length_append, frameL_len, size_list]; omega) h
    rw [unf_frame kind body behind hk (by omega)] at g3
    generalize (⟨(frameL kind body).toArray⟩ : ByteArray) = S at g1 g2 g3 hz
    have hadd : ∀ W : World, (Op.stringOp .add S behind).run Tryd.prog W = .ok (.string (S ++ behind)) W := fun W => run_string_add_sum W S behind (by omega)
    generalize S ++ behind = J at hadd g3
    have G1 := hidden g1
    have G2 := hidden g2
    have G3 := hidden g3
    clear g1 g2 g3
    have hq : ((12 + body.size : Nat) : Int) = 12 + (body.size : Int) := by omega
    have hsz : ((12 : Int) + (body.size : Int) == (S.size : Int)) = true := by rw [hz]; simp
    go_enter Tryd.func5, Tryd.ntmps5
    go_wp2_with (first
      | (go_at_call 11; refine (awake_any _ HT.out).mono ?_; rintro e w0 ⟨rfl, k0⟩)
      | (go_at_call 15; refine (G1.out _ (HT.out.same k0)).mono ?_; rintro e w1 ⟨rfl, k1⟩)
      | (go_at_call 16; refine (G2.out _).mono ?_; rintro e w2 ⟨rfl, k2⟩)
      | (go_at_call 17; refine (G3.out _ (((HT.out.same k0).same k1).same k2)).mono ?_; rintro e w3 ⟨rfl, k3⟩))
    go_returns
    exact ⟨rfl, Kept.trans (Kept.trans (Kept.trans k0 k1) k2) k3⟩
end Go.Proofs.YtneccmjilcjglacDoor
namespace Go.Proofs.YtneccmjilcjglacDoor.CodecFrames
open Go.ChangeShapes Go.WideShapes Go.ChangeAt Go.RowKit Go.Joins Go.ChangeMaps
set_option maxRecDepth 100000 in
theorem contract (H : Type) (enc : TypeId × Value → H) (W : World) (base : Nat) (args : Array Value) (ds gs : List (DataW H)) (before : List MemPlace)
    (hval : ∀ (j : Nat) t v, Tryd.f5.params[j]? = some t → args[j]? = some v → Value.okWide Tryd.prog W .any base t v)
    (hW : DataW.Whole enc Tryd.prog Tryd.f5.params.toList Rows.codecFramesSpec.vars false W args.toList ds gs before)
    (hsz : (DataW.weightsEach Tryd.prog (Tryd.f5.params.toList ++ (OpenSpec.ofChange Rows.codecFramesSpec).bare.plain.varTypes Tryd.prog) (ds ++ gs)).all (· ≤ reachBytes) = true)
    (hL : laidMetH Tryd.prog Rows.codecFramesRow.laid W) :
    Calls Tryd.prog 5 args W fun e W' => ∃ v, e = .returned v ∧ Rows.codecFramesSpec.post enc Tryd.prog Tryd.f5 false true false false W args v W' := by
  have hW' := hW
  obtain ⟨p, q, hA0, hV, rfl, hfz, hnd⟩ := hW
  have hA : DataW.TrodAll enc Tryd.prog W 0 (fun _ => true) true Tryd.f5.params.toList args.toList ds p := hA0
  rw [Tryd.params5] at hA hval hsz
  obtain ⟨v0, vs0, d0, ds0, p0, q0, hargs, rfl, rfl, h0, r0⟩ := trodAll_cons hA
  obtain ⟨v1, vs1, d1, ds1, p1, q1, rfl, rfl, rfl, h1, r1⟩ := trodAll_cons r0
  obtain ⟨v2, vs2, d2, ds2, p2, q2, rfl, rfl, rfl, h2, r2⟩ := trodAll_cons r1
  obtain ⟨rfl, rfl, rfl⟩ := trodAll_nil r2
  obtain rfl : args = #[v0, v1, v2] := by cases args; simp_all
  obtain ⟨rfl, rfl⟩ := trodVars_none hV
  obtain ⟨kind, rfl, rfl, rfl, w_kind⟩ := open_int Tryd.underlying5 (hval 0 5 v0 rfl rfl) h0
  have b_kind : 0 ≤ kind ∧ kind ≤ 255 := by simpa [Lit.wf, IntKind.min, IntKind.max, IntKind.signed, IntKind.bits] using w_kind
  obtain ⟨kind, rfl⟩ := Int.eq_ofNat_of_zero_le b_kind.1
  obtain ⟨body, rfl, rfl, rfl, _⟩ := open_string Tryd.underlying9 (hval 1 9 v1 rfl rfl) h1
  obtain ⟨behind, rfl, rfl, rfl, _⟩ := open_string Tryd.underlying9 (hval 2 9 v2 rfl rfl) h2
  have l_body : body.size ≤ 140737488351232 := by
    have h2 := sized_string hsz (j := 1) (t := 9) (bytes := body.data.toList) rfl rfl
    rw [size_list] at h2
    unfold reachBytes at h2
    omega
  have l_behind : behind.size ≤ 140737488351232 := by
    have h2 := sized_string hsz (j := 2) (t := 9) (bytes := behind.data.toList) rfl rfl
    rw [size_list] at h2
    unfold reachBytes at h2
    omega
  refine (frames_walk kind body behind W (show kind < 256 by have := b_kind.2; omega) l_body l_behind (tab_laid hL)).mono fun e W' ⟨he, hg⟩ => ?_
  subst he
  exact ⟨_, rfl, law_post laidOut (by rw [Tryd.params5]; decide +kernel) rfl hW' rfl Tryd.underlying4 ⟨rfl, rfl, rfl⟩ (hg.below (Nat.le_refl _) fun _ h => h.elim)⟩
set_option maxRecDepth 100000 in
theorem lifted (os : Os) (started : os.Started) (H : Type) (enc : TypeId × Value → H) (F : Stop.Interp) :
    ReturnsInHanded {} Tryd.checked os 5 .any ((OpenSpec.ofChange Rows.codecFramesSpec).preRow enc Tryd.prog Tryd.f5 Rows.codecFramesRow.domain false Rows.codecFramesRow.laid) (((OpenSpec.ofChange Rows.codecFramesSpec).at F).post enc Tryd.prog Tryd.f5 false true false false) := by
  refine returnsInHanded_of_row (C := Tryd.checked) (s := OpenSpec.ofChange Rows.codecFramesSpec) own started (by kernel_rfl) Tryd.func5
    (witness_row_at (enc := enc) (C := Tryd.checked) false ({ World.holding Tryd.prog os ⟨#[], #[], []⟩ with heap := (World.holding Tryd.prog os ⟨#[], #[], []⟩).heap.modify tabBlock fun | .cells _ t frozen => .cells (tabInts.map (Value.int .u32)).toArray t frozen | o => o }) #[.int .u8 0, .string ⟨#[]⟩, .string ⟨#[]⟩] rfl (by kernel_rfl) (by kernel_rfl) (by kernel_rfl)
      (OpenSpec.preRow_of_cond (x := ([.lit (.int .u8 0), .lit (.string []), .lit (.string [])], [], [])) 8 (by kernel_rfl) (by kernel_rfl) (fun k hk => by cases hk) (by kernel_rfl) (laidMet_of_run' 8 (by kernel_rfl) (by kernel_rfl)))) ?_
  intro W base args ds gs before hval hW _ _ hsz hL _ _
  exact contract H enc W base args ds gs before hval hW hsz hL
theorem said : Rows.CodecFramesSaid :=
  OpenClaim.holds_of_cond 5 Tryd.f5 rfl rfl rfl rfl rfl rfl rfl ⟨rfl, rfl, rfl, rfl, rfl⟩ rfl rfl rfl rfl rfl (by kernel_rfl) Tryd.func5 (by kernel_rfl)
    (of_decide_eq_true (by kernel_rfl)) (by unfold Func.isWrapper; first | (rw [if_pos (by decide +kernel)]; kernel_rfl) | (rw [if_neg (by decide +kernel)]; exact ⟨rfl, rfl⟩))
    (fun os started H enc _ F => by rw [OpenClaim.pre_eq_preRow]; exact lifted os started H enc F)
theorem plain (f : FuncId) (fn : Func) (hf : Tryd.pinned.checked.prog.funcNamed Rows.codecFramesRow.func = some f) (hfn : Tryd.pinned.checked.prog.funcs[f]? = some fn) :
    false = Tryd.pinned.checked.prog.looks [] ∧ ∀ (j : Nat) t, fn.params[j]? = some t → Tryd.pinned.checked.prog.wantsStandIn t = false := by
  obtain rfl : f = 5 := Option.some.inj ((show Tryd.prog.funcNamed Rows.codecFramesRow.func = some 5 by kernel_rfl).symm.trans hf) |>.symm
  obtain rfl : fn = Tryd.f5 := (Option.some.inj (Tryd.func5.symm.trans hfn)).symm
  refine ⟨by kernel_rfl, fun j t ht => ?_⟩
  rw [Tryd.params5] at ht
  have hm : t ∈ [5, 9, 9] := by simpa using Array.mem_of_getElem? ht
  have hall : [5, 9, 9].all (fun t => !Tryd.prog.wantsStandIn t) = true := by kernel_rfl
  have h1 := List.all_eq_true.1 hall t hm
  have h2 : Tryd.prog.wantsStandIn t = false := by simpa using h1
  exact h2
theorem card : Rows.CodecFramesCardSaid :=
  Claim7.holds_tied_plain_at .later [] _ _ _ _ said (fun _ h => by cases h) (by kernel_rfl) (fun _ h => by cases h) codecFrames_row_tie rfl ⟨rfl, rfl⟩ (by kernel_rfl) rfl plain (by kernel_rfl)
end Go.Proofs.YtneccmjilcjglacDoor.CodecFrames
namespace Go.Proofs.YtneccmjilcjglacDoor
theorem codecFrames_card : Rows.CodecFramesCardSaid := CodecFrames.card
end Go.Proofs.YtneccmjilcjglacDoor
