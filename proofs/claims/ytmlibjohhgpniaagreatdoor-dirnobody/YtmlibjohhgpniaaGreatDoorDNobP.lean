/- DirNobody (P19.1): whatever directory, name and number: of no tree each of dir's calls tells ErrClosed and nothing else, and List goes over nothing; and a tree that New gave takes a name, tells and lists it. The law's call returns true. -/
import Derived.Test.YtmlibjohhgpniaaGreatDoorDi6
import Derived.Test.YtmlibjohhgpniaaGreatDoorCTab
namespace Go.Proofs.YtmlibjohhgpniaaGreatDoor
open Go.RowKit Go.Shelf
set_option linter.unusedVariables false
set_option linter.unusedSimpArgs false
attribute [local go_sem] Oper.semAt_some
/-- The iterator over no entries. -/
theorem list_none (Kp : World → World → Prop) (w : World) (B : Nat) (hB : w.heap[B]? = some (.cells #[.slice none 0 0] 190 (0, 0))) :
    SeqStopsK Fence.wide 5 Tryz.prog 106 #[.pointer (some ⟨B, 0, none⟩)] (fun (x : Empty) => x.elim) Kp (fun ys => ys = []) (fun _ => False) 0 w := fun lp J Jx W hW hJ _ hY h0 => by
  have c0 : W.cell? ⟨B, 0, none⟩ = some (.slice none 0 0) := blk_cell ((hW.block B (blk_lt hB)).trans hB)
  have H0 := hidden h0
  clear hW hY hJ h0 hB
  refine callsIn_of_wp Tryz.func106 rfl trivial ?_ rfl
  simp only [Tryz.ntmps106, List.size_toArray, List.length_cons, List.length_nil, Nat.reduceAdd, Nat.reduceSub, Array.replicate_succ, Array.replicate_zero, List.push_toArray, List.append_toArray, List.nil_append, List.cons_append]
  gi_wp2
  refine wpIn_loop_once ?_
  gi_wp2
  go_end0
  exact ⟨⟨_, rfl⟩, .inl ⟨[], rfl, H0.out⟩⟩
set_option maxRecDepth 100000 in
set_option maxHeartbeats 8000000 in
theorem dnobody_walk (d : Int) (name : ByteArray) (k : Int) (w : World) (hd0 : -9223372036854775808 ≤ d) (hd1 : d ≤ 9223372036854775807) (hn : name.size ≤ 140737488351232) (hk0 : -9223372036854775808 ≤ k) (hk1 : k ≤ 9223372036854775807) (hT : Tab w) :
    Calls Tryz.prog 6 #[.int .i64 d, .string name, .int .i64 k] w fun e w' => e = .returned (.bool true) ∧ Same w w' := by
  have HL := hidden (fun W => (callsIn_wide (n := 5)).2 (dlives W))
  have HG := hidden (fun W => (callsIn_wide (n := 5)).2 (dn_Get d name W))
  have HP := hidden (fun W => (callsIn_wide (n := 5)).2 (dn_Put d name k W))
  have HR := hidden (fun W => (callsIn_wide (n := 5)).2 (dn_Remove d name W))
  have HN := hidden (fun W => (callsIn_wide (n := 5)).2 (dn_Names d W))
  have HEm := hidden (fun W => (callsIn_wide (n := 5)).2 (dn_Empty d W))
  have HRf := hidden (fun W => (callsIn_wide (n := 5)).2 (dn_Refs W))
  have HLs := hidden (fun W => (callsIn_wide (n := 5)).2 (dn_List d W))
  clear hT hd0 hd1 hn hk0 hk1
  refine (callsIn_wide (n := 6)).1 ?_
  refine callsIn_of_wp_marks Tryz.func6 rfl trivial ?_ rfl
  simp only [Tryz.ntmps6, List.size_toArray, List.length_cons, List.length_nil, Nat.reduceAdd, Nat.reduceSub, Array.replicate_succ, Array.replicate_zero, List.push_toArray, List.append_toArray, List.nil_append, List.cons_append]
  gi_wp2_with (first
    | (refine ⟨trivial, ?_⟩; gi_at_call 40; refine (HL.out _).mono ?_; rintro e w1 ⟨rfl, q1⟩; have b1 : Hid (w1.heap[w.heap.size]? = some (.cells #[.bool false] 4 (0, 0))) := hidden (blk_kept q1 (fun h => h) (blk_new w _)); have K1 := hidden ((same_alloc w (.cells #[.bool false] 4)).trans q1); clear q1)
    | (refine ⟨trivial, ?_⟩; gi_at_call 41; refine (HG.out _).mono ?_; rintro e w2 ⟨rfl, q2⟩; have K2 := hidden (K1.out.trans q2); have b2 := hidden (blk_kept q2 (fun h => h) b1.out); clear q2 b1)
    | (refine ⟨trivial, ?_⟩; gi_at_call 42; refine (HP.out _).mono ?_; rintro e w3 ⟨rfl, q3⟩; have K3 := hidden (K2.out.trans q3); have b3 := hidden (blk_kept q3 (fun h => h) b2.out); clear q3 b2)
    | (refine ⟨trivial, ?_⟩; gi_at_call 43; refine (HR.out _).mono ?_; rintro e w4 ⟨rfl, q4⟩; have K4 := hidden (K3.out.trans q4); have b4 := hidden (blk_kept q4 (fun h => h) b3.out); clear q4 b3)
    | (refine ⟨trivial, ?_⟩; gi_at_call 44; refine (HN.out _).mono ?_; rintro e w5 ⟨rfl, q5⟩; have K5 := hidden (K4.out.trans q5); have b5 := hidden (blk_kept q5 (fun h => h) b4.out); clear q5 b4)
    | (refine ⟨trivial, ?_⟩; gi_at_call 45; refine (HEm.out _).mono ?_; rintro e w6 ⟨rfl, q6⟩; have K6 := hidden (K5.out.trans q6); have b6 := hidden (blk_kept q6 (fun h => h) b5.out); clear q6 b5)
    | (refine ⟨trivial, ?_⟩; gi_at_call 46; refine (HRf.out _).mono ?_; rintro e w7 ⟨rfl, q7⟩; have K7 := hidden (K6.out.trans q7); have b7 := hidden (blk_kept q7 (fun h => h) b6.out); clear q7 b6)
    | (refine ⟨trivial, ?_⟩; gi_at_call 47; refine (HLs.out _).mono ?_; rintro e w8 ⟨u, rfl, ⟨B, rfl, hB1, q8⟩⟩; have K8 := hidden (K7.out.trans q8); have b8 := hidden (blk_kept q8 (fun h => h) b7.out); have B8 := hidden hB1; clear q8 b7 hB1))
  have HB0 : Hid (Below w.heap.size w w8) := hidden (K8.out.below (Nat.le_refl _) fun _ h => h.elim)
  have by' : Boxed w8 w.heap.size 4 (.bool false) := b8.out
  have hz : w.heap.size < w8.heap.size := by'.lt
  refine wpIn_rangeFunc_ownH rfl (by decide) (gf := 106) (lb := #[.pointer (some ⟨B, 0, none⟩)]) rfl trivial (enters_of Tryz.func106 (by kernel_rfl) rfl)
    (list_none KC w8 B B8.out) (fun h k => h.trans k) (fun W l o o' _ hl ho _ => KC.putObj W l o o' hl ho) (Below.refl _ _) (fun x => x.elim)
    (fun (pre : List Empty) W => Boxed W w.heap.size 4 (.bool false) ∧ Below w.heap.size w W)
    (fun _ _ _ => False)
    (OwnFrom.and (Own.from (fun s A B row hs hg hr => hs.kept hg (fun e => by obtain ⟨o, ho, hc⟩ := hr _ e.symm; rw [show A.heap[w.heap.size]? = _ from hs] at ho; cases ho; cases hc)) _) (ownFrom_below (Nat.le_refl _) (by omega)))
    (fun _ _ _ _ _ hs _ _ => hs)
    ⟨by', HB0.out⟩
    (fun _ _ _ => True) (fun _ _ _ _ _ _ _ _ _ => trivial) ?assign ?body ?done ?stop
  case assign =>
    intro l pre x
    exact x.elim
  case body =>
    intro l pre x
    exact x.elim
  case done =>
    rintro D ys W hD hS ⟨hv, hB⟩ hK
    have HVV := hidden hv
    have HKK := hidden hK
    have HBB := hidden hB
    clear hK hB hv hS
    gi_wp2_with (refine ⟨trivial, ?_⟩; gi_at_call 40; refine (HL.out _).mono ?_; rintro e v5 ⟨rfl, r1⟩; have R5 := hidden r1; have b3 : Boxed v5 w.heap.size 4 (.bool false) := blk_kept r1 (fun h => h) HVV.out; have c3 := b3.cell; have f3 := b3.frozen; clear r1)
    have kk : Kept (only w.heap.size) v5 (v5.setCell ⟨w.heap.size, 0, none⟩ (.bool true)) := (Kept.refl (only w.heap.size) v5).setCell (p := ⟨w.heap.size, 0, none⟩) rfl _
    have hK2 : (v5.setCell ⟨w.heap.size, 0, none⟩ (.bool true)).heap[D]? = some (.deferred (some [])) := blk_kept kk (fun e => absurd (show D = w.heap.size from e) (by omega)) (blk_kept R5.out (fun h => h) HKK.out)
    have b4 : Boxed ((v5.setCell ⟨w.heap.size, 0, none⟩ (.bool true)).putObj D (.deferred none)) w.heap.size 4 (.bool true) := (Boxed.set (.bool true) b3).kept (grownBy_putObj' _ D _) (fun e => absurd (Option.some.inj e) (by omega))
    have hc5 := b4.cell
    have hS5 : Same w ((v5.setCell ⟨w.heap.size, 0, none⟩ (.bool true)).putObj D (.deferred none)) :=
      ((Kept.setNew (Kept.trans (same_of_below HBB.out) R5.out) (Nat.le_refl _) _)).grown (grownBy_putObj' _ D _) (fun k e hk => by cases e; omega)
    refine ⟨by simp, .inl ⟨_, _, rfl, run_takeDeferred hK2, ?_⟩⟩
    refine ⟨.bool true, ?_, rfl, hS5⟩
    simp [results, Tryz.f6, go_sem, hc5]
  case stop =>
    rintro D c pre W _ _ h _
    exact h.elim
end Go.Proofs.YtmlibjohhgpniaaGreatDoor
namespace Go.Proofs.YtmlibjohhgpniaaGreatDoor.DirNobody
open Go.ChangeShapes Go.WideShapes Go.ChangeAt Go.RowKit Go.Joins Go.ChangeMaps
set_option maxRecDepth 100000 in
theorem contract (H : Type) (enc : TypeId × Value → H) (W : World) (base : Nat) (args : Array Value) (ds gs : List (DataW H)) (before : List MemPlace)
    (hval : ∀ (j : Nat) t v, Tryz.f6.params[j]? = some t → args[j]? = some v → Value.okWide Tryz.prog W .any base t v)
    (hW : DataW.Whole enc Tryz.prog Tryz.f6.params.toList Rows.dirNobodySpec.vars false W args.toList ds gs before)
    (hsz : (DataW.weightsEach Tryz.prog (Tryz.f6.params.toList ++ (OpenSpec.ofChange Rows.dirNobodySpec).bare.plain.varTypes Tryz.prog) (ds ++ gs)).all (· ≤ reachBytes) = true)
    (hL : laidMetH Tryz.prog Rows.dirNobodyRow.laid W) :
    Calls Tryz.prog 6 args W fun e W' => ∃ v, e = .returned v ∧ Rows.dirNobodySpec.post enc Tryz.prog Tryz.f6 false true false false W args v W' := by
  have hW' := hW
  obtain ⟨p, q, hA0, hV, rfl, hfz, hnd⟩ := hW
  have hA : DataW.TrodAll enc Tryz.prog W 0 (fun _ => true) true Tryz.f6.params.toList args.toList ds p := hA0
  rw [Tryz.params6] at hA hval hsz
  obtain ⟨v0, vs0, d0, ds0, p0, q0, hargs, rfl, rfl, h0, r0⟩ := trodAll_cons hA
  obtain ⟨v1, vs1, d1, ds1, p1, q1, rfl, rfl, rfl, h1, r1⟩ := trodAll_cons r0
  obtain ⟨v2, vs2, d2, ds2, p2, q2, rfl, rfl, rfl, h2, r2⟩ := trodAll_cons r1
  obtain ⟨rfl, rfl, rfl⟩ := trodAll_nil r2
  obtain rfl : args = #[v0, v1, v2] := by cases args; simp_all
  obtain ⟨rfl, rfl⟩ := trodVars_none hV
  obtain ⟨d, rfl, rfl, rfl, w_d⟩ := open_int Tryz.underlying3 (hval 0 3 v0 rfl rfl) h0
  have b_d : -9223372036854775808 ≤ d ∧ d ≤ 9223372036854775807 := by simpa [Lit.wf, IntKind.min, IntKind.max, IntKind.signed, IntKind.bits] using w_d
  obtain ⟨name, rfl, rfl, rfl, _⟩ := open_string Tryz.underlying9 (hval 1 9 v1 rfl rfl) h1
  obtain ⟨k, rfl, rfl, rfl, w_k⟩ := open_int Tryz.underlying3 (hval 2 3 v2 rfl rfl) h2
  have b_k : -9223372036854775808 ≤ k ∧ k ≤ 9223372036854775807 := by simpa [Lit.wf, IntKind.min, IntKind.max, IntKind.signed, IntKind.bits] using w_k
  have l_name : name.size ≤ 140737488351232 := by
    have h2 := sized_string hsz (j := 1) (t := 9) (bytes := name.data.toList) rfl rfl
    rw [size_list] at h2
    unfold reachBytes at h2
    omega
  refine (dnobody_walk d name k W b_d.1 b_d.2 l_name b_k.1 b_k.2 (tab_laid hL)).mono fun e W' ⟨he, hg⟩ => ?_
  subst he
  exact ⟨_, rfl, law_post laidOut (by rw [Tryz.params6]; decide +kernel) rfl hW' rfl Tryz.underlying4 ⟨rfl, rfl, rfl⟩ (hg.below (Nat.le_refl _) fun _ h => h.elim)⟩
set_option maxRecDepth 100000 in
theorem lifted (os : Os) (started : os.Started) (H : Type) (enc : TypeId × Value → H) (F : Stop.Interp) :
    ReturnsInHanded {} Tryz.checked os 6 .any ((OpenSpec.ofChange Rows.dirNobodySpec).preRow enc Tryz.prog Tryz.f6 Rows.dirNobodyRow.domain false Rows.dirNobodyRow.laid) (((OpenSpec.ofChange Rows.dirNobodySpec).at F).post enc Tryz.prog Tryz.f6 false true false false) := by
  refine returnsInHanded_of_row (C := Tryz.checked) (s := OpenSpec.ofChange Rows.dirNobodySpec) own started (by kernel_rfl) Tryz.func6
    (witness_row_at (enc := enc) (C := Tryz.checked) false ({ World.holding Tryz.prog os ⟨#[], #[], []⟩ with heap := (World.holding Tryz.prog os ⟨#[], #[], []⟩).heap.modify tabBlock fun | .cells _ t frozen => .cells (tabInts.map (Value.int .u32)).toArray t frozen | o => o }) #[.int .i64 0, .string ⟨#[]⟩, .int .i64 0] rfl (by kernel_rfl) (by kernel_rfl) (by kernel_rfl)
      (OpenSpec.preRow_of_cond (x := ([.lit (.int .i64 0), .lit (.string []), .lit (.int .i64 0)], [], [])) 8 (by kernel_rfl) (by kernel_rfl) (fun k hk => by cases hk) (by kernel_rfl) (laidMet_of_run' 8 (by kernel_rfl) (by kernel_rfl)))) ?_
  intro W base args ds gs before hval hW _ _ hsz hL _ _
  exact contract H enc W base args ds gs before hval hW hsz hL
theorem said : Rows.DirNobodySaid :=
  OpenClaim.holds_of_cond 6 Tryz.f6 rfl rfl rfl rfl rfl rfl rfl ⟨rfl, rfl, rfl, rfl, rfl⟩ rfl rfl rfl rfl rfl (by kernel_rfl) Tryz.func6 (by kernel_rfl)
    (of_decide_eq_true (by kernel_rfl)) (by unfold Func.isWrapper; first | (rw [if_pos (by decide +kernel)]; kernel_rfl) | (rw [if_neg (by decide +kernel)]; exact ⟨rfl, rfl⟩))
    (fun os started H enc _ F => by rw [OpenClaim.pre_eq_preRow]; exact lifted os started H enc F)
theorem plain (f : FuncId) (fn : Func) (hf : Tryz.pinned.checked.prog.funcNamed Rows.dirNobodyRow.func = some f) (hfn : Tryz.pinned.checked.prog.funcs[f]? = some fn) :
    false = Tryz.pinned.checked.prog.looks [] ∧ ∀ (j : Nat) t, fn.params[j]? = some t → Tryz.pinned.checked.prog.wantsStandIn t = false := by
  obtain rfl : f = 6 := Option.some.inj ((show Tryz.prog.funcNamed Rows.dirNobodyRow.func = some 6 by kernel_rfl).symm.trans hf) |>.symm
  obtain rfl : fn = Tryz.f6 := (Option.some.inj (Tryz.func6.symm.trans hfn)).symm
  refine ⟨by kernel_rfl, fun j t ht => ?_⟩
  rw [Tryz.params6] at ht
  have hm : t ∈ [3, 9, 3] := by simpa using Array.mem_of_getElem? ht
  have hall : [3, 9, 3].all (fun t => !Tryz.prog.wantsStandIn t) = true := by kernel_rfl
  have h1 := List.all_eq_true.1 hall t hm
  have h2 : Tryz.prog.wantsStandIn t = false := by simpa using h1
  exact h2
theorem card : Rows.DirNobodyCardSaid :=
  Claim7.holds_tied_plain_at .later [] _ _ _ _ said (fun _ h => by cases h) (by kernel_rfl) (fun _ h => by cases h) dirNobody_row_tie rfl ⟨rfl, rfl⟩ (by kernel_rfl) rfl plain (by kernel_rfl)
end Go.Proofs.YtmlibjohhgpniaaGreatDoor.DirNobody
namespace Go.Proofs.YtmlibjohhgpniaaGreatDoor
theorem dirNobody_card : Rows.DirNobodyCardSaid := DirNobody.card
end Go.Proofs.YtmlibjohhgpniaaGreatDoor
