/- InodeNobody (P18.1): whatever the step: of no tree each of inode's calls tells ErrClosed and nothing else, and All goes over nothing; and a tree that New gave takes inodes, gives numbers and lets one go. The law's call returns true. (Made by mkinob.py.) -/
import Derived.Test.YtmlibjohhgpniaaGreatDoorIn8
namespace Go.Proofs.YtmlibjohhgpniaaGreatDoor
open Go.RowKit Go.Shelf
set_option linter.unusedVariables false
set_option linter.unusedSimpArgs false
attribute [local go_sem] Oper.semAt_some
theorem kept_putObj {S : Nat → Prop} (W : World) (l : Nat) (o : Obj) (hl : S l) : Kept S W (W.putObj l o) :=
  (Kept.refl S W).grown (grownBy_putObj' W l o) (fun k e _ => by cases e; exact hl)
/-- The iterator over no values. -/
theorem values_none (Kp : World → World → Prop) (w : World) (B : Nat) (hB : w.heap[B]? = some (.cells #[.slice none 0 0] 168 (0, 0))) :
    SeqStopsK Fence.wide 5 Tryz.prog 149 #[.pointer (some ⟨B, 0, none⟩)] (fun (x : Empty) => x.elim) Kp (fun ys => ys = []) (fun _ => False) 0 w := fun lp J Jx W hW hJ _ hY h0 => by
  have c0 : W.cell? ⟨B, 0, none⟩ = some (.slice none 0 0) := blk_cell ((hW.block B (blk_lt hB)).trans hB)
  have H0 := hidden h0
  clear hW hY hJ h0 hB
  refine callsIn_of_wp Tryz.func149 rfl trivial ?_ rfl
  simp only [Tryz.ntmps149, List.size_toArray, List.length_cons, List.length_nil, Nat.reduceAdd, Nat.reduceSub, Array.replicate_succ, Array.replicate_zero, List.push_toArray, List.append_toArray, List.nil_append, List.cons_append]
  gi_wp2
  refine wpIn_loop_once ?_
  gi_wp2
  go_end0
  exact ⟨⟨_, rfl⟩, .inl ⟨[], rfl, H0.out⟩⟩
set_option maxRecDepth 100000 in
set_option maxHeartbeats 8000000 in
theorem inobody_walk (kd nn bb tt : Int) (dd : Bool) (a : Int) (b : Bool) (c d e0 : Int) (w : World) (hT : Tab w) :
    Calls Tryz.prog 5 #[.agg #[.int .i64 kd, .int .i64 nn, .int .i64 bb, .int .i64 tt, .bool dd, .int .i64 a, .bool b, .int .i64 c, .int .i64 d, .int .i64 e0]] w fun e w' => e = .returned (.bool true) ∧ Same w w' := by
  have HG := hidden (fun W => (callsIn_wide (n := 5)).2 (ni_Get nn W))
  have HP := hidden (fun W => (callsIn_wide (n := 5)).2 (ni_Put a b c d e0 W))
  have HN := hidden (fun W => (callsIn_wide (n := 5)).2 (ni_New dd nn W))
  have HRm := hidden (fun W => (callsIn_wide (n := 5)).2 (ni_Remove nn W))
  have HAw := hidden (fun W => (callsIn_wide (n := 5)).2 (iawake W))
  have HLi := hidden (fun W => (callsIn_wide (n := 5)).2 (ni_Link nn bb W))
  have HOr := hidden (fun W => (callsIn_wide (n := 5)).2 (ni_Orphan nn W))
  have HAd := hidden (fun W => (callsIn_wide (n := 5)).2 (ni_Adopt nn W))
  have HOs := hidden (fun W => (callsIn_wide (n := 5)).2 (ni_Orphans W))
  have HCo := hidden (fun W => (callsIn_wide (n := 5)).2 (ni_Counters W))
  have HSc := hidden (fun W => (callsIn_wide (n := 5)).2 (ni_SetCounters nn bb tt W))
  have HAl := hidden (fun W => (callsIn_wide (n := 5)).2 (all_no W none (.inl rfl)))
  have HRi := hidden (fun W => (callsIn_wide (n := 5)).2 (ni_Right W))
  clear hT
  have K0 : Hid (Same w ((w.alloc (.cells #[.int .i64 kd, .int .i64 nn, .int .i64 bb, .int .i64 tt, .bool dd, .int .i64 a, .bool b, .int .i64 c, .int .i64 d, .int .i64 e0] 64)).alloc (.cells #[.bool false] 4))) := hidden (((Kept.refl _ w).alloc _).alloc _)
  have O0 : Hid (((w.alloc (.cells #[.int .i64 kd, .int .i64 nn, .int .i64 bb, .int .i64 tt, .bool dd, .int .i64 a, .bool b, .int .i64 c, .int .i64 d, .int .i64 e0] 64)).alloc (.cells #[.bool false] 4)).heap[w.heap.size]? = some (.cells #[.int .i64 kd, .int .i64 nn, .int .i64 bb, .int .i64 tt, .bool dd, .int .i64 a, .bool b, .int .i64 c, .int .i64 d, .int .i64 e0] 64 (0, 0))) := hidden (blk_alloc (blk_new _ _) _)
  have R0 : Hid (((w.alloc (.cells #[.int .i64 kd, .int .i64 nn, .int .i64 bb, .int .i64 tt, .bool dd, .int .i64 a, .bool b, .int .i64 c, .int .i64 d, .int .i64 e0] 64)).alloc (.cells #[.bool false] 4)).heap[w.heap.size + 1]? = some (.cells #[.bool false] 4 (0, 0))) := hidden (by have := blk_new (w.alloc (.cells #[.int .i64 kd, .int .i64 nn, .int .i64 bb, .int .i64 tt, .bool dd, .int .i64 a, .bool b, .int .i64 c, .int .i64 d, .int .i64 e0] 64)) (.cells #[.bool false] 4); simpa using this)
  have z1 : ((w.alloc (.cells #[.int .i64 kd, .int .i64 nn, .int .i64 bb, .int .i64 tt, .bool dd, .int .i64 a, .bool b, .int .i64 c, .int .i64 d, .int .i64 e0] 64)).alloc (.cells #[.bool false] 4)).cell? ⟨w.heap.size, 1, none⟩ = some (.int .i64 nn) := blk_cell O0.out
  refine (callsIn_wide (n := 6)).1 ?_
  refine callsIn_of_wp_marks Tryz.func5 rfl trivial ?_ rfl
  simp only [Tryz.ntmps5, List.size_toArray, List.length_cons, List.length_nil, Nat.reduceAdd, Nat.reduceSub, Array.replicate_succ, Array.replicate_zero, List.push_toArray, List.append_toArray, List.nil_append, List.cons_append]
  gi_wp2_with (first
    | (refine ⟨trivial, ?_⟩; gi_at_call 27; refine (HG.out _).mono ?_; rintro e w1 ⟨rfl, p1⟩; have q1 := p1.alloc (.cells #[.int .i64 0, .bool false, .int .i64 0, .int .i64 0, .int .i64 0] 62); have K1 := hidden (K0.out.trans q1); have O1 := hidden (blk_kept q1 (fun h => h) O0.out); have R1 := hidden (blk_kept q1 (fun h => h) R0.out); have A1 := hidden (blk_new w1 (.cells #[.int .i64 0, .bool false, .int .i64 0, .int .i64 0, .int .i64 0] 62)); have cO1_5 := blk_cell (j := 5) O1.out; have cO1_6 := blk_cell (j := 6) O1.out; have cO1_7 := blk_cell (j := 7) O1.out; have cO1_8 := blk_cell (j := 8) O1.out; have cO1_9 := blk_cell (j := 9) O1.out; clear q1 p1)
    | (refine ⟨trivial, ?_⟩; gi_at_call 28; refine (HP.out _).mono ?_; rintro e w2 ⟨rfl, p2⟩; have q2 := p2; have K2 := hidden (K1.out.trans q2); have O2 := hidden (blk_kept q2 (fun h => h) O1.out); have R2 := hidden (blk_kept q2 (fun h => h) R1.out); have A2 := hidden (blk_kept q2 (fun h => h) A1.out); have cO2_4 := blk_cell (j := 4) O2.out; have cO2_1 := blk_cell (j := 1) O2.out; clear q2 p2 cO1_5 cO1_6 cO1_7 cO1_8 cO1_9)
    | (refine ⟨trivial, ?_⟩; gi_at_call 29; refine (HN.out _).mono ?_; rintro e w3 ⟨rfl, p3⟩; have q3 := p3.alloc (.cells #[.int .i64 0, .bool false, .int .i64 0, .int .i64 0, .int .i64 0] 62); have K3 := hidden (K2.out.trans q3); have O3 := hidden (blk_kept q3 (fun h => h) O2.out); have R3 := hidden (blk_kept q3 (fun h => h) R2.out); have A3 := hidden (blk_kept q3 (fun h => h) A2.out); have X3 := hidden (blk_new w3 (.cells #[.int .i64 0, .bool false, .int .i64 0, .int .i64 0, .int .i64 0] 62)); have cO3_1 := blk_cell (j := 1) O3.out; clear q3 p3 cO2_4 cO2_1)
    | (refine ⟨trivial, ?_⟩; gi_at_call 30; refine (HRm.out _).mono ?_; rintro e w4 ⟨rfl, p4⟩; have q4 := p4; have K4 := hidden (K3.out.trans q4); have O4 := hidden (blk_kept q4 (fun h => h) O3.out); have R4 := hidden (blk_kept q4 (fun h => h) R3.out); have A4 := hidden (blk_kept q4 (fun h => h) A3.out); have X4 := hidden (blk_kept q4 (fun h => h) X3.out); clear q4 p4 cO3_1)
    | (refine ⟨trivial, ?_⟩; gi_at_call 31; refine (HAw.out _).mono ?_; rintro e w5 ⟨rfl, p5⟩; have q5 := p5; have K5 := hidden (K4.out.trans q5); have O5 := hidden (blk_kept q5 (fun h => h) O4.out); have R5 := hidden (blk_kept q5 (fun h => h) R4.out); have A5 := hidden (blk_kept q5 (fun h => h) A4.out); have X5 := hidden (blk_kept q5 (fun h => h) X4.out); have cA5_0 := blk_cell (j := 0) A5.out; have cA5_1 := blk_cell (j := 1) A5.out; have cA5_2 := blk_cell (j := 2) A5.out; have cA5_3 := blk_cell (j := 3) A5.out; have cA5_4 := blk_cell (j := 4) A5.out; have cX5_0 := blk_cell (j := 0) X5.out; have cX5_1 := blk_cell (j := 1) X5.out; have cX5_2 := blk_cell (j := 2) X5.out; have cX5_3 := blk_cell (j := 3) X5.out; have cX5_4 := blk_cell (j := 4) X5.out; have cO5_1 := blk_cell (j := 1) O5.out; have cO5_2 := blk_cell (j := 2) O5.out; clear q5 p5)
    | (refine ⟨trivial, ?_⟩; gi_at_call 32; refine (HLi.out _).mono ?_; rintro e w6 ⟨rfl, p6⟩; have q6 := p6.alloc (.cells #[.int .i64 0, .bool false, .int .i64 0, .int .i64 0, .int .i64 0] 62); have K6 := hidden (K5.out.trans q6); have O6 := hidden (blk_kept q6 (fun h => h) O5.out); have R6 := hidden (blk_kept q6 (fun h => h) R5.out); have A6 := hidden (blk_kept q6 (fun h => h) A5.out); have X6 := hidden (blk_kept q6 (fun h => h) X5.out); have Y6 := hidden (blk_new w6 (.cells #[.int .i64 0, .bool false, .int .i64 0, .int .i64 0, .int .i64 0] 62)); have cO6_1 := blk_cell (j := 1) O6.out; clear q6 p6 cA5_0 cA5_1 cA5_2 cA5_3 cA5_4 cX5_0 cX5_1 cX5_2 cX5_3 cX5_4 cO5_1 cO5_2)
    | (refine ⟨trivial, ?_⟩; gi_at_call 33; refine (HOr.out _).mono ?_; rintro e w7 ⟨rfl, p7⟩; have q7 := p7; have K7 := hidden (K6.out.trans q7); have O7 := hidden (blk_kept q7 (fun h => h) O6.out); have R7 := hidden (blk_kept q7 (fun h => h) R6.out); have A7 := hidden (blk_kept q7 (fun h => h) A6.out); have X7 := hidden (blk_kept q7 (fun h => h) X6.out); have Y7 := hidden (blk_kept q7 (fun h => h) Y6.out); have cO7_1 := blk_cell (j := 1) O7.out; clear q7 p7 cO6_1)
    | (refine ⟨trivial, ?_⟩; gi_at_call 34; refine (HAd.out _).mono ?_; rintro e w8 ⟨rfl, p8⟩; have q8 := p8; have K8 := hidden (K7.out.trans q8); have O8 := hidden (blk_kept q8 (fun h => h) O7.out); have R8 := hidden (blk_kept q8 (fun h => h) R7.out); have A8 := hidden (blk_kept q8 (fun h => h) A7.out); have X8 := hidden (blk_kept q8 (fun h => h) X7.out); have Y8 := hidden (blk_kept q8 (fun h => h) Y7.out); clear q8 p8 cO7_1)
    | (refine ⟨trivial, ?_⟩; gi_at_call 35; refine (HOs.out _).mono ?_; rintro e w9 ⟨rfl, p9⟩; have q9 := p9; have K9 := hidden (K8.out.trans q9); have O9 := hidden (blk_kept q9 (fun h => h) O8.out); have R9 := hidden (blk_kept q9 (fun h => h) R8.out); have A9 := hidden (blk_kept q9 (fun h => h) A8.out); have X9 := hidden (blk_kept q9 (fun h => h) X8.out); have Y9 := hidden (blk_kept q9 (fun h => h) Y8.out); have cY9_0 := blk_cell (j := 0) Y9.out; have cY9_1 := blk_cell (j := 1) Y9.out; have cY9_2 := blk_cell (j := 2) Y9.out; have cY9_3 := blk_cell (j := 3) Y9.out; have cY9_4 := blk_cell (j := 4) Y9.out; clear q9 p9)
    | (refine ⟨trivial, ?_⟩; gi_at_call 36; refine (HCo.out _).mono ?_; rintro e w10 ⟨rfl, p10⟩; have q10 := p10; have K10 := hidden (K9.out.trans q10); have O10 := hidden (blk_kept q10 (fun h => h) O9.out); have R10 := hidden (blk_kept q10 (fun h => h) R9.out); have A10 := hidden (blk_kept q10 (fun h => h) A9.out); have X10 := hidden (blk_kept q10 (fun h => h) X9.out); have Y10 := hidden (blk_kept q10 (fun h => h) Y9.out); have cO10_1 := blk_cell (j := 1) O10.out; have cO10_2 := blk_cell (j := 2) O10.out; have cO10_3 := blk_cell (j := 3) O10.out; clear q10 p10 cY9_0 cY9_1 cY9_2 cY9_3 cY9_4)
    | (refine ⟨trivial, ?_⟩; gi_at_call 37; refine (HSc.out _).mono ?_; rintro e w11 ⟨rfl, p11⟩; have q11 := p11; have K11 := hidden (K10.out.trans q11); have O11 := hidden (blk_kept q11 (fun h => h) O10.out); have R11 := hidden (blk_kept q11 (fun h => h) R10.out); have A11 := hidden (blk_kept q11 (fun h => h) A10.out); have X11 := hidden (blk_kept q11 (fun h => h) X10.out); have Y11 := hidden (blk_kept q11 (fun h => h) Y10.out); clear q11 p11 cO10_1 cO10_2 cO10_3)
    | (refine ⟨trivial, ?_⟩; gi_at_call 38; refine (HAl.out _).mono ?_; rintro e w12 ⟨u, rfl, ⟨B, rfl, hB, p12⟩⟩; have GB := hidden hB; clear hB; have q12 := p12; have K12 := hidden (K11.out.trans q12); have O12 := hidden (blk_kept q12 (fun h => h) O11.out); have R12 := hidden (blk_kept q12 (fun h => h) R11.out); have A12 := hidden (blk_kept q12 (fun h => h) A11.out); have X12 := hidden (blk_kept q12 (fun h => h) X11.out); have Y12 := hidden (blk_kept q12 (fun h => h) Y11.out); clear q12 p12))
  have HB0 : Hid (Below w.heap.size w w12) := hidden (K12.out.below (Nat.le_refl _) fun _ h => h.elim)
  have by' : Boxed w12 (w.heap.size + 1) 4 (.bool false) := R12.out
  have hz : w.heap.size + 1 < w12.heap.size := by'.lt
  refine wpIn_rangeFunc_ownH rfl (by decide) (gf := 149) (lb := #[.pointer (some ⟨B, 0, none⟩)]) rfl trivial (enters_of Tryz.func149 (by kernel_rfl) rfl)
    (values_none KC w12 B GB.out) (fun h k => h.trans k) (fun W l o o' _ hl ho _ => KC.putObj W l o o' hl ho) (Below.refl _ _) (fun x => x.elim)
    (fun (pre : List Empty) W => Boxed W (w.heap.size + 1) 4 (.bool false) ∧ Below w.heap.size w W)
    (fun _ _ _ => False)
    (OwnFrom.and (Own.from (fun s A B row hs hg hr => hs.kept hg (fun e => by obtain ⟨o, ho, hc⟩ := hr _ e.symm; rw [show A.heap[w.heap.size + 1]? = _ from hs] at ho; cases ho; cases hc)) _) (ownFrom_below (Nat.le_refl _) (by omega)))
    (fun _ _ _ _ _ hs _ _ => hs)
    ⟨by', HB0.out⟩
    (fun _ _ _ => True) (fun _ _ _ _ _ _ _ _ _ => trivial) ?assign ?body ?done ?stop
  case assign =>
    intro l pre x
    exact x.elim
  case body =>
    intro l pre x
    exact x.elim
  case done =>
    rintro D ys W hD hS ⟨hv, hB⟩ hK
    have HVV := hidden hv
    have HKK := hidden hK
    have HBB := hidden hB
    clear hK hB hv hS
    gi_wp2_with (refine ⟨trivial, ?_⟩; gi_at_call 39; refine (HRi.out _).mono ?_; rintro e v5 ⟨rfl, r1⟩; have R5 := hidden r1; have b3 : Boxed v5 (w.heap.size + 1) 4 (.bool false) := blk_kept r1 (fun h => h) HVV.out; have c3 := b3.cell; have f3 := b3.frozen; clear r1)
    have kk : Kept (only (w.heap.size + 1)) v5 (v5.setCell ⟨w.heap.size + 1, 0, none⟩ (.bool true)) := (Kept.refl (only (w.heap.size + 1)) v5).setCell (p := ⟨w.heap.size + 1, 0, none⟩) rfl _
    have hK2 : (v5.setCell ⟨w.heap.size + 1, 0, none⟩ (.bool true)).heap[D]? = some (.deferred (some [])) := blk_kept kk (fun e => absurd (show D = w.heap.size + 1 from e) (by omega)) (blk_kept R5.out (fun h => h) HKK.out)
    have b4 : Boxed ((v5.setCell ⟨w.heap.size + 1, 0, none⟩ (.bool true)).putObj D (.deferred none)) (w.heap.size + 1) 4 (.bool true) := (Boxed.set (.bool true) b3).kept (grownBy_putObj' _ D _) (fun e => absurd (Option.some.inj e) (by omega))
    have hc5 := b4.cell
    have hS5 : Same w ((v5.setCell ⟨w.heap.size + 1, 0, none⟩ (.bool true)).putObj D (.deferred none)) :=
      ((Kept.setNew (p := ⟨w.heap.size + 1, 0, none⟩) (Kept.trans (same_of_below HBB.out) R5.out) (Nat.le_succ _) _)).grown (grownBy_putObj' _ D _) (fun k e hk => by cases e; omega)
    refine ⟨by simp, .inl ⟨_, _, rfl, run_takeDeferred hK2, ?_⟩⟩
    refine ⟨.bool true, ?_, rfl, hS5⟩
    simp [results, Tryz.f5, go_sem, hc5]
  case stop =>
    rintro D c pre W _ _ h _
    exact h.elim
end Go.Proofs.YtmlibjohhgpniaaGreatDoor
namespace Go.Proofs.YtmlibjohhgpniaaGreatDoor.InodeNobody
open Go.ChangeShapes Go.WideShapes Go.ChangeAt Go.RowKit Go.Joins Go.ChangeMaps
set_option maxRecDepth 100000 in
theorem contract (H : Type) (enc : TypeId × Value → H) (W : World) (base : Nat) (args : Array Value) (ds gs : List (DataW H)) (before : List MemPlace)
    (hval : ∀ (j : Nat) t v, Tryz.f5.params[j]? = some t → args[j]? = some v → Value.okWide Tryz.prog W .any base t v)
    (hW : DataW.Whole enc Tryz.prog Tryz.f5.params.toList Rows.inodeNobodySpec.vars false W args.toList ds gs before)
    (hsz : (DataW.weightsEach Tryz.prog (Tryz.f5.params.toList ++ (OpenSpec.ofChange Rows.inodeNobodySpec).bare.plain.varTypes Tryz.prog) (ds ++ gs)).all (· ≤ reachBytes) = true)
    (hL : laidMetH Tryz.prog Rows.inodeNobodyRow.laid W) :
    Calls Tryz.prog 5 args W fun e W' => ∃ v, e = .returned v ∧ Rows.inodeNobodySpec.post enc Tryz.prog Tryz.f5 false true false false W args v W' := by
  have hW' := hW
  obtain ⟨p, q, hA0, hV, rfl, hfz, hnd⟩ := hW
  have hA : DataW.TrodAll enc Tryz.prog W 0 (fun _ => true) true Tryz.f5.params.toList args.toList ds p := hA0
  rw [Tryz.params5] at hA hval hsz
  obtain ⟨v0, vs0, d0, ds0, p0, q0, hargs, rfl, rfl, h0, r0⟩ := trodAll_cons hA
  obtain ⟨rfl, rfl, rfl⟩ := trodAll_nil r0
  obtain rfl : args = #[v0] := by cases args; simp_all
  obtain ⟨rfl, rfl⟩ := trodVars_none hV
  obtain ⟨kd_o, nn_o, bb_o, tt_o, dd_o, a_o, b_o, c_o, d_o, e_o, rfl⟩ := iop_open (hval 0 64 v0 rfl rfl) h0
  refine (inobody_walk kd_o nn_o bb_o tt_o dd_o a_o b_o c_o d_o e_o W  (tab_laid hL)).mono fun e W' ⟨he, hg⟩ => ?_
  subst he
  exact ⟨_, rfl, law_post laidOut (by rw [Tryz.params5]; decide +kernel) rfl hW' rfl Tryz.underlying4 ⟨rfl, rfl, rfl⟩ (hg.below (Nat.le_refl _) fun _ h => h.elim)⟩
set_option maxRecDepth 100000 in
theorem lifted (os : Os) (started : os.Started) (H : Type) (enc : TypeId × Value → H) (F : Stop.Interp) :
    ReturnsInHanded {} Tryz.checked os 5 .any ((OpenSpec.ofChange Rows.inodeNobodySpec).preRow enc Tryz.prog Tryz.f5 Rows.inodeNobodyRow.domain false Rows.inodeNobodyRow.laid) (((OpenSpec.ofChange Rows.inodeNobodySpec).at F).post enc Tryz.prog Tryz.f5 false true false false) := by
  refine returnsInHanded_of_row (C := Tryz.checked) (s := OpenSpec.ofChange Rows.inodeNobodySpec) own started (by kernel_rfl) Tryz.func5
    (witness_row_at (enc := enc) (C := Tryz.checked) false ({ World.holding Tryz.prog os ⟨#[], #[], []⟩ with heap := (World.holding Tryz.prog os ⟨#[], #[], []⟩).heap.modify tabBlock fun | .cells _ t frozen => .cells (tabInts.map (Value.int .u32)).toArray t frozen | o => o }) #[.agg #[.int .i64 0, .int .i64 0, .int .i64 0, .int .i64 0, .bool false, .int .i64 0, .bool false, .int .i64 0, .int .i64 0, .int .i64 0]] rfl (by kernel_rfl) (by kernel_rfl) (by kernel_rfl)
      (OpenSpec.preRow_of_cond (x := ([.agg [.lit (.int .i64 0), .lit (.int .i64 0), .lit (.int .i64 0), .lit (.int .i64 0), .lit (.bool false), .agg [.lit (.int .i64 0), .lit (.bool false), .lit (.int .i64 0), .lit (.int .i64 0), .lit (.int .i64 0)]]], [], [])) 8 (by kernel_rfl) (by kernel_rfl) (fun k hk => by cases hk) (by kernel_rfl) (laidMet_of_run' 8 (by kernel_rfl) (by kernel_rfl)))) ?_
  intro W base args ds gs before hval hW _ _ hsz hL _ _
  exact contract H enc W base args ds gs before hval hW hsz hL
theorem said : Rows.InodeNobodySaid :=
  OpenClaim.holds_of_cond 5 Tryz.f5 rfl rfl rfl rfl rfl rfl rfl ⟨rfl, rfl, rfl, rfl, rfl⟩ rfl rfl rfl rfl rfl (by kernel_rfl) Tryz.func5 (by kernel_rfl)
    (of_decide_eq_true (by kernel_rfl)) (by unfold Func.isWrapper; first | (rw [if_pos (by decide +kernel)]; kernel_rfl) | (rw [if_neg (by decide +kernel)]; exact ⟨rfl, rfl⟩))
    (fun os started H enc _ F => by rw [OpenClaim.pre_eq_preRow]; exact lifted os started H enc F)
theorem plain (f : FuncId) (fn : Func) (hf : Tryz.pinned.checked.prog.funcNamed Rows.inodeNobodyRow.func = some f) (hfn : Tryz.pinned.checked.prog.funcs[f]? = some fn) :
    false = Tryz.pinned.checked.prog.looks [] ∧ ∀ (j : Nat) t, fn.params[j]? = some t → Tryz.pinned.checked.prog.wantsStandIn t = false := by
  obtain rfl : f = 5 := Option.some.inj ((show Tryz.prog.funcNamed Rows.inodeNobodyRow.func = some 5 by kernel_rfl).symm.trans hf) |>.symm
  obtain rfl : fn = Tryz.f5 := (Option.some.inj (Tryz.func5.symm.trans hfn)).symm
  refine ⟨by kernel_rfl, fun j t ht => ?_⟩
  rw [Tryz.params5] at ht
  have hm : t ∈ [64] := by simpa using Array.mem_of_getElem? ht
  have hall : [64].all (fun t => !Tryz.prog.wantsStandIn t) = true := by kernel_rfl
  have h1 := List.all_eq_true.1 hall t hm
  have h2 : Tryz.prog.wantsStandIn t = false := by simpa using h1
  exact h2
theorem card : Rows.InodeNobodyCardSaid :=
  Claim7.holds_tied_plain_at .later [] _ _ _ _ said (fun _ h => by cases h) (by kernel_rfl) (fun _ h => by cases h) inodeNobody_row_tie rfl ⟨rfl, rfl⟩ (by kernel_rfl) rfl plain (by kernel_rfl)
end Go.Proofs.YtmlibjohhgpniaaGreatDoor.InodeNobody
namespace Go.Proofs.YtmlibjohhgpniaaGreatDoor
theorem inodeNobody_card : Rows.InodeNobodyCardSaid := InodeNobody.card
end Go.Proofs.YtmlibjohhgpniaaGreatDoor
