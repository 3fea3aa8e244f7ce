/- CutLengths where the shape may not be, and the law in its bounded form. -/
import Derived.Test.YtijellodifblkaaDoorL2
namespace Go.Proofs.YtijellodifblkaaDoor
open Go.ChangeShapes Go.WideShapes Go.ChangeAt Go.RowKit Go.Joins Go.ChangeMaps Go.Shelf
set_option linter.unusedVariables false
attribute [local go_sem] Oper.semAt_some
set_option maxRecDepth 100000 in
theorem none_stops (n : Nat) (hn : 1 ≤ n) (S : Nat → Prop) (w : World) :
    SeqStopsK Fence.wide n Tryd.prog 23 #[] encP (Kept S) (fun ys => ys = []) (fun pre => pre <+: ([] : List (Nat × Nat))) 0 w := fun l J Jx W hW hJ _ hY h0 => by
  refine callsIn_of_wp Tryd.func23 rfl trivial ?_ rfl
  simp only [Tryd.ntmps23, List.size_toArray, List.length_cons, List.length_nil, Nat.reduceAdd, Nat.reduceSub, Array.replicate_succ, Array.replicate_zero, List.push_toArray, List.append_toArray, List.nil_append, List.cons_append]
  gi_wp2
  go_end0
  exact ⟨⟨_, rfl⟩, .inl ⟨[], rfl, h0⟩⟩
set_option maxHeartbeats 4000000 in
set_option maxRecDepth 100000 in
theorem lengths_law_no {mn no mx : Int} (hn : ¬ CutOk mn no mx) (seed : Nat) (v : Value) (most : Int) (w : World)
    (h0 : -9223372036854775808 ≤ no) (h1 : no ≤ 9223372036854775807) (hT : Tab w) :
    Calls Tryd.prog 3 #[.agg #[.int .i64 mn, .int .i64 no, .int .i64 mx, .int .u64 seed], v, .int .i64 most] w fun e w' => e = .returned (.bool true) ∧ Same w w' := by
  have HLv := hidden (fun W (k : Same w W) => (callsIn_wide (n := 5)).2 (lives_any W (hT.same k)))
  have HLn := hidden (fun W => (callsIn_wide (n := 5)).2 (lengths_no hn seed v W))
  have HRn := hidden (fun W => (callsIn_wide (n := 5)).2 (refLengths_no hn seed v W h0 h1))
  have HSm := hidden (fun W => (callsIn_wide (n := 5)).2 (sameInts_any (.slice none 0 0) (.slice none 0 0) [] W (NCs.nil W).cells (NCs.nil W).cells (by decide)))
  have HCu := hidden (fun W => (callsIn_wide (n := 5)).2 (cuts_no hn seed v W))
  clear hT hn
  refine (callsIn_wide (n := 6)).1 ?_
  refine callsIn_of_wp_marks Tryd.func3 rfl trivial ?_ rfl
  simp only [Tryd.ntmps3, List.size_toArray, List.length_cons, List.length_nil, Nat.reduceAdd, Nat.reduceSub, Array.replicate_succ, Array.replicate_zero, List.push_toArray, List.append_toArray, List.nil_append, List.cons_append]
  obtain ⟨W0, hW0⟩ : ∃ W0, W0 = ((w.alloc (.cells #[.int .i64 mn, .int .i64 no, .int .i64 mx, .int .u64 seed] 24)).alloc (.cells #[.int .i64 most] 3)).alloc (.cells #[.bool false] 4) := ⟨_, rfl⟩
  have K0 : Hid (Same w W0) := hidden (by rw [hW0]; exact ((same_alloc _ _).alloc _).alloc _)
  have hs0 : Hid (W0.heap.size = w.heap.size + 3) := hidden (by rw [hW0]; simp)
  have X0 : Hid (∀ W, Same W0 W → W.cell? ⟨w.heap.size, 0, none⟩ = some (.int .i64 mn) ∧ W.cell? ⟨w.heap.size, 1, none⟩ = some (.int .i64 no) ∧ W.cell? ⟨w.heap.size, 2, none⟩ = some (.int .i64 mx) ∧ W.cell? ⟨w.heap.size, 3, none⟩ = some (.int .u64 seed) ∧ Boxed W (w.heap.size + 1) 3 (.int .i64 most) ∧ Boxed W (w.heap.size + 1 + 1) 4 (.bool false)) := hidden (by
    intro W k
    have bC := blk_alloc (blk_alloc (blk_new w (.cells #[.int .i64 mn, .int .i64 no, .int .i64 mx, .int .u64 seed] 24)) (.cells #[.int .i64 most] 3)) (.cells #[.bool false] 4)
    have bM := (Boxed.new (w.alloc (.cells #[.int .i64 mn, .int .i64 no, .int .i64 mx, .int .u64 seed] 24)) 3 (.int .i64 most)).alloc (.cells #[.bool false] 4)
    have bF := Boxed.new ((w.alloc (.cells #[.int .i64 mn, .int .i64 no, .int .i64 mx, .int .u64 seed] 24)).alloc (.cells #[.int .i64 most] 3)) 4 (.bool false)
    simp only [World.size_alloc] at bC bM bF
    rw [← hW0] at bC bM bF
    have b' := blk_kept k (fun h => h) bC
    exact ⟨blk_cell b', blk_cell b', blk_cell b', blk_cell b', blk_kept k (fun h => h) bM, blk_kept k (fun h => h) bF⟩)
  have HW0 := hidden hW0
  clear hW0
  gi_wp2_with (first
    | (refine ⟨trivial, ?_⟩; gi_at_call 6; rw [← HW0.out]; refine (HLv.out _ K0.out).mono ?_; rintro e w1 ⟨rfl, k1⟩; have K1 := hidden k1; obtain ⟨b0, b1, b2, b3, -, -⟩ := X0.out _ k1; clear k1)
    | (refine ⟨trivial, ?_⟩; gi_at_call 7; refine (HLn.out _).mono ?_; rintro e w2 ⟨rfl, k2⟩; have K2 := hidden (Kept.trans K1.out k2); clear k2; obtain ⟨d0, d1, d2, d3, -, -⟩ := X0.out _ K2.out)
    | (refine ⟨trivial, ?_⟩; gi_at_call 8; refine (HRn.out _).mono ?_; rintro e w3 ⟨rfl, k3⟩; have K3 := hidden (Kept.trans K2.out k3); clear k3; obtain ⟨e0, e1, e2, e3, -, -⟩ := X0.out _ K3.out)
    | (refine ⟨trivial, ?_⟩; gi_at_call 9; refine (HSm.out _).mono ?_; rintro e w4 ⟨rfl, k4⟩; have K4 := hidden (Kept.trans (K3.out.alloc _) k4); have BM := hidden (blk_kept k4 (fun h => h) (Boxed.new w3 27 (.slice none 0 0))); have hs4 : w3.heap.size < w4.heap.size := (by have := k4.size; simp at this; omega); clear k4; clear b0 b1 b2 b3 d0 d1 d2 d3 e0 e1 e2 e3; obtain ⟨f0, f1, f2, f3, -, -⟩ := X0.out _ ((K4.out.alloc (.cells #[.int .i64 0] 3)).alloc (.cells #[.int .i64 0] 3)))
    | (refine ⟨trivial, ?_⟩; gi_at_call 10; refine (HCu.out _).mono ?_; rintro e w5 ⟨rfl, k5⟩; clear f0 f1 f2 f3))
  have SD4 := hidden ((same_alloc w4 (.cells #[.int .i64 0] 3)).alloc (.cells #[.int .i64 0] 3))
  have BI := hidden (blk_kept k5 (fun h => h) (Boxed.new (w4.alloc (.cells #[.int .i64 0] 3)) 3 (.int .i64 0)))
  have BA := hidden (blk_kept k5 (fun h => h) ((Boxed.new w4 3 (.int .i64 0)).alloc (.cells #[.int .i64 0] 3)))
  have hsz : w4.heap.size + 2 ≤ w5.heap.size := by have := k5.size; simp at this; omega
  have K45 := hidden (Kept.trans SD4.out k5)
  have hw4 : w.heap.size + 3 ≤ w4.heap.size := by have h1 := K4.out.size; have h2 := hs0.out; omega
  have HB0 : Hid (LI w4 [] [] w5) := hidden ⟨K45.out.below (Nat.le_refl _) fun _ h => h.elim, BA.out, by have := BI.out; rw [World.size_alloc] at this; exact this, List.nil_prefix⟩
  clear k5 SD4 BA BI
  refine wpIn_rangeFunc_ownG rfl (by decide) (gf := 23) (lb := #[]) rfl trivial (enters_of Tryd.func23 (by kernel_rfl) rfl)
    (none_stops 5 (by decide) (fun k => w5.heap.size ≤ k) w5) (fun h k => h.trans k) (fun W l o o' hl _ _ _ => kept_putObj W l o' hl) (Below.refl _ _) (fun _ => rfl)
    (LI w4 []) (fun _ _ _ => False) (LI.own (by omega)) (fun _ _ _ _ _ hs _ _ => hs) HB0.out
    (fun x => { tmps := #[.agg #[.int .i64 mn, .int .i64 no, .int .i64 mx, .int .u64 seed], v, .int .i64 most, .pointer (some ⟨w.heap.size, 0, none⟩), undef, .pointer (some ⟨w.heap.size + 1, 0, none⟩), .pointer (some ⟨w.heap.size + 1 + 1, 0, none⟩), .slice none 0 0, .int .i64 50, .pointer (some ⟨w3.heap.size, 0, none⟩), .int .i64 50, .pointer (some ⟨w4.heap.size, 0, none⟩), .pointer (some ⟨w4.heap.size + 1, 0, none⟩), .int .i64 x.1, .int .i64 x.2, undef, undef, .bool true, .bool false, .tuple #[.slice none 0 0, .int .i64 50], .agg #[.int .i64 mn, .int .i64 no, .int .i64 mx, .int .u64 seed], v, .tuple #[.slice none 0 0, .int .i64 50], .slice none 0 0, .int .i64 50, .tuple #[.slice none 0 0, .int .i64 50], .agg #[.int .i64 mn, .int .i64 no, .int .i64 mx, .int .u64 seed], v, .tuple #[.slice none 0 0, .int .i64 50], .slice none 0 0, .int .i64 50, .int .i64 50, .int .i64 50, .bool false, .bool false, .slice none 0 0, .slice none 0 0, .bool true, .bool false, .bool false, .agg #[.int .i64 mn, .int .i64 no, .int .i64 mx, .int .u64 seed], v, .func (.func 23) #[] #[], .int .i64 x.1, .int .i64 x.2, undef, undef, undef, undef, undef, undef, undef, undef, undef, undef, undef, undef, undef, undef, undef, undef, undef, undef, undef, undef, undef, undef, undef, undef, undef, undef, undef, undef, undef, undef, undef, undef, undef, undef, undef, undef, undef, undef, undef, undef, undef, undef, undef, undef, undef, undef, undef, undef, undef, undef, undef, undef, undef, undef, undef, undef, undef, undef, undef, undef, undef, undef, undef, undef, undef, undef, undef, undef, undef, undef, undef, undef, undef, undef, undef, undef, undef, undef, undef, undef, undef, undef, undef, undef], defers := [] }) ?assign ?body ?done ?stop
  case assign =>
    intro l x W K hK
    gi_wp2
    exact hK
  case body =>
    rintro lp pre x W hG hlt
    exact absurd hlt (Nat.not_lt_zero _)
  case stop =>
    rintro D cd pre W hD hp h hKD
    exact h.elim
  case done =>
    rintro D ys W hD hys hG hKD
    subst hys
    have gib := hG.ib
    have k4W := same_of_below hG.bel
    obtain ⟨y0, y1, y2', y3', bm, br⟩ := X0.out _ (Kept.trans K4.out k4W)
    have z1 : W.cell? ⟨w.heap.size + 1, 0, none⟩ = some (.int .i64 most) := bm.cell
    have z4 : W.cell? ⟨w4.heap.size + 1, 0, none⟩ = some (.int .i64 0) := blk_cell gib
    have z8 : W.cell? ⟨w3.heap.size, 0, none⟩ = some (.slice none 0 0) := blk_cell (blk_kept k4W (fun h => h) BM.out)
    have HK4 := hidden k4W
    have HKD := hidden hKD
    have HBR := hidden br
    clear gib hG hKD k4W bm br
    by_cases hm : (0 : Int) < most
    all_goals
      gi_wp2
      gi_loopw [15, 16] (fun s k wr => s = .int .i64 0 ∧ k = .int .i64 0 ∧ wr = W) (fun _ _ _ => 0)
      case atStart => exact ⟨rfl, rfl, rfl⟩
      case round =>
        obtain ⟨rfl, rfl, rfl⟩ := hrel
        have zf : wr.frozen? ⟨w.heap.size + 1 + 1, 0, none⟩ = false := blk_free HBR.out
        have zc : wr.cell? ⟨w.heap.size + 1 + 1, 0, none⟩ = some (.bool false) := blk_cell HBR.out
        have E3 : Hid ((wr.setCell ⟨w.heap.size + 1 + 1, 0, none⟩ (.bool true)).heap[D]? = some (.deferred (some []))) := blk_kept ((Kept.refl (fun k => k = w.heap.size + 1 + 1) wr).setCell (p := ⟨w.heap.size + 1 + 1, 0, none⟩) rfl _) (by show ¬ D = w.heap.size + 1 + 1; omega) HKD.out
        have c9 : Hid (((wr.setCell ⟨w.heap.size + 1 + 1, 0, none⟩ (.bool true)).putObj D (.deferred none)).cell? ⟨w.heap.size + 1 + 1, 0, none⟩ = some (.bool true)) := one_defer_cell (blk_cell (blk_set (j := 0) HBR.out (.bool true))) (by omega)
        gi_wp2
        refine ⟨by simp, .inl ⟨_, _, rfl, run_takeDeferred E3.out, ?_⟩⟩
        have c9' := c9.out
        refine ⟨_, by simp [results, Tryd.results3, go_sem, c9'], rfl, ?_⟩
        exact Kept.trans' (Kept.trans K0.out (Kept.trans K4.out HK4.out)) (((Kept.refl (fun k => w.heap.size ≤ k) wr).setCell (p := ⟨w.heap.size + 1 + 1, 0, none⟩) (by show w.heap.size ≤ w.heap.size + 1 + 1; omega) _).trans (kept_putObj _ D _ (by omega))) (fun k hk h => by omega)
theorem clen_walk (mn no mx : Int) (seed : Nat) (v : Value) (l : List UInt8) (most : Int) (w : World)
    (h0 : -9223372036854775808 ≤ no) (h1 : no ≤ 9223372036854775807) (hs : seed < 18446744073709551616)
    (hb : Byt w v l) (hm1 : -9223372036854775808 ≤ most) (hm2 : most ≤ 9223372036854775807) (hbk : l.length ≤ 1048576) (hT : Tab w) :
    Calls Tryd.prog 3 #[.agg #[.int .i64 mn, .int .i64 no, .int .i64 mx, .int .u64 seed], v, .int .i64 most] w fun e w' => e = .returned (.bool true) ∧ Same w w' := by
  by_cases hk : CutOk mn no mx
  · have hcs := hk.shp hs
    obtain ⟨c, hc, rfl, rfl, rfl, rfl⟩ := hcs
    exact lengths_law_yes c hc v l most w hb hbk hT
  · exact lengths_law_no hk seed v most w h0 h1 hT
end Go.Proofs.YtijellodifblkaaDoor
namespace Go.Proofs.YtijellodifblkaaDoor.CutLengths
open Go.ChangeShapes Go.WideShapes Go.ChangeAt Go.RowKit Go.Joins Go.ChangeMaps
set_option maxRecDepth 100000 in
theorem contract (H : Type) (enc : TypeId × Value → H) (W : World) (base : Nat) (args : Array Value) (ds gs : List (DataW H)) (before : List MemPlace)
    (hval : ∀ (j : Nat) t v, Tryd.f3.params[j]? = some t → args[j]? = some v → Value.okWide Tryd.prog W .any base t v)
    (hW : DataW.Whole enc Tryd.prog Tryd.f3.params.toList Rows.cutLengthsSpec.vars false W args.toList ds gs before)
    (hsz : (DataW.weightsEach Tryd.prog (Tryd.f3.params.toList ++ (OpenSpec.ofChange Rows.cutLengthsSpec).bare.plain.varTypes Tryd.prog) (ds ++ gs)).all (· ≤ reachBytes) = true)
    (hk : Rows.uptoSmall H (ds ++ gs) = true)
    (hL : laidMetH Tryd.prog Rows.cutLengthsUptoRow.laid W) :
    Calls Tryd.prog 3 args W fun e W' => ∃ v, e = .returned v ∧ Rows.cutLengthsSpec.post enc Tryd.prog Tryd.f3 false true false false W args v W' := by
  have hW' := hW
  obtain ⟨p, q, hA0, hV, rfl, hfz, hnd⟩ := hW
  have hA : DataW.TrodAll enc Tryd.prog W 0 (fun _ => true) true Tryd.f3.params.toList args.toList ds p := hA0
  rw [Tryd.params3] at hA hval hsz
  obtain ⟨v0, vs0, d0, ds0, p0, q0, hargs, rfl, rfl, h0, r0⟩ := trodAll_cons hA
  obtain ⟨v1, vs1, d1, ds1, p1, q1, rfl, rfl, rfl, h1, r1⟩ := trodAll_cons r0
  obtain ⟨v2, vs2, d2, ds2, p2, q2, rfl, rfl, rfl, h2, r2⟩ := trodAll_cons r1
  obtain ⟨rfl, rfl, rfl⟩ := trodAll_nil r2
  obtain rfl : args = #[v0, v1, v2] := by cases args; simp_all
  obtain ⟨rfl, rfl⟩ := trodVars_none hV
  obtain ⟨mn, no, mx, seed, rfl, b_mn, b_no, b_mx, b_seed⟩ := cut_open (hval 0 24 v0 rfl rfl) h0
  obtain ⟨l_b, in_b, bk_b⟩ := bytes_openU (hval 1 25 v1 rfl rfl) h1
  obtain ⟨most, rfl, rfl, rfl, w_most⟩ := open_int Tryd.underlying3 (hval 2 3 v2 rfl rfl) h2
  have b_most : -9223372036854775808 ≤ most ∧ most ≤ 9223372036854775807 := by simpa [Lit.wf, IntKind.min, IntKind.max, IntKind.signed, IntKind.bits] using w_most
  have hbk : l_b.length ≤ 1048576 := by
    have h9 := of_decide_eq_true hk
    simp only [List.append_nil, Rows.uptoBulkAll] at h9
    omega
  refine (clen_walk mn no mx seed v1 l_b most W b_no.1 b_no.2 b_seed in_b b_most.1 b_most.2 hbk (tab_laid hL)).mono fun e W' ⟨he, hg⟩ => ?_
  subst he
  exact ⟨_, rfl, law_post laidOut (by rw [Tryd.params3]; decide +kernel) rfl hW' rfl Tryd.underlying4 ⟨rfl, rfl, rfl⟩ (hg.below (Nat.le_refl _) fun _ h => h.elim)⟩
set_option maxRecDepth 100000 in
theorem lifted (os : Os) (started : os.Started) (H : Type) (enc : TypeId × Value → H) (F : Stop.Interp) :
    ReturnsInHanded {} Tryd.checked os 3 .any ((Rows.OpenSpec.upto Rows.cutLengthsSpec).preRow enc Tryd.prog Tryd.f3 Rows.cutLengthsUptoRow.domain false Rows.cutLengthsUptoRow.laid) (((Rows.OpenSpec.upto Rows.cutLengthsSpec).at F).post enc Tryd.prog Tryd.f3 false true false false) := by
  refine returnsInHanded_of_row (C := Tryd.checked) (s := Rows.OpenSpec.upto Rows.cutLengthsSpec) own started (by kernel_rfl) Tryd.func3
    (witness_row_at (enc := enc) (C := Tryd.checked) false (tabWorld (World.holding Tryd.prog os ⟨#[], #[], []⟩)) #[.agg #[.int .i64 0, .int .i64 0, .int .i64 0, .int .u64 0], .slice none 0 0, .int .i64 0] rfl (by kernel_rfl) (by kernel_rfl) (by kernel_rfl)
      (OpenSpec.preRow_of_cond (x := ([.agg [.lit (.int .i64 0), .lit (.int .i64 0), .lit (.int .i64 0), .lit (.int .u64 0)], .nil, .lit (.int .i64 0)], [], [])) 8 (by kernel_rfl) (by kernel_rfl) (fun k hk => by cases hk; kernel_rfl) (by kernel_rfl) (laidMet_of_run' 8 (by kernel_rfl) (by kernel_rfl)))) ?_
  intro W base args ds gs before hval hW _ hcond hsz hL _ _
  exact contract H enc W base args ds gs before hval hW hsz (hcond _ rfl) hL
theorem said : Rows.CutLengthsUptoSaid :=
  OpenClaim.holds_of_cond 3 Tryd.f3 rfl rfl rfl rfl rfl rfl rfl ⟨rfl, rfl, rfl, rfl, rfl⟩ rfl rfl rfl rfl rfl (by kernel_rfl) Tryd.func3 (by kernel_rfl)
    (of_decide_eq_true (by kernel_rfl)) (by unfold Func.isWrapper; first | (rw [if_pos (by decide +kernel)]; kernel_rfl) | (rw [if_neg (by decide +kernel)]; exact ⟨rfl, rfl⟩))
    (fun os started H enc _ F => by rw [OpenClaim.pre_eq_preRow]; exact lifted os started H enc F)
theorem plain (f : FuncId) (fn : Func) (hf : Tryd.pinned.checked.prog.funcNamed Rows.cutLengthsUptoRow.func = some f) (hfn : Tryd.pinned.checked.prog.funcs[f]? = some fn) :
    false = Tryd.pinned.checked.prog.looks [] ∧ ∀ (j : Nat) t, fn.params[j]? = some t → Tryd.pinned.checked.prog.wantsStandIn t = false := by
  obtain rfl : f = 3 := Option.some.inj ((show Tryd.prog.funcNamed Rows.cutLengthsUptoRow.func = some 3 by kernel_rfl).symm.trans hf) |>.symm
  obtain rfl : fn = Tryd.f3 := (Option.some.inj (Tryd.func3.symm.trans hfn)).symm
  refine ⟨by kernel_rfl, fun j t ht => ?_⟩
  rw [Tryd.params3] at ht
  have hm : t ∈ [24, 25, 3] := by simpa using Array.mem_of_getElem? ht
  have hall : [24, 25, 3].all (fun t => !Tryd.prog.wantsStandIn t) = true := by kernel_rfl
  have h1 := List.all_eq_true.1 hall t hm
  have h2 : Tryd.prog.wantsStandIn t = false := by simpa using h1
  exact h2
theorem card : Rows.CutLengthsUptoCardSaid :=
  Claim7.holds_tied_plain_at .later [] _ _ _ _ said (fun _ h => by cases h) (by kernel_rfl) (fun _ h => by cases h) cutLengthsUpto_row_tie rfl ⟨rfl, rfl⟩ (by kernel_rfl) rfl plain (by kernel_rfl)
end Go.Proofs.YtijellodifblkaaDoor.CutLengths
namespace Go.Proofs.YtijellodifblkaaDoor
theorem cutLengthsUpto_card : Rows.CutLengthsUptoCardSaid := CutLengths.card
end Go.Proofs.YtijellodifblkaaDoor
