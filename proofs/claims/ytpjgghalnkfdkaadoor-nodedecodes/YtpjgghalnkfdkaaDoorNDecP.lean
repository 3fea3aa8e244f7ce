/-
  NodeDecodes (P9.2, P9.5): whatever the size and the bytes: the program's Decode tells what the document's tells, of a copy, and the copy stays as it was; where they are a node's, Encode of it gives the bytes back: the law's call returns true and leaves its arguments as they were.
  Condition: the table crcSteps holds what the program's text lays (the card ties it).
-/
import Derived.Test.YtpjgghalnkfdkaaDoorNE18
namespace Go.Proofs.YtpjgghalnkfdkaaDoor
open Go.RowKit
set_option linter.unusedVariables false
set_option linter.unusedSimpArgs false
set_option maxHeartbeats 2000000 in
set_option maxRecDepth 100000 in
theorem decodes_walk (size : Int) (v : Value) (l : List UInt8) (w : World) (hs0 : -9223372036854775808 ≤ size) (hs1 : size ≤ 9223372036854775807) (hb : Bt w v l) (hl : l.length ≤ 140737488351232) (hT : Tab w) :
    Calls Tryd.prog 4 #[.int .i64 size, v] w fun e w' => e = .returned (.bool true) ∧ Same w w' := by
  have HB := hidden hb
  have HT := hidden hT
  have HL := hidden hl
  have HD := hidden (fun W (k : Same w W) u (q : Bt W u l) => decode_any size l u W q (hT.same k))
  have HR := hidden (fun W (k : Same w W) => refDecode_any size l v W (hb.same k))
  have hnb := dec_bd size l
  have HSm := hidden (fun (W : World) (x y : Value) (q : NdR W x (Nd.dec size l).1) (p : NdR W y (Nd.dec size l).1) => same_ndr _ x y W q p hnb)
  have HSB := hidden (fun W x (q : Bt W x l) (k : Same w W) => sameB_any x v l l W q (hb.same k) (by omega) (by omega))
  have hds : decide (l = l) = true := decide_eq_true rfl
  rw [hds] at HSB
  have HEn : Hid ((Nd.dec size l).2 = 0 → ∀ W, Same w W → ∀ a1 a2 a3 c1 c2 c3, Row W (.slice a1 (Nd.dec size l).1.keys.length c1) (TS (Nd.dec size l).1.keys) → Row W (.slice a2 (Nd.dec size l).1.vals.length c2) (TS (Nd.dec size l).1.vals) → Row W (.slice a3 (Nd.dec size l).1.kids.length c3) (IS (Nd.dec size l).1.kids) →
      Calls Tryd.prog 9 #[.int .i64 size, .agg #[.bool (Nd.dec size l).1.leaf, .slice a1 (Nd.dec size l).1.keys.length c1, .slice a2 (Nd.dec size l).1.vals.length c2, .slice a3 (Nd.dec size l).1.kids.length c3]] W fun e w' => ∃ cv, e = .returned (.tuple #[cv, .int .i64 0]) ∧ Bt w' cv l ∧ Same W w') := hidden (fun h0 W k a1 a2 a3 c1 c2 c3 r1 r2 r3 => by
    obtain ⟨hj, hlen, hn⟩ := dec_yes h0
    obtain ⟨he, hB⟩ := isN_enc hj hlen hn
    have hkl := fine_keys (chk_fine hn.chk)
    have hsz := isN_size hn
    have h4 := hj.2.1
    refine (encode_any _ a1 a2 a3 _ c1 _ c2 _ c3 size W r1 r2 r3 hnb (by omega) (hT.same k)).mono ?_
    rintro e w' ⟨u, rfl, hu⟩
    obtain ⟨cv, rfl, h2, h3⟩ := hu.out
    rw [he, hB] at *
    exact ⟨cv, rfl, h2, h3⟩)
  clear hb hT hl hnb hds
  obtain ⟨va, vc, rfl, _⟩ := HB.out.form
  obtain ⟨n, hn⟩ : ∃ n, (Nd.dec size l).1 = n := ⟨_, rfl⟩
  obtain ⟨z, hz⟩ : ∃ z, (Nd.dec size l).2 = z := ⟨_, rfl⟩
  rw [hn] at HSm
  rw [hn, hz] at HEn
  have HN := hidden hn
  have HZ := hidden hz
  have HDQ : Hid (∀ W u W', DeQ size l W u W' → ∃ a1 a2 a3 c1 c2 c3, u = .tuple #[.agg #[.bool n.leaf, .slice a1 n.keys.length c1, .slice a2 n.vals.length c2, .slice a3 n.kids.length c3], .int .i64 z] ∧ NdR W' (.agg #[.bool n.leaf, .slice a1 n.keys.length c1, .slice a2 n.vals.length c2, .slice a3 n.kids.length c3]) n ∧ Row W' (.slice a1 n.keys.length c1) (TS n.keys) ∧ Row W' (.slice a2 n.vals.length c2) (TS n.vals) ∧ Row W' (.slice a3 n.kids.length c3) (IS n.kids) ∧ Same W W') := hidden (fun W u W' h => by
    obtain ⟨x, rfl, h2, h3⟩ := h.out
    rw [hn] at h2
    have h4 := h2
    obtain ⟨a1, a2, a3, c1, c2, c3, rfl, r1, r2, r3⟩ := h4.ex
    exact ⟨a1, a2, a3, c1, c2, c3, by rw [hz], h2, r1, r2, r3, h3⟩)
  clear hn hz
  have g0 : Gr w (w.alloc (.cells #[] 5)) (.slice (some ⟨w.heap.size, 0, none⟩) 0 0) [] := Gr.fresh (Kept.refl _ w) [] (0, 0) (by first | exact .inl rfl | exact .inr (Nat.le_refl _) | simp [NoFz]) (by decide)
  have GE := hidden g0
  clear g0
  have tk : True := trivial
  by_cases hz0 : z = 0
  · subst hz0
    go_enter Tryd.func4, Tryd.ntmps4
    go_wp2_with (first
      | (at_builtin; refine wl_appW (w0 := w) rfl _ _ rfl (.slice (some ⟨w.heap.size, 0, none⟩) 0 0) _ [] l rfl GE.out rfl (HB.out.same GE.out.same) (by have := HL.out; simp; omega) ?_; intro ov w1 g1; rw [List.nil_append] at g1; obtain ⟨oa, oc, hov, _⟩ := g1.bt.form; subst hov; have O1 := hidden g1.bt; have K1 := hidden g1.same; clear g1)
      | (go_at_call 18; refine (HD.out _ K1.out _ O1.out).mono ?_; rintro e w2 ⟨u, rfl, hq⟩; obtain ⟨a1, a2, a3, c1, c2, c3, rfl, hx, r1, r2, r3, k2⟩ := HDQ.out _ _ _ hq; clear hq; have X2 := hidden hx; have R1 := hidden r1; have R2 := hidden r2; have R3 := hidden r3; have k2' := k2.alloc (.cells #[.bool n.leaf, .slice a1 n.keys.length c1, .slice a2 n.vals.length c2, .slice a3 n.kids.length c3] 25); have K2 := hidden (K1.out.trans k2'); have O2 := hidden (O1.out.same k2'); have BX := hidden (blk_new w2 (.cells #[.bool n.leaf, .slice a1 n.keys.length c1, .slice a2 n.vals.length c2, .slice a3 n.kids.length c3] 25)); have S2 := hidden (same_alloc w2 (.cells #[.bool n.leaf, .slice a1 n.keys.length c1, .slice a2 n.vals.length c2, .slice a3 n.kids.length c3] 25)); clear hx r1 r2 r3 k2 k2')
      | (go_at_call 19; refine (HR.out _ K2.out).mono ?_; rintro e w3 ⟨u, rfl, hq⟩; obtain ⟨d1, d2, d3, e1, e2, e3, rfl, hy, _, _, _, k3⟩ := HDQ.out _ _ _ hq; clear hq; have Y3 := hidden hy; have k3' := k3.alloc (.cells #[.bool n.leaf, .slice d1 n.keys.length e1, .slice d2 n.vals.length e2, .slice d3 n.kids.length e3] 25); have K3 := hidden (K2.out.trans k3'); have O3 := hidden (O2.out.same k3'); have S3 := hidden (S2.out.trans k3'); have BX3 := hidden (blk_kept k3' (fun h => h) BX.out); have BY := hidden (blk_new w3 (.cells #[.bool n.leaf, .slice d1 n.keys.length e1, .slice d2 n.vals.length e2, .slice d3 n.kids.length e3] 25)); have Y3' := hidden (Y3.out.same (same_alloc w3 (.cells #[.bool n.leaf, .slice d1 n.keys.length e1, .slice d2 n.vals.length e2, .slice d3 n.kids.length e3] 25))); clear hy k3 k3')
      | (go_at_call 11; refine (lives_any _ (HT.out.same K3.out)).mono ?_; rintro e w4 ⟨rfl, k4⟩; have K4 := hidden (K3.out.trans k4); have O4 := hidden (O3.out.same k4); have S4 := hidden (S3.out.trans k4); have BX4 := hidden (blk_kept k4 (fun h => h) BX3.out); have BY4 := hidden (blk_kept k4 (fun h => h) BY.out); have Y4 := hidden (Y3'.out.same k4); obtain ⟨x0, x1, x2, x3⟩ := cells4 BX4.out; obtain ⟨y0, y1, y2, y3⟩ := cells4 BY4.out; clear k4)
      | (go_at_call 17; refine (HSm.out _ _ _ (X2.out.same S4.out) Y4.out).mono ?_; rintro e w5 ⟨rfl, k5⟩; have K5 := hidden (K4.out.trans k5); have O5 := hidden (O4.out.same k5); have S5 := hidden (S4.out.trans k5); have BX5 := hidden (blk_kept k5 (fun h => h) BX4.out); clear k5)
      | (go_at_call 12; have _t := tk; clear tk; refine (HSB.out _ _ O5.out K5.out).mono ?_; rintro e w6 ⟨rfl, k6⟩; have K6 := hidden (K5.out.trans k6); have S6 := hidden (S5.out.trans k6); have BX6 := hidden (blk_kept k6 (fun h => h) BX5.out); obtain ⟨z0, z1, z2, z3⟩ := cells4 BX6.out; clear k6)
      | (go_at_call 9; refine (HEn.out (by trivial) _ K6.out _ _ _ _ _ _ (R1.out.same S6.out) (R2.out.same S6.out) (R3.out.same S6.out)).mono ?_; rintro e w7 ⟨cv, rfl, hc, k7⟩; have K7 := hidden (K6.out.trans k7); have C7 := hidden hc; clear hc k7)
      | (go_at_call 12; refine (HSB.out _ _ C7.out K7.out).mono ?_; rintro e w8 ⟨rfl, k8⟩; have K8 := hidden (K7.out.trans k8); clear k8))
    go_returns
    exact ⟨rfl, K8.out⟩
  · have hz1 : (z == 0) = false := beq_eq_false_iff_ne.2 hz0
    have hz2 : (z != 0) = true := by rw [bne_iff_ne]; exact hz0
    have hz3 : (z != z) = false := by simp
    clear HEn
    go_enter Tryd.func4, Tryd.ntmps4
    go_wp2_with (first
      | (at_builtin; refine wl_appW (w0 := w) rfl _ _ rfl (.slice (some ⟨w.heap.size, 0, none⟩) 0 0) _ [] l rfl GE.out rfl (HB.out.same GE.out.same) (by have := HL.out; simp; omega) ?_; intro ov w1 g1; rw [List.nil_append] at g1; obtain ⟨oa, oc, hov, _⟩ := g1.bt.form; subst hov; have O1 := hidden g1.bt; have K1 := hidden g1.same; clear g1)
      | (go_at_call 18; refine (HD.out _ K1.out _ O1.out).mono ?_; rintro e w2 ⟨u, rfl, hq⟩; obtain ⟨a1, a2, a3, c1, c2, c3, rfl, hx, r1, r2, r3, k2⟩ := HDQ.out _ _ _ hq; clear hq; have X2 := hidden hx; have k2' := k2.alloc (.cells #[.bool n.leaf, .slice a1 n.keys.length c1, .slice a2 n.vals.length c2, .slice a3 n.kids.length c3] 25); have K2 := hidden (K1.out.trans k2'); have O2 := hidden (O1.out.same k2'); have BX := hidden (blk_new w2 (.cells #[.bool n.leaf, .slice a1 n.keys.length c1, .slice a2 n.vals.length c2, .slice a3 n.kids.length c3] 25)); have S2 := hidden (same_alloc w2 (.cells #[.bool n.leaf, .slice a1 n.keys.length c1, .slice a2 n.vals.length c2, .slice a3 n.kids.length c3] 25)); clear hx r1 r2 r3 k2 k2')
      | (go_at_call 19; refine (HR.out _ K2.out).mono ?_; rintro e w3 ⟨u, rfl, hq⟩; obtain ⟨d1, d2, d3, e1, e2, e3, rfl, hy, _, _, _, k3⟩ := HDQ.out _ _ _ hq; clear hq; have Y3 := hidden hy; have k3' := k3.alloc (.cells #[.bool n.leaf, .slice d1 n.keys.length e1, .slice d2 n.vals.length e2, .slice d3 n.kids.length e3] 25); have K3 := hidden (K2.out.trans k3'); have O3 := hidden (O2.out.same k3'); have S3 := hidden (S2.out.trans k3'); have BX3 := hidden (blk_kept k3' (fun h => h) BX.out); have BY := hidden (blk_new w3 (.cells #[.bool n.leaf, .slice d1 n.keys.length e1, .slice d2 n.vals.length e2, .slice d3 n.kids.length e3] 25)); have Y3' := hidden (Y3.out.same (same_alloc w3 (.cells #[.bool n.leaf, .slice d1 n.keys.length e1, .slice d2 n.vals.length e2, .slice d3 n.kids.length e3] 25))); clear hy k3 k3')
      | (go_at_call 11; refine (lives_any _ (HT.out.same K3.out)).mono ?_; rintro e w4 ⟨rfl, k4⟩; have K4 := hidden (K3.out.trans k4); have O4 := hidden (O3.out.same k4); have S4 := hidden (S3.out.trans k4); have BX4 := hidden (blk_kept k4 (fun h => h) BX3.out); have BY4 := hidden (blk_kept k4 (fun h => h) BY.out); have Y4 := hidden (Y3'.out.same k4); obtain ⟨x0, x1, x2, x3⟩ := cells4 BX4.out; obtain ⟨y0, y1, y2, y3⟩ := cells4 BY4.out; clear k4)
      | (go_at_call 17; refine (HSm.out _ _ _ (X2.out.same S4.out) Y4.out).mono ?_; rintro e w5 ⟨rfl, k5⟩; have K5 := hidden (K4.out.trans k5); have O5 := hidden (O4.out.same k5); clear k5)
      | (go_at_call 12; refine (HSB.out _ _ O5.out K5.out).mono ?_; rintro e w6 ⟨rfl, k6⟩; have K6 := hidden (K5.out.trans k6); clear k6))
    go_returns
    exact ⟨rfl, K6.out⟩
end Go.Proofs.YtpjgghalnkfdkaaDoor
namespace Go.Proofs.YtpjgghalnkfdkaaDoor.NodeDecodes
open Go.ChangeShapes Go.WideShapes Go.ChangeAt Go.RowKit Go.Joins Go.ChangeMaps
set_option maxRecDepth 100000 in
theorem contract (H : Type) (enc : TypeId × Value → H) (W : World) (base : Nat) (args : Array Value) (ds gs : List (DataW H)) (before : List MemPlace)
    (hval : ∀ (j : Nat) t v, Tryd.f4.params[j]? = some t → args[j]? = some v → Value.okWide Tryd.prog W .any base t v)
    (hW : DataW.Whole enc Tryd.prog Tryd.f4.params.toList Rows.nodeDecodesSpec.vars false W args.toList ds gs before)
    (hsz : (DataW.weightsEach Tryd.prog (Tryd.f4.params.toList ++ (OpenSpec.ofChange Rows.nodeDecodesSpec).bare.plain.varTypes Tryd.prog) (ds ++ gs)).all (· ≤ reachBytes) = true)
    (hL : laidMetH Tryd.prog Rows.nodeDecodesRow.laid W) :
    Calls Tryd.prog 4 args W fun e W' => ∃ v, e = .returned v ∧ Rows.nodeDecodesSpec.post enc Tryd.prog Tryd.f4 false true false false W args v W' := by
  have hW' := hW
  obtain ⟨p, q, hA0, hV, rfl, hfz, hnd⟩ := hW
  have hA : DataW.TrodAll enc Tryd.prog W 0 (fun _ => true) true Tryd.f4.params.toList args.toList ds p := hA0
  rw [Tryd.params4] at hA hval hsz
  obtain ⟨v0, vs0, d0, ds0, p0, q0, hargs, rfl, rfl, h0, r0⟩ := trodAll_cons hA
  obtain ⟨v1, vs1, d1, ds1, p1, q1, rfl, rfl, rfl, h1, r1⟩ := trodAll_cons r0
  obtain ⟨rfl, rfl, rfl⟩ := trodAll_nil r1
  obtain rfl : args = #[v0, v1] := by cases args; simp_all
  obtain ⟨rfl, rfl⟩ := trodVars_none hV
  obtain ⟨size, rfl, rfl, rfl, w_size⟩ := open_int Tryd.underlying3 (hval 0 3 v0 rfl rfl) h0
  have b_size : -9223372036854775808 ≤ size ∧ size ≤ 9223372036854775807 := by simpa [Lit.wf, IntKind.min, IntKind.max, IntKind.signed, IntKind.bits] using w_size
  obtain ⟨l_b, in_b, sz_b⟩ := bytes_open (hval 1 27 v1 rfl rfl) h1
  refine (decodes_walk size v1 l_b W b_size.1 b_size.2 in_b (sz_b _ _ 1 hsz rfl rfl) (tab_laid hL)).mono fun e W' ⟨he, hg⟩ => ?_
  subst he
  exact ⟨_, rfl, law_post laidOut (by rw [Tryd.params4]; decide +kernel) rfl hW' rfl Tryd.underlying4 ⟨rfl, rfl, rfl⟩ (hg.below (Nat.le_refl _) fun _ h => h.elim)⟩
set_option maxRecDepth 100000 in
theorem lifted (os : Os) (started : os.Started) (H : Type) (enc : TypeId × Value → H) (F : Stop.Interp) :
    ReturnsInHanded {} Tryd.checked os 4 .any ((OpenSpec.ofChange Rows.nodeDecodesSpec).preRow enc Tryd.prog Tryd.f4 Rows.nodeDecodesRow.domain false Rows.nodeDecodesRow.laid) (((OpenSpec.ofChange Rows.nodeDecodesSpec).at F).post enc Tryd.prog Tryd.f4 false true false false) := by
  refine returnsInHanded_of_row (C := Tryd.checked) (s := OpenSpec.ofChange Rows.nodeDecodesSpec) own started (by kernel_rfl) Tryd.func4
    (witness_row_at (enc := enc) (C := Tryd.checked) false ({ World.holding Tryd.prog os ⟨#[], #[], []⟩ with heap := (World.holding Tryd.prog os ⟨#[], #[], []⟩).heap.modify tabBlock fun | .cells _ t frozen => .cells (tabInts.map (Value.int .u32)).toArray t frozen | o => o }) #[.int .i64 0, .slice none 0 0] rfl (by kernel_rfl) (by kernel_rfl) (by kernel_rfl)
      (OpenSpec.preRow_of_cond (x := ([.lit (.int .i64 0), .nil], [], [])) 8 (by kernel_rfl) (by kernel_rfl) (fun k hk => by cases hk) (by kernel_rfl) (laidMet_of_run' 8 (by kernel_rfl) (by kernel_rfl)))) ?_
  intro W base args ds gs before hval hW _ _ hsz hL _ _
  exact contract H enc W base args ds gs before hval hW hsz hL
theorem said : Rows.NodeDecodesSaid :=
  OpenClaim.holds_of_cond 4 Tryd.f4 rfl rfl rfl rfl rfl rfl rfl ⟨rfl, rfl, rfl, rfl, rfl⟩ rfl rfl rfl rfl rfl (by kernel_rfl) Tryd.func4 (by kernel_rfl)
    (of_decide_eq_true (by kernel_rfl)) (by unfold Func.isWrapper; first | (rw [if_pos (by decide +kernel)]; kernel_rfl) | (rw [if_neg (by decide +kernel)]; exact ⟨rfl, rfl⟩))
    (fun os started H enc _ F => by rw [OpenClaim.pre_eq_preRow]; exact lifted os started H enc F)
theorem plain (f : FuncId) (fn : Func) (hf : Tryd.pinned.checked.prog.funcNamed Rows.nodeDecodesRow.func = some f) (hfn : Tryd.pinned.checked.prog.funcs[f]? = some fn) :
    false = Tryd.pinned.checked.prog.looks [] ∧ ∀ (j : Nat) t, fn.params[j]? = some t → Tryd.pinned.checked.prog.wantsStandIn t = false := by
  obtain rfl : f = 4 := Option.some.inj ((show Tryd.prog.funcNamed Rows.nodeDecodesRow.func = some 4 by kernel_rfl).symm.trans hf) |>.symm
  obtain rfl : fn = Tryd.f4 := (Option.some.inj (Tryd.func4.symm.trans hfn)).symm
  refine ⟨by kernel_rfl, fun j t ht => ?_⟩
  rw [Tryd.params4] at ht
  have hm : t ∈ [3, 27] := by simpa using Array.mem_of_getElem? ht
  have hall : [3, 27].all (fun t => !Tryd.prog.wantsStandIn t) = true := by kernel_rfl
  have h1 := List.all_eq_true.1 hall t hm
  have h2 : Tryd.prog.wantsStandIn t = false := by simpa using h1
  exact h2
theorem card : Rows.NodeDecodesCardSaid :=
  Claim7.holds_tied_plain_at .later [] _ _ _ _ said (fun _ h => by cases h) (by kernel_rfl) (fun _ h => by cases h) nodeDecodes_row_tie rfl ⟨rfl, rfl⟩ (by kernel_rfl) rfl plain (by kernel_rfl)
end Go.Proofs.YtpjgghalnkfdkaaDoor.NodeDecodes
namespace Go.Proofs.YtpjgghalnkfdkaaDoor
theorem nodeDecodes_card : Rows.NodeDecodesCardSaid := NodeDecodes.card
end Go.Proofs.YtpjgghalnkfdkaaDoor
