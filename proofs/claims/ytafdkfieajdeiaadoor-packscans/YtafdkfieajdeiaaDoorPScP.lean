/-
  PackScans (P13.4): whatever size, count and bytes: the program's Scan of a copy tells what the document's Scan tells of the bytes, and both stay as they were: the law's call returns true and leaves its arguments as they were.
  Condition: the table crcSteps holds what the program's text lays (the card ties it).
-/
import Derived.Test.YtafdkfieajdeiaaDoorPS8
import Derived.Test.YtafdkfieajdeiaaDoorK10
import Derived.Test.YtafdkfieajdeiaaDoorKK
import Derived.Test.YtafdkfieajdeiaaDoorLawKit
import Derived.Test.YtafdkfieajdeiaaDoorCTab
namespace Go.Proofs.YtafdkfieajdeiaaDoor
open Go.RowKit
set_option linter.unusedVariables false
set_option linter.unusedSimpArgs false
/-- append of bytes, however many. -/
theorem wl_appW {w0 w : World} {ops : Array Oper} {rest : List Oper} {o : Oper} {a : Act} {Q : Exit → Act → World → Prop} (hgd : o.guard = none) (sl x : Operand)
    (ho : o.op = .call { callee := .builtin .append, args := #[sl, x], argTypes := #[32, 32] })
    (v u : Value) (l m : List UInt8) (hs : a.eval sl = v) (hown : Gr w0 w v l) (hx : a.eval x = u) (hb : Bt w u m) (hl : l.length + m.length ≤ 140737488355328)
    (h : ∀ v' w', Gr w0 w' v' (l ++ m) → wpList Tryd.prog ops Q rest (a.put o.dst v') w') : wpList Tryd.prog ops Q (o :: rest) a w := by
  obtain ⟨i0, hi0, hz0, hz1, hz2⟩ := info_parts info5
  obtain ⟨ao, cap, rfl, _⟩ := hb.form
  have hL := hb.lies
  refine wpList_append_slcM (P := Tryd.prog) w hgd sl x 32 ho 5 i0 (.int .u8 0) 1 1 Tryd.underlying32 hi0 hz0 hz1 hz2 rfl (by decide) v l.length (l.map U8) hs hown.own ao m.length cap (m.map U8) hx (by simp) hL (fun y hy => by obtain ⟨b, _, rfl⟩ := List.mem_map.1 hy; exact U8_one b) (by unfold maxLen; omega) (by omega) ?_
  intro v' w' h1 h2 h3
  refine h v' w' ⟨by rw [List.length_append, List.map_append]; exact h1, fun k hk => ?_, hown.same.grown h2 (fun r hr hlt => by have := hown.new r hr; omega)⟩
  by_cases hkw : k < w.heap.size
  · exact hown.new k (h3 k hkw hk)
  · have := hown.same.size
    omega
set_option maxHeartbeats 2000000 in
set_option maxRecDepth 100000 in
theorem packScans_walk (size count : Int) (v : Value) (l : List UInt8) (w : World) (hs0 : -9223372036854775808 ≤ size) (hs1 : size ≤ 9223372036854775807) (hc0 : -9223372036854775808 ≤ count) (hc1 : count ≤ 9223372036854775807) (hb : Bt w v l) (hl : l.length ≤ 140737488351232) (hT : Tab w) :
    Calls Tryd.prog 4 #[.int .i64 size, .int .i64 count, v] w fun e w' => e = .returned (.bool true) ∧ Same w w' := by
  have HB := hidden hb
  have HT := hidden hT
  have HL := hidden hl
  have HD := hidden (fun W (k : Same w W) u (q : Bt W u l) => scan_any size count l u W q (hT.same k))
  have HR := hidden (fun W (k : Same w W) => refScan_any size count l v W (hb.same k))
  have HF := hidden (scR_few size count l)
  have HSB := hidden (fun W x (q : Bt W x l) (k : Same w W) => sameB_any x v l l W q (hb.same k) (by omega) (by omega))
  have hds : decide (l = l) = true := decide_eq_true rfl
  rw [hds] at HSB
  clear hb hT hl hds
  obtain ⟨va, vc, rfl, _⟩ := HB.out.form
  obtain ⟨r, hr⟩ : ∃ r, scR size count l = r := ⟨_, rfl⟩
  obtain ⟨r1, r2, r3, r4⟩ := r
  rw [hr] at HF
  have HDQ : Hid (∀ W u W', ScQ size count l W u W' → ∃ a c, u = .tuple #[.int .u32 r1, .slice a r2.length c, .bool r3, .int .i64 r4] ∧ SlM W' (.slice a r2.length c) r2 ∧ Same W W') := hidden (fun W u W' h => by
    obtain ⟨x, rfl, h2, h3⟩ := h.out
    rw [hr] at h2 ⊢
    obtain ⟨a, c, rfl, _⟩ := h2.form
    exact ⟨a, c, rfl, h2, h3⟩)
  have hSS : Hid (∀ W x y, SlM W x r2 → SlM W y r2 → Calls Tryd.prog 20 #[x, y] W fun e w' => e = .returned (.bool true) ∧ Same W w') := hidden (fun W x y h1 h2 => sameSlots_any x y r2 W h1 h2 HF.out)
  clear hr
  have q1 : ((r1 : Int) == (r1 : Int)) = true := by simp
  have q4 : (r4 == r4) = true := by simp
  have q3 : (r3 == r3) = true := by simp
  have g0 : Gr w (w.alloc (.cells #[] 5)) (.slice (some ⟨w.heap.size, 0, none⟩) 0 0) [] := Gr.fresh (Kept.refl _ w) [] (0, 0) (by first | exact .inl rfl | exact .inr (Nat.le_refl _) | simp [NoFz]) (by decide)
  have GE := hidden g0
  clear g0
  go_enter Tryd.func4, Tryd.ntmps4
  go_wp2_with (first
    | (at_builtin; refine wl_appW (w0 := w) rfl _ _ rfl (.slice (some ⟨w.heap.size, 0, none⟩) 0 0) _ [] l rfl GE.out rfl (HB.out.same GE.out.same) (by have := HL.out; simp; omega) ?_; intro ov w1 g1; rw [List.nil_append] at g1; obtain ⟨oa, oc, hov, _⟩ := g1.bt.form; subst hov; have O1 := hidden g1.bt; have K1 := hidden g1.same; clear g1)
    | (go_at_call 25; refine (HD.out _ K1.out _ O1.out).mono ?_; rintro e w2 ⟨u, rfl, hq⟩; obtain ⟨a1, c1, rfl, hx, k2⟩ := HDQ.out _ _ _ hq; clear hq; have X2 := hidden hx; have K2 := hidden (K1.out.trans k2); have O2 := hidden (O1.out.same k2); clear hx k2)
    | (go_at_call 26; refine (HR.out _ K2.out).mono ?_; rintro e w3 ⟨u, rfl, hq⟩; obtain ⟨d1, e1, rfl, hy, k3⟩ := HDQ.out _ _ _ hq; clear hq; have Y3 := hidden hy; have X3 := hidden (X2.out.same k3); have K3 := hidden (K2.out.trans k3); have O3 := hidden (O2.out.same k3); clear hy k3)
    | (go_at_call 9; refine (p_lives _ (HT.out.same K3.out)).mono ?_; rintro e w4 ⟨rfl, k4⟩; have K4 := hidden (K3.out.trans k4); have O4 := hidden (O3.out.same k4); have X4 := hidden (X3.out.same k4); have Y4 := hidden (Y3.out.same k4); clear k4)
    | (go_at_call 20; refine (hSS.out _ _ _ X4.out Y4.out).mono ?_; rintro e w5 ⟨rfl, k5⟩; have K5 := hidden (K4.out.trans k5); have O5 := hidden (O4.out.same k5); clear k5)
    | (go_at_call 17; refine (HSB.out _ _ O5.out K5.out).mono ?_; rintro e w6 ⟨rfl, k6⟩; have K6 := hidden (K5.out.trans k6); clear k6))
  go_returns
  exact ⟨rfl, K6.out⟩
end Go.Proofs.YtafdkfieajdeiaaDoor
namespace Go.Proofs.YtafdkfieajdeiaaDoor.PackScans
open Go.ChangeShapes Go.WideShapes Go.ChangeAt Go.RowKit Go.Joins Go.ChangeMaps
set_option maxRecDepth 100000 in
theorem contract (H : Type) (enc : TypeId × Value → H) (W : World) (base : Nat) (args : Array Value) (ds gs : List (DataW H)) (before : List MemPlace)
    (hval : ∀ (j : Nat) t v, Tryd.f4.params[j]? = some t → args[j]? = some v → Value.okWide Tryd.prog W .any base t v)
    (hW : DataW.Whole enc Tryd.prog Tryd.f4.params.toList Rows.packScansSpec.vars false W args.toList ds gs before)
    (hsz : (DataW.weightsEach Tryd.prog (Tryd.f4.params.toList ++ (OpenSpec.ofChange Rows.packScansSpec).bare.plain.varTypes Tryd.prog) (ds ++ gs)).all (· ≤ reachBytes) = true)
    (hL : laidMetH Tryd.prog Rows.packScansRow.laid W) :
    Calls Tryd.prog 4 args W fun e W' => ∃ v, e = .returned v ∧ Rows.packScansSpec.post enc Tryd.prog Tryd.f4 false true false false W args v W' := by
  have hW' := hW
  obtain ⟨p, q, hA0, hV, rfl, hfz, hnd⟩ := hW
  have hA : DataW.TrodAll enc Tryd.prog W 0 (fun _ => true) true Tryd.f4.params.toList args.toList ds p := hA0
  rw [Tryd.params4] at hA hval hsz
  obtain ⟨v0, vs0, d0, ds0, p0, q0, hargs, rfl, rfl, h0, r0⟩ := trodAll_cons hA
  obtain ⟨v1, vs1, d1, ds1, p1, q1, rfl, rfl, rfl, h1, r1⟩ := trodAll_cons r0
  obtain ⟨v2, vs2, d2, ds2, p2, q2, rfl, rfl, rfl, h2, r2⟩ := trodAll_cons r1
  obtain ⟨rfl, rfl, rfl⟩ := trodAll_nil r2
  obtain rfl : args = #[v0, v1, v2] := by cases args; simp_all
  obtain ⟨rfl, rfl⟩ := trodVars_none hV
  obtain ⟨size, rfl, rfl, rfl, w_size⟩ := open_int Tryd.underlying3 (hval 0 3 v0 rfl rfl) h0
  have b_size : -9223372036854775808 ≤ size ∧ size ≤ 9223372036854775807 := by simpa [Lit.wf, IntKind.min, IntKind.max, IntKind.signed, IntKind.bits] using w_size
  obtain ⟨count, rfl, rfl, rfl, w_count⟩ := open_int Tryd.underlying3 (hval 1 3 v1 rfl rfl) h1
  have b_count : -9223372036854775808 ≤ count ∧ count ≤ 9223372036854775807 := by simpa [Lit.wf, IntKind.min, IntKind.max, IntKind.signed, IntKind.bits] using w_count
  obtain ⟨l_image, in_image, sz_image⟩ := bytes_open (hval 2 32 v2 rfl rfl) h2
  refine (packScans_walk size count v2 l_image W b_size.1 b_size.2 b_count.1 b_count.2 in_image (sz_image _ _ 2 hsz rfl rfl) (tab_laid hL)).mono fun e W' ⟨he, hg⟩ => ?_
  subst he
  exact ⟨_, rfl, law_post laidOut (by rw [Tryd.params4]; decide +kernel) rfl hW' rfl Tryd.underlying4 ⟨rfl, rfl, rfl⟩ (hg.below (Nat.le_refl _) fun _ h => h.elim)⟩
set_option maxRecDepth 100000 in
theorem lifted (os : Os) (started : os.Started) (H : Type) (enc : TypeId × Value → H) (F : Stop.Interp) :
    ReturnsInHanded {} Tryd.checked os 4 .any ((OpenSpec.ofChange Rows.packScansSpec).preRow enc Tryd.prog Tryd.f4 Rows.packScansRow.domain false Rows.packScansRow.laid) (((OpenSpec.ofChange Rows.packScansSpec).at F).post enc Tryd.prog Tryd.f4 false true false false) := by
  refine returnsInHanded_of_row (C := Tryd.checked) (s := OpenSpec.ofChange Rows.packScansSpec) own started (by kernel_rfl) Tryd.func4
    (witness_row_at (enc := enc) (C := Tryd.checked) false ({ World.holding Tryd.prog os ⟨#[], #[], []⟩ with heap := (World.holding Tryd.prog os ⟨#[], #[], []⟩).heap.modify tabBlock fun | .cells _ t frozen => .cells (tabInts.map (Value.int .u32)).toArray t frozen | o => o }) #[.int .i64 0, .int .i64 0, .slice none 0 0] rfl (by kernel_rfl) (by kernel_rfl) (by kernel_rfl)
      (OpenSpec.preRow_of_cond (x := ([.lit (.int .i64 0), .lit (.int .i64 0), .nil], [], [])) 8 (by kernel_rfl) (by kernel_rfl) (fun k hk => by cases hk) (by kernel_rfl) (laidMet_of_run' 8 (by kernel_rfl) (by kernel_rfl)))) ?_
  intro W base args ds gs before hval hW _ _ hsz hL _ _
  exact contract H enc W base args ds gs before hval hW hsz hL
theorem said : Rows.PackScansSaid :=
  OpenClaim.holds_of_cond 4 Tryd.f4 rfl rfl rfl rfl rfl rfl rfl ⟨rfl, rfl, rfl, rfl, rfl⟩ rfl rfl rfl rfl rfl (by kernel_rfl) Tryd.func4 (by kernel_rfl)
    (of_decide_eq_true (by kernel_rfl)) (by unfold Func.isWrapper; first | (rw [if_pos (by decide +kernel)]; kernel_rfl) | (rw [if_neg (by decide +kernel)]; exact ⟨rfl, rfl⟩))
    (fun os started H enc _ F => by rw [OpenClaim.pre_eq_preRow]; exact lifted os started H enc F)
theorem plain (f : FuncId) (fn : Func) (hf : Tryd.pinned.checked.prog.funcNamed Rows.packScansRow.func = some f) (hfn : Tryd.pinned.checked.prog.funcs[f]? = some fn) :
    false = Tryd.pinned.checked.prog.looks [] ∧ ∀ (j : Nat) t, fn.params[j]? = some t → Tryd.pinned.checked.prog.wantsStandIn t = false := by
  obtain rfl : f = 4 := Option.some.inj ((show Tryd.prog.funcNamed Rows.packScansRow.func = some 4 by kernel_rfl).symm.trans hf) |>.symm
  obtain rfl : fn = Tryd.f4 := (Option.some.inj (Tryd.func4.symm.trans hfn)).symm
  refine ⟨by kernel_rfl, fun j t ht => ?_⟩
  rw [Tryd.params4] at ht
  have hm : t ∈ [3, 3, 32] := by simpa using Array.mem_of_getElem? ht
  have hall : [3, 3, 32].all (fun t => !Tryd.prog.wantsStandIn t) = true := by kernel_rfl
  have h1 := List.all_eq_true.1 hall t hm
  have h2 : Tryd.prog.wantsStandIn t = false := by simpa using h1
  exact h2
theorem card : Rows.PackScansCardSaid :=
  Claim7.holds_tied_plain_at .later [] _ _ _ _ said (fun _ h => by cases h) (by kernel_rfl) (fun _ h => by cases h) packScans_row_tie rfl ⟨rfl, rfl⟩ (by kernel_rfl) rfl plain (by kernel_rfl)
end Go.Proofs.YtafdkfieajdeiaaDoor.PackScans
namespace Go.Proofs.YtafdkfieajdeiaaDoor
theorem packScans_card : Rows.PackScansCardSaid := PackScans.card
end Go.Proofs.YtafdkfieajdeiaaDoor
