/-
  JournalScans (P7.3): whatever the size, the generation and the bytes: both sides' Scan and Sectors tell the same, and the bytes stay as they were: the law's call returns true and leaves its arguments as they were.
  Condition: the table crcSteps holds what the program's text lays (the card ties it).
-/
import Derived.Test.YtpadbijkpecbdaaDoorJKK
import Derived.Test.YtpadbijkpecbdaaDoorJ6
namespace Go.Proofs.YtpadbijkpecbdaaDoor
open Go.RowKit
set_option linter.unusedVariables false
theorem recJ_len : ∀ (f : Nat) (s : List UInt8), (recJ f s).length ≤ f
  | 0, _ => Nat.le_refl _
  | f + 1, s => by
    unfold recJ
    split
    · exact Nat.zero_le _
    · split
      · exact Nat.zero_le _
      · rw [List.length_cons]
        exact Nat.succ_le_succ (recJ_len f _)
theorem rowsOf_len (z : Int) (gen L : Nat) (img : List UInt8) : (rowsOf z gen L img).length ≤ 17592186044416 := by
  unfold rowsOf
  by_cases h : MayJ z L
  · obtain ⟨n, c, rfl, hq, hm, h1, h2, h3, h4, h5⟩ := h.all
    rw [if_pos h, Int.toNat_natCast, hq]
    unfold scanJ recs
    have h9 := rooms_flat (gen := gen) h2 img c h5 (roomsJ n gen img c 0).length
    rw [List.take_of_length_le (Nat.le_refl _)] at h9
    exact Nat.le_trans (recJ_len _ _) (by omega)
  · rw [if_neg h]
    exact Nat.zero_le _
theorem own_cap {w : World} {B n s cap : Nat} {a : Option Addr} {e : TypeId} {xs : List Value} (h : w.ownsRow B e s (.slice a n cap) n xs) : cap ≤ maxLen := by
  rcases h.2 with ⟨h1, _⟩ | ⟨g, c, cur, h1, h2, h3, h4, h5, _⟩
  · cases h1
    exact Nat.zero_le _
  · cases h1
    exact h5
set_option maxHeartbeats 1000000 in
set_option maxRecDepth 100000 in
theorem jscans_walk (size : Int) (g : Nat) (v : Value) (l : List UInt8) (w : World) (hs0 : -9223372036854775808 ≤ size) (hs1 : size ≤ 9223372036854775807) (hg : g < 18446744073709551616) (hb : Bt w v l) (hl : l.length ≤ 140737488351232) (hT : Tab w) :
    Calls Tryd.prog 4 #[.int .i64 size, .int .u64 g, v] w fun e w' => e = .returned (.bool true) ∧ Same w w' := by
  obtain ⟨i0, hi0, hz0, hz1, hz2⟩ := info_parts infoB
  obtain ⟨va, vc, rfl, _⟩ := hb.form
  have HT := hidden hT
  have HB := hidden hb
  have HSP := hidden (fun a7 c7 (hc : c7 ≤ maxLen) W (T : Tab W) (hb : Bt W (.slice a7 l.length c7) l) => scanP_all size g a7 l.length c7 l (by omega) (by unfold maxLen at hc; omega) hg W T hb)
  have HEP := hidden (fun a7 c7 (hc : c7 ≤ maxLen) W (T : Tab W) (hb : Bt W (.slice a7 l.length c7) l) => sectorsP_all size g a7 l.length c7 l (by omega) (by unfold maxLen at hc; omega) hg W T hb)
  have HSD := hidden (fun W (hb : Bt W (.slice va l.length vc) l) => scanD_all size g va l.length vc l (by omega) hg W hb)
  have HED := hidden (fun W (hb : Bt W (.slice va l.length vc) l) => sectorsD_all size g va l.length vc l (by omega) hg W hb)
  have HTx := hidden (fun W x y h1 h2 => sameT_eq (rowsOf size g l.length l) x y W h1 h2 (rowsOf_len _ _ _ _))
  have HBy : Hid (∀ W x y, Bt W x l → Bt W y l → Calls Tryd.prog 25 #[x, y] W fun e w' => e = .returned (.bool true) ∧ Same W w') := hidden (fun W x y h1 h2 => by
    have := sameB_any x y _ _ W h1 h2 (by omega) (by omega)
    simpa using this)
  generalize rowsOf size g l.length l = rs at *
  generalize errJ size l.length = er at *
  generalize secOf size g l.length l = sc at *
  have OW := hidden (World.ownsRow_lit (e := 5) (size := 1) (base := w.heap.size) w #[] 0 (Nat.le_refl _) (by unfold maxLen; omega) rfl)
  have LI : Hid (Lies (w.alloc (.cells #[] 5)) va l.length (l.map U8)) := hidden (by
    obtain ⟨ao, cap, e, h⟩ := (hb.same (same_alloc w (.cells #[] 5))).lies
    cases e
    exact h)
  have hlm : (l.map U8).length = l.length := List.length_map _
  have HLM := hidden hlm
  clear hT hb hg hs0 hs1 hlm
  go_enter Tryd.func4, Tryd.ntmps4
  go_wp2_with (first
    | (at_builtin; go_must (refine wpList_append_any (by rfl) _ _ 39 (by rfl) w.heap.size 5 i0 _ 1 1 Tryd.underlying39 hi0 hz0 hz1 hz2 rfl (by decide) _ _ _ _ (by rfl) OW.out va l.length vc (l.map U8) (by rfl) (by rw [HLM.out, Nat.mul_one]) LI.out (fun u hu => by obtain ⟨y, _, rfl⟩ := List.mem_map.1 hu; rfl) (by unfold maxLen; omega) (by omega) (by simp) ?_; intro a7 c7 w7 hown hgrow; have K7 := hidden (same_grown (m := 0) (same_alloc w _) OW.out hgrow); simp only [Nat.zero_add] at hown ⊢; have C7 := hidden (own_cap hown); have B7 := hidden (Bt.own hown); clear hown hgrow))
    | (go_at_call 20; refine (HSP.out _ _ C7.out _ (HT.out.same K7.out) B7.out).mono ?_; rintro e w1 ⟨⟨x, rfl, hx⟩, k1⟩; have K1 := hidden (K7.out.trans k1); have B1 := hidden (B7.out.same k1); have X1 := hidden hx; clear k1 hx)
    | (go_at_call 21; refine (HSD.out _ (HB.out.same K1.out)).mono ?_; rintro e w2 ⟨⟨y, rfl, hy⟩, k2⟩; have K2 := hidden (K1.out.trans k2); have B2 := hidden (B1.out.same k2); have X2 := hidden (X1.out.same k2); have Y2 := hidden hy; clear k2 hy)
    | (go_at_call 22; refine (HEP.out _ _ C7.out _ (HT.out.same K2.out) B2.out).mono ?_; rintro e w3 ⟨rfl, k3⟩; have K3 := hidden (K2.out.trans k3); have B3 := hidden (B2.out.same k3); have X3 := hidden (X2.out.same k3); have Y3 := hidden (Y2.out.same k3); clear k3)
    | (go_at_call 23; refine (HED.out _ (HB.out.same K3.out)).mono ?_; rintro e w4 ⟨rfl, k4⟩; have K4 := hidden (K3.out.trans k4); have B4 := hidden (B3.out.same k4); have X4 := hidden (X3.out.same k4); have Y4 := hidden (Y3.out.same k4); clear k4)
    | (go_at_call 8; refine (j_lives _ (HT.out.same K4.out)).mono ?_; rintro e w5 ⟨rfl, k5⟩; have K5 := hidden (K4.out.trans k5); have B5 := hidden (B4.out.same k5); have X5 := hidden (X4.out.same k5); have Y5 := hidden (Y4.out.same k5); clear k5)
    | (go_at_call 24; refine (HTx.out _ _ _ X5.out Y5.out).mono ?_; rintro e w6 ⟨rfl, k6⟩; have K6 := hidden (K5.out.trans k6); have B6 := hidden (B5.out.same k6); clear k6)
    | (go_at_call 25; refine (HBy.out _ _ _ B6.out (HB.out.same K6.out)).mono ?_; rintro e w8 ⟨rfl, k8⟩; have K8 := hidden (K6.out.trans k8); clear k8))
  go_returns
  exact ⟨rfl, K8.out⟩
end Go.Proofs.YtpadbijkpecbdaaDoor
namespace Go.Proofs.YtpadbijkpecbdaaDoor.JournalScans
open Go.ChangeShapes Go.WideShapes Go.ChangeAt Go.RowKit Go.Joins Go.ChangeMaps
set_option maxRecDepth 100000 in
theorem contract (H : Type) (enc : TypeId × Value → H) (W : World) (base : Nat) (args : Array Value) (ds gs : List (DataW H)) (before : List MemPlace)
    (hval : ∀ (j : Nat) t v, Tryd.f4.params[j]? = some t → args[j]? = some v → Value.okWide Tryd.prog W .any base t v)
    (hW : DataW.Whole enc Tryd.prog Tryd.f4.params.toList Rows.journalScansSpec.vars false W args.toList ds gs before)
    (hsz : (DataW.weightsEach Tryd.prog (Tryd.f4.params.toList ++ (OpenSpec.ofChange Rows.journalScansSpec).bare.plain.varTypes Tryd.prog) (ds ++ gs)).all (· ≤ reachBytes) = true)
    (hL : laidMetH Tryd.prog Rows.journalScansRow.laid W) :
    Calls Tryd.prog 4 args W fun e W' => ∃ v, e = .returned v ∧ Rows.journalScansSpec.post enc Tryd.prog Tryd.f4 false true false false W args v W' := by
  have hW' := hW
  obtain ⟨p, q, hA0, hV, rfl, hfz, hnd⟩ := hW
  have hA : DataW.TrodAll enc Tryd.prog W 0 (fun _ => true) true Tryd.f4.params.toList args.toList ds p := hA0
  rw [Tryd.params4] at hA hval hsz
  obtain ⟨v0, vs0, d0, ds0, p0, q0, hargs, rfl, rfl, h0, r0⟩ := trodAll_cons hA
  obtain ⟨v1, vs1, d1, ds1, p1, q1, rfl, rfl, rfl, h1, r1⟩ := trodAll_cons r0
  obtain ⟨v2, vs2, d2, ds2, p2, q2, rfl, rfl, rfl, h2, r2⟩ := trodAll_cons r1
  obtain ⟨rfl, rfl, rfl⟩ := trodAll_nil r2
  obtain rfl : args = #[v0, v1, v2] := by cases args; simp_all
  obtain ⟨rfl, rfl⟩ := trodVars_none hV
  obtain ⟨size, rfl, rfl, rfl, w_size⟩ := open_int Tryd.underlying3 (hval 0 3 v0 rfl rfl) h0
  have b_size : -9223372036854775808 ≤ size ∧ size ≤ 9223372036854775807 := by simpa [Lit.wf, IntKind.min, IntKind.max, IntKind.signed, IntKind.bits] using w_size
  obtain ⟨generation, rfl, rfl, rfl, w_generation⟩ := open_int Tryd.underlying22 (hval 1 22 v1 rfl rfl) h1
  have b_generation : 0 ≤ generation ∧ generation ≤ 18446744073709551615 := by simpa [Lit.wf, IntKind.min, IntKind.max, IntKind.signed, IntKind.bits] using w_generation
  obtain ⟨generation, rfl⟩ := Int.eq_ofNat_of_zero_le b_generation.1
  obtain ⟨l_image, in_image, sz_image⟩ := bytes_open (hval 2 39 v2 rfl rfl) h2
  refine (jscans_walk size generation v2 l_image W b_size.1 b_size.2 (show generation < 18446744073709551616 by have := b_generation.2; omega) in_image (sz_image _ _ 2 hsz rfl rfl) (tab_laid hL)).mono fun e W' ⟨he, hg⟩ => ?_
  subst he
  exact ⟨_, rfl, law_post laidOut (by rw [Tryd.params4]; decide +kernel) rfl hW' rfl Tryd.underlying4 ⟨rfl, rfl, rfl⟩ (hg.below (Nat.le_refl _) fun _ h => h.elim)⟩
set_option maxRecDepth 100000 in
theorem lifted (os : Os) (started : os.Started) (H : Type) (enc : TypeId × Value → H) (F : Stop.Interp) :
    ReturnsInHanded {} Tryd.checked os 4 .any ((OpenSpec.ofChange Rows.journalScansSpec).preRow enc Tryd.prog Tryd.f4 Rows.journalScansRow.domain false Rows.journalScansRow.laid) (((OpenSpec.ofChange Rows.journalScansSpec).at F).post enc Tryd.prog Tryd.f4 false true false false) := by
  refine returnsInHanded_of_row (C := Tryd.checked) (s := OpenSpec.ofChange Rows.journalScansSpec) own started (by kernel_rfl) Tryd.func4
    (witness_row_at (enc := enc) (C := Tryd.checked) false ({ World.holding Tryd.prog os ⟨#[], #[], []⟩ with heap := (World.holding Tryd.prog os ⟨#[], #[], []⟩).heap.modify tabBlock fun | .cells _ t frozen => .cells (tabInts.map (Value.int .u32)).toArray t frozen | o => o }) #[.int .i64 0, .int .u64 0, .slice none 0 0] rfl (by kernel_rfl) (by kernel_rfl) (by kernel_rfl)
      (OpenSpec.preRow_of_cond (x := ([.lit (.int .i64 0), .lit (.int .u64 0), .nil], [], [])) 8 (by kernel_rfl) (by kernel_rfl) (fun k hk => by cases hk) (by kernel_rfl) (laidMet_of_run' 8 (by kernel_rfl) (by kernel_rfl)))) ?_
  intro W base args ds gs before hval hW _ _ hsz hL _ _
  exact contract H enc W base args ds gs before hval hW hsz hL
theorem said : Rows.JournalScansSaid :=
  OpenClaim.holds_of_cond 4 Tryd.f4 rfl rfl rfl rfl rfl rfl rfl ⟨rfl, rfl, rfl, rfl, rfl⟩ rfl rfl rfl rfl rfl (by kernel_rfl) Tryd.func4 (by kernel_rfl)
    (of_decide_eq_true (by kernel_rfl)) (by unfold Func.isWrapper; first | (rw [if_pos (by decide +kernel)]; kernel_rfl) | (rw [if_neg (by decide +kernel)]; exact ⟨rfl, rfl⟩))
    (fun os started H enc _ F => by rw [OpenClaim.pre_eq_preRow]; exact lifted os started H enc F)
theorem plain (f : FuncId) (fn : Func) (hf : Tryd.pinned.checked.prog.funcNamed Rows.journalScansRow.func = some f) (hfn : Tryd.pinned.checked.prog.funcs[f]? = some fn) :
    false = Tryd.pinned.checked.prog.looks [] ∧ ∀ (j : Nat) t, fn.params[j]? = some t → Tryd.pinned.checked.prog.wantsStandIn t = false := by
  obtain rfl : f = 4 := Option.some.inj ((show Tryd.prog.funcNamed Rows.journalScansRow.func = some 4 by kernel_rfl).symm.trans hf) |>.symm
  obtain rfl : fn = Tryd.f4 := (Option.some.inj (Tryd.func4.symm.trans hfn)).symm
  refine ⟨by kernel_rfl, fun j t ht => ?_⟩
  rw [Tryd.params4] at ht
  have hm : t ∈ [3, 22, 39] := by simpa using Array.mem_of_getElem? ht
  have hall : [3, 22, 39].all (fun t => !Tryd.prog.wantsStandIn t) = true := by kernel_rfl
  have h1 := List.all_eq_true.1 hall t hm
  have h2 : Tryd.prog.wantsStandIn t = false := by simpa using h1
  exact h2
theorem card : Rows.JournalScansCardSaid :=
  Claim7.holds_tied_plain_at .later [] _ _ _ _ said (fun _ h => by cases h) (by kernel_rfl) (fun _ h => by cases h) journalScans_row_tie rfl ⟨rfl, rfl⟩ (by kernel_rfl) rfl plain (by kernel_rfl)
end Go.Proofs.YtpadbijkpecbdaaDoor.JournalScans
namespace Go.Proofs.YtpadbijkpecbdaaDoor
theorem journalScans_card : Rows.JournalScansCardSaid := JournalScans.card
end Go.Proofs.YtpadbijkpecbdaaDoor
