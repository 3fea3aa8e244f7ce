/-
  JournalFirst (P7.5, P7.6): whatever the size, the sectors, the generation, the records, where is taken, how many of the sectors are there, and which generation (or zeros) stands in the others: of the first sectors the first records are found, those that end in them, of all of them all: the law's call returns true and leaves its arguments as they were.
  Condition: the table crcSteps holds what the program's text lays (the card ties it).
-/
import Derived.Test.YtljbmpnpbjnbkaaDoorJP5
import Derived.Test.YtljbmpnpbjnbkaaDoorJP9
namespace Go.Proofs.YtljbmpnpbjnbkaaDoor
open Go.RowKit
set_option linter.unusedVariables false
theorem jfirst_walk (size sectors : Int) (g : Nat) (v1 : Value) (n1 : Nat) (f1 : Nat → ByteArray) (v2 : Value) (n2 : Nat) (f2 : Nat → Int) (kk : Int) (old : Nat) (w : World) (hs0 : -9223372036854775808 ≤ size) (hs1 : size ≤ 9223372036854775807) (ht0 : -9223372036854775808 ≤ sectors) (ht1 : sectors ≤ 9223372036854775807) (hg : g < 18446744073709551616) (hin1 : JStrs w v1 n1 f1) (hn1 : n1 ≤ 140737488351232) (hin2 : JInts w v2 n2 f2) (hn2 : n2 ≤ 140737488351232) (hk0 : -9223372036854775808 ≤ kk) (hk1 : kk ≤ 9223372036854775807) (ho : old < 18446744073709551616) (hT : Tab w) :
    Calls Tryd.prog 5 #[.int .i64 size, .int .i64 sectors, .int .u64 g, v1, v2, .int .i64 kk, .int .u64 old] w fun e w' => e = .returned (.bool true) ∧ Same w w' := by
  by_cases hog : old = g
  · rw [hog]
    exact jfirst_eq size sectors g v1 n1 f1 v2 n2 f2 kk w hs0 hs1 ht0 ht1 hg hin1 hn1 hin2 hn2 hk0 hk1 hT
  · exact jfirst_ne size sectors g v1 n1 f1 v2 n2 f2 kk old w hs0 hs1 ht0 ht1 hg hin1 hn1 hin2 hn2 hk0 hk1 ho hog hT
end Go.Proofs.YtljbmpnpbjnbkaaDoor
namespace Go.Proofs.YtljbmpnpbjnbkaaDoor.JournalFirst
open Go.ChangeShapes Go.WideShapes Go.ChangeAt Go.RowKit Go.Joins Go.ChangeMaps
set_option maxRecDepth 100000 in
theorem contract (H : Type) (enc : TypeId × Value → H) (W : World) (base : Nat) (args : Array Value) (ds gs : List (DataW H)) (before : List MemPlace)
    (hval : ∀ (j : Nat) t v, Tryd.f5.params[j]? = some t → args[j]? = some v → Value.okWide Tryd.prog W .any base t v)
    (hW : DataW.Whole enc Tryd.prog Tryd.f5.params.toList Rows.journalFirstSpec.vars false W args.toList ds gs before)
    (hsz : (DataW.weightsEach Tryd.prog (Tryd.f5.params.toList ++ (OpenSpec.ofChange Rows.journalFirstSpec).bare.plain.varTypes Tryd.prog) (ds ++ gs)).all (· ≤ reachBytes) = true)
    (hL : laidMetH Tryd.prog Rows.journalFirstRow.laid W) :
    Calls Tryd.prog 5 args W fun e W' => ∃ v, e = .returned v ∧ Rows.journalFirstSpec.post enc Tryd.prog Tryd.f5 false true false false W args v W' := by
  have hW' := hW
  obtain ⟨p, q, hA0, hV, rfl, hfz, hnd⟩ := hW
  have hA : DataW.TrodAll enc Tryd.prog W 0 (fun _ => true) true Tryd.f5.params.toList args.toList ds p := hA0
  rw [Tryd.params5] at hA hval hsz
  obtain ⟨v0, vs0, d0, ds0, p0, q0, hargs, rfl, rfl, h0, r0⟩ := trodAll_cons hA
  obtain ⟨v1, vs1, d1, ds1, p1, q1, rfl, rfl, rfl, h1, r1⟩ := trodAll_cons r0
  obtain ⟨v2, vs2, d2, ds2, p2, q2, rfl, rfl, rfl, h2, r2⟩ := trodAll_cons r1
  obtain ⟨v3, vs3, d3, ds3, p3, q3, rfl, rfl, rfl, h3, r3⟩ := trodAll_cons r2
  obtain ⟨v4, vs4, d4, ds4, p4, q4, rfl, rfl, rfl, h4, r4⟩ := trodAll_cons r3
  obtain ⟨v5, vs5, d5, ds5, p5, q5, rfl, rfl, rfl, h5, r5⟩ := trodAll_cons r4
  obtain ⟨v6, vs6, d6, ds6, p6, q6, rfl, rfl, rfl, h6, r6⟩ := trodAll_cons r5
  obtain ⟨rfl, rfl, rfl⟩ := trodAll_nil r6
  obtain rfl : args = #[v0, v1, v2, v3, v4, v5, v6] := by cases args; simp_all
  obtain ⟨rfl, rfl⟩ := trodVars_none hV
  obtain ⟨size, rfl, rfl, rfl, w_size⟩ := open_int Tryd.underlying3 (hval 0 3 v0 rfl rfl) h0
  have b_size : -9223372036854775808 ≤ size ∧ size ≤ 9223372036854775807 := by simpa [Lit.wf, IntKind.min, IntKind.max, IntKind.signed, IntKind.bits] using w_size
  obtain ⟨sectors, rfl, rfl, rfl, w_sectors⟩ := open_int Tryd.underlying3 (hval 1 3 v1 rfl rfl) h1
  have b_sectors : -9223372036854775808 ≤ sectors ∧ sectors ≤ 9223372036854775807 := by simpa [Lit.wf, IntKind.min, IntKind.max, IntKind.signed, IntKind.bits] using w_sectors
  obtain ⟨generation, rfl, rfl, rfl, w_generation⟩ := open_int Tryd.underlying22 (hval 2 22 v2 rfl rfl) h2
  have b_generation : 0 ≤ generation ∧ generation ≤ 18446744073709551615 := by simpa [Lit.wf, IntKind.min, IntKind.max, IntKind.signed, IntKind.bits] using w_generation
  obtain ⟨generation, rfl⟩ := Int.eq_ofNat_of_zero_le b_generation.1
  obtain ⟨n_recs, f_recs, in_recs, sz_recs⟩ := jstrs_open (hval 3 47 v3 rfl rfl) h3 _ _ 3 hsz rfl rfl
  obtain ⟨n_takes, f_takes, in_takes, sz_takes⟩ := jints_open (hval 4 55 v4 rfl rfl) h4 _ _ 4 hsz rfl rfl
  obtain ⟨k, rfl, rfl, rfl, w_k⟩ := open_int Tryd.underlying3 (hval 5 3 v5 rfl rfl) h5
  have b_k : -9223372036854775808 ≤ k ∧ k ≤ 9223372036854775807 := by simpa [Lit.wf, IntKind.min, IntKind.max, IntKind.signed, IntKind.bits] using w_k
  obtain ⟨old, rfl, rfl, rfl, w_old⟩ := open_int Tryd.underlying22 (hval 6 22 v6 rfl rfl) h6
  have b_old : 0 ≤ old ∧ old ≤ 18446744073709551615 := by simpa [Lit.wf, IntKind.min, IntKind.max, IntKind.signed, IntKind.bits] using w_old
  obtain ⟨old, rfl⟩ := Int.eq_ofNat_of_zero_le b_old.1
  refine (jfirst_walk size sectors generation v3 n_recs f_recs v4 n_takes f_takes k old W b_size.1 b_size.2 b_sectors.1 b_sectors.2 (show generation < 18446744073709551616 by have := b_generation.2; omega) in_recs sz_recs in_takes sz_takes b_k.1 b_k.2 (show old < 18446744073709551616 by have := b_old.2; omega) (tab_laid hL)).mono fun e W' ⟨he, hg⟩ => ?_
  subst he
  exact ⟨_, rfl, law_post laidOut (by rw [Tryd.params5]; decide +kernel) rfl hW' rfl Tryd.underlying4 ⟨rfl, rfl, rfl⟩ (hg.below (Nat.le_refl _) fun _ h => h.elim)⟩
set_option maxRecDepth 100000 in
theorem lifted (os : Os) (started : os.Started) (H : Type) (enc : TypeId × Value → H) (F : Stop.Interp) :
    ReturnsInHanded {} Tryd.checked os 5 .any ((OpenSpec.ofChange Rows.journalFirstSpec).preRow enc Tryd.prog Tryd.f5 Rows.journalFirstRow.domain false Rows.journalFirstRow.laid) (((OpenSpec.ofChange Rows.journalFirstSpec).at F).post enc Tryd.prog Tryd.f5 false true false false) := by
  refine returnsInHanded_of_row (C := Tryd.checked) (s := OpenSpec.ofChange Rows.journalFirstSpec) own started (by kernel_rfl) Tryd.func5
    (witness_row_at (enc := enc) (C := Tryd.checked) false ({ World.holding Tryd.prog os ⟨#[], #[], []⟩ with heap := (World.holding Tryd.prog os ⟨#[], #[], []⟩).heap.modify tabBlock fun | .cells _ t frozen => .cells (tabInts.map (Value.int .u32)).toArray t frozen | o => o }) #[.int .i64 0, .int .i64 0, .int .u64 0, .slice none 0 0, .slice none 0 0, .int .i64 0, .int .u64 0] rfl (by kernel_rfl) (by kernel_rfl) (by kernel_rfl)
      (OpenSpec.preRow_of_cond (x := ([.lit (.int .i64 0), .lit (.int .i64 0), .lit (.int .u64 0), .nil, .nil, .lit (.int .i64 0), .lit (.int .u64 0)], [], [])) 8 (by kernel_rfl) (by kernel_rfl) (fun k hk => by cases hk) (by kernel_rfl) (laidMet_of_run' 8 (by kernel_rfl) (by kernel_rfl)))) ?_
  intro W base args ds gs before hval hW _ _ hsz hL _ _
  exact contract H enc W base args ds gs before hval hW hsz hL
theorem said : Rows.JournalFirstSaid :=
  OpenClaim.holds_of_cond 5 Tryd.f5 rfl rfl rfl rfl rfl rfl rfl ⟨rfl, rfl, rfl, rfl, rfl⟩ rfl rfl rfl rfl rfl (by kernel_rfl) Tryd.func5 (by kernel_rfl)
    (of_decide_eq_true (by kernel_rfl)) (by unfold Func.isWrapper; first | (rw [if_pos (by decide +kernel)]; kernel_rfl) | (rw [if_neg (by decide +kernel)]; exact ⟨rfl, rfl⟩))
    (fun os started H enc _ F => by rw [OpenClaim.pre_eq_preRow]; exact lifted os started H enc F)
theorem plain (f : FuncId) (fn : Func) (hf : Tryd.pinned.checked.prog.funcNamed Rows.journalFirstRow.func = some f) (hfn : Tryd.pinned.checked.prog.funcs[f]? = some fn) :
    false = Tryd.pinned.checked.prog.looks [] ∧ ∀ (j : Nat) t, fn.params[j]? = some t → Tryd.pinned.checked.prog.wantsStandIn t = false := by
  obtain rfl : f = 5 := Option.some.inj ((show Tryd.prog.funcNamed Rows.journalFirstRow.func = some 5 by kernel_rfl).symm.trans hf) |>.symm
  obtain rfl : fn = Tryd.f5 := (Option.some.inj (Tryd.func5.symm.trans hfn)).symm
  refine ⟨by kernel_rfl, fun j t ht => ?_⟩
  rw [Tryd.params5] at ht
  have hm : t ∈ [3, 3, 22, 47, 55, 3, 22] := by simpa using Array.mem_of_getElem? ht
  have hall : [3, 3, 22, 47, 55, 3, 22].all (fun t => !Tryd.prog.wantsStandIn t) = true := by kernel_rfl
  have h1 := List.all_eq_true.1 hall t hm
  have h2 : Tryd.prog.wantsStandIn t = false := by simpa using h1
  exact h2
theorem card : Rows.JournalFirstCardSaid :=
  Claim7.holds_tied_plain_at .later [] _ _ _ _ said (fun _ h => by cases h) (by kernel_rfl) (fun _ h => by cases h) journalFirst_row_tie rfl ⟨rfl, rfl⟩ (by kernel_rfl) rfl plain (by kernel_rfl)
end Go.Proofs.YtljbmpnpbjnbkaaDoor.JournalFirst
namespace Go.Proofs.YtljbmpnpbjnbkaaDoor
theorem journalFirst_card : Rows.JournalFirstCardSaid := JournalFirst.card
end Go.Proofs.YtljbmpnpbjnbkaaDoor
