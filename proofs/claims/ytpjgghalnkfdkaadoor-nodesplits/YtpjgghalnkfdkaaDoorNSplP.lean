/-
  NodeSplits (P9.4): whatever the node: the program's Split tells what the document's tells and leaves the node as it was; Join of the halves gives the node; both have keys, and where the node has at most 642 bytes each half fits in 512.
  Condition: the table crcSteps holds what the program's text lays (the card ties it).
-/
import Derived.Test.YtpjgghalnkfdkaaDoorCTab
import Derived.Test.YtpjgghalnkfdkaaDoorN59
import Derived.Test.YtpjgghalnkfdkaaDoorN53
import Derived.Test.YtpjgghalnkfdkaaDoorN54
import Derived.Test.YtpjgghalnkfdkaaDoorN57
import Derived.Test.YtpjgghalnkfdkaaDoorN58
namespace Go.Proofs.YtpjgghalnkfdkaaDoor
open Go.RowKit
set_option linter.unusedVariables false
theorem rsplit_ok (n : Nd) (a1 a2 a3 : Option Addr) (k1 c1 k2 c2 k3 c3 : Nat) (i most : Nat) (w : World) (r1 : Row w (.slice a1 k1 c1) (TS n.keys)) (r2 : Row w (.slice a2 k2 c2) (TS n.vals)) (r3 : Row w (.slice a3 k3 c3) (IS n.kids)) (hb : n.Bd) (hb1 : n.keys.length ≤ 8796093022208) (hb2 : n.vals.length ≤ 8796093022208) (hb3 : n.kids.length ≤ 17592186044416) (hc : n.chk = 0) (hm : n.keys.length = most + 1 + n.btw) (hA : n.At most i) :
    Calls Tryd.prog 28 #[.agg #[.bool n.leaf, .slice a1 k1 c1, .slice a2 k2 c2, .slice a3 k3 c3]] w fun e w' => ∃ u, e = .returned u ∧ SpQ (n.sub 0 i) (n.keys.getD i ⟨#[]⟩) (n.sub (i + n.btw) n.keys.length) w u w' := by
  cases hl : n.leaf
  · have h := rsplit_inner n a1 a2 a3 k1 c1 k2 c2 k3 c3 i most w r1 r2 r3 hb hb1 hb2 hb3 hl hc (by rw [Nd.btw_inner hl] at hm; omega) hA
    rw [hl] at h
    rw [Nd.btw_inner hl]
    exact h
  · have h := rsplit_leaf n a1 a2 a3 k1 c1 k2 c2 k3 c3 i most w r1 r2 r3 hb hb1 hb2 hb3 hl hc (by rw [Nd.btw_leaf hl] at hm; omega) hA
    rw [hl] at h
    rw [Nd.btw_leaf hl]
    exact h
theorem splits_walk (n : Nd) (a1 a2 a3 : Option Addr) (k1 c1 k2 c2 k3 c3 : Nat) (w : World) (r1 : Row w (.slice a1 k1 c1) (TS n.keys)) (r2 : Row w (.slice a2 k2 c2) (TS n.vals)) (r3 : Row w (.slice a3 k3 c3) (IS n.kids)) (h1 : n.keys.length ≤ 8796093021952) (h2 : n.vals.length ≤ 8796093021952) (h3 : n.kids.length ≤ 17592186043904) (hT : Tab w) :
    Calls Tryd.prog 6 #[.agg #[.bool n.leaf, .slice a1 k1 c1, .slice a2 k2 c2, .slice a3 k3 c3]] w fun e w' => e = .returned (.bool true) ∧ Same w w' := by
  by_cases hc : n.chk = 0
  · by_cases hm : n.keys.length ≤ 1 + n.btw
    · exact splits_few n a1 a2 a3 k1 c1 k2 c2 k3 c3 w r1 r2 r3 h1 h2 h3 hT hc hm
    · obtain ⟨most, hk⟩ : ∃ most, n.keys.length = most + 1 + n.btw := ⟨n.keys.length - 1 - n.btw, by omega⟩
      obtain ⟨i, hA⟩ := n.at_ex most (by omega)
      exact splits_yes n a1 a2 a3 k1 c1 k2 c2 k3 c3 i most w r1 r2 r3 h1 h2 h3 hc hk hA hT (fun W k => rsplit_ok n a1 a2 a3 k1 c1 k2 c2 k3 c3 i most W (r1.same k) (r2.same k) (r3.same k) ⟨by omega, by omega, by omega⟩ (by omega) (by omega) (by omega) hc hk hA)
  · exact splits_bad n a1 a2 a3 k1 c1 k2 c2 k3 c3 w r1 r2 r3 h1 h2 h3 hT hc
end Go.Proofs.YtpjgghalnkfdkaaDoor
namespace Go.Proofs.YtpjgghalnkfdkaaDoor.NodeSplits
open Go.ChangeShapes Go.WideShapes Go.ChangeAt Go.RowKit Go.Joins Go.ChangeMaps
set_option maxRecDepth 100000 in
theorem contract (H : Type) (enc : TypeId × Value → H) (W : World) (base : Nat) (args : Array Value) (ds gs : List (DataW H)) (before : List MemPlace)
    (hval : ∀ (j : Nat) t v, Tryd.f6.params[j]? = some t → args[j]? = some v → Value.okWide Tryd.prog W .any base t v)
    (hW : DataW.Whole enc Tryd.prog Tryd.f6.params.toList Rows.nodeSplitsSpec.vars false W args.toList ds gs before)
    (hsz : (DataW.weightsEach Tryd.prog (Tryd.f6.params.toList ++ (OpenSpec.ofChange Rows.nodeSplitsSpec).bare.plain.varTypes Tryd.prog) (ds ++ gs)).all (· ≤ reachBytes) = true)
    (hL : laidMetH Tryd.prog Rows.nodeSplitsRow.laid W) :
    Calls Tryd.prog 6 args W fun e W' => ∃ v, e = .returned v ∧ Rows.nodeSplitsSpec.post enc Tryd.prog Tryd.f6 false true false false W args v W' := by
  have hW' := hW
  obtain ⟨p, q, hA0, hV, rfl, hfz, hnd⟩ := hW
  have hA : DataW.TrodAll enc Tryd.prog W 0 (fun _ => true) true Tryd.f6.params.toList args.toList ds p := hA0
  rw [Tryd.params6] at hA hval hsz
  obtain ⟨v0, vs0, d0, ds0, p0, q0, hargs, rfl, rfl, h0, r0⟩ := trodAll_cons hA
  obtain ⟨rfl, rfl, rfl⟩ := trodAll_nil r0
  obtain rfl : args = #[v0] := by cases args; simp_all
  obtain ⟨rfl, rfl⟩ := trodVars_none hV
  obtain ⟨n_n, a1_n, a2_n, a3_n, k1_n, c1_n, k2_n, c2_n, k3_n, c3_n, rfl, r1_n, r2_n, r3_n, b1_n, b2_n, b3_n⟩ := node_open (hval 0 25 v0 rfl rfl) h0 _ _ 0 hsz rfl rfl
  refine (splits_walk n_n a1_n a2_n a3_n k1_n c1_n k2_n c2_n k3_n c3_n W r1_n r2_n r3_n b1_n b2_n b3_n (tab_laid hL)).mono fun e W' ⟨he, hg⟩ => ?_
  subst he
  exact ⟨_, rfl, law_post laidOut (by rw [Tryd.params6]; decide +kernel) rfl hW' rfl Tryd.underlying4 ⟨rfl, rfl, rfl⟩ (hg.below (Nat.le_refl _) fun _ h => h.elim)⟩
set_option maxRecDepth 100000 in
theorem lifted (os : Os) (started : os.Started) (H : Type) (enc : TypeId × Value → H) (F : Stop.Interp) :
    ReturnsInHanded {} Tryd.checked os 6 .any ((OpenSpec.ofChange Rows.nodeSplitsSpec).preRow enc Tryd.prog Tryd.f6 Rows.nodeSplitsRow.domain false Rows.nodeSplitsRow.laid) (((OpenSpec.ofChange Rows.nodeSplitsSpec).at F).post enc Tryd.prog Tryd.f6 false true false false) := by
  refine returnsInHanded_of_row (C := Tryd.checked) (s := OpenSpec.ofChange Rows.nodeSplitsSpec) own started (by kernel_rfl) Tryd.func6
    (witness_row_at (enc := enc) (C := Tryd.checked) false ({ World.holding Tryd.prog os ⟨#[], #[], []⟩ with heap := (World.holding Tryd.prog os ⟨#[], #[], []⟩).heap.modify tabBlock fun | .cells _ t frozen => .cells (tabInts.map (Value.int .u32)).toArray t frozen | o => o }) #[.agg #[.bool false, .slice none 0 0, .slice none 0 0, .slice none 0 0]] rfl (by kernel_rfl) (by kernel_rfl) (by kernel_rfl)
      (OpenSpec.preRow_of_cond (x := ([.agg [.lit (.bool false), .nil, .nil, .nil]], [], [])) 8 (by kernel_rfl) (by kernel_rfl) (fun k hk => by cases hk) (by kernel_rfl) (laidMet_of_run' 8 (by kernel_rfl) (by kernel_rfl)))) ?_
  intro W base args ds gs before hval hW _ _ hsz hL _ _
  exact contract H enc W base args ds gs before hval hW hsz hL
theorem said : Rows.NodeSplitsSaid :=
  OpenClaim.holds_of_cond 6 Tryd.f6 rfl rfl rfl rfl rfl rfl rfl ⟨rfl, rfl, rfl, rfl, rfl⟩ rfl rfl rfl rfl rfl (by kernel_rfl) Tryd.func6 (by kernel_rfl)
    (of_decide_eq_true (by kernel_rfl)) (by unfold Func.isWrapper; first | (rw [if_pos (by decide +kernel)]; kernel_rfl) | (rw [if_neg (by decide +kernel)]; exact ⟨rfl, rfl⟩))
    (fun os started H enc _ F => by rw [OpenClaim.pre_eq_preRow]; exact lifted os started H enc F)
theorem plain (f : FuncId) (fn : Func) (hf : Tryd.pinned.checked.prog.funcNamed Rows.nodeSplitsRow.func = some f) (hfn : Tryd.pinned.checked.prog.funcs[f]? = some fn) :
    false = Tryd.pinned.checked.prog.looks [] ∧ ∀ (j : Nat) t, fn.params[j]? = some t → Tryd.pinned.checked.prog.wantsStandIn t = false := by
  obtain rfl : f = 6 := Option.some.inj ((show Tryd.prog.funcNamed Rows.nodeSplitsRow.func = some 6 by kernel_rfl).symm.trans hf) |>.symm
  obtain rfl : fn = Tryd.f6 := (Option.some.inj (Tryd.func6.symm.trans hfn)).symm
  refine ⟨by kernel_rfl, fun j t ht => ?_⟩
  rw [Tryd.params6] at ht
  have hm : t ∈ [25] := by simpa using Array.mem_of_getElem? ht
  have hall : [25].all (fun t => !Tryd.prog.wantsStandIn t) = true := by kernel_rfl
  have h1 := List.all_eq_true.1 hall t hm
  have h2 : Tryd.prog.wantsStandIn t = false := by simpa using h1
  exact h2
theorem card : Rows.NodeSplitsCardSaid :=
  Claim7.holds_tied_plain_at .later [] _ _ _ _ said (fun _ h => by cases h) (by kernel_rfl) (fun _ h => by cases h) nodeSplits_row_tie rfl ⟨rfl, rfl⟩ (by kernel_rfl) rfl plain (by kernel_rfl)
end Go.Proofs.YtpjgghalnkfdkaaDoor.NodeSplits
namespace Go.Proofs.YtpjgghalnkfdkaaDoor
theorem nodeSplits_card : Rows.NodeSplitsCardSaid := NodeSplits.card
end Go.Proofs.YtpjgghalnkfdkaaDoor
