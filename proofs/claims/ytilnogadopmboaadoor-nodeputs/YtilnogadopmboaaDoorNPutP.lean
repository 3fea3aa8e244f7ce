/-
  NodePuts (P9.3): whatever the node, the key and the value: the program's Find, Put and Remove tell what the document's tell, and leave the node as it was.
  Condition: the table crcSteps holds what the program's text lays (the card ties it).
-/
import Derived.Test.YtilnogadopmboaaDoorCTab
import Derived.Test.YtilnogadopmboaaDoorN28
namespace Go.Proofs.YtilnogadopmboaaDoor
open Go.RowKit
set_option linter.unusedVariables false
theorem puts_walk (n : Nd) (a1 a2 a3 : Option Addr) (k1 c1 k2 c2 k3 c3 : Nat) (key value : ByteArray) (w : World) (r1 : Row w (.slice a1 k1 c1) (TS n.keys)) (r2 : Row w (.slice a2 k2 c2) (TS n.vals)) (r3 : Row w (.slice a3 k3 c3) (IS n.kids)) (h1 : n.keys.length ≤ 8796093021952) (h2 : n.vals.length ≤ 8796093021952) (h3 : n.kids.length ≤ 17592186043904) (lk : key.size ≤ 140737488351232) (lv : value.size ≤ 140737488351232) (hT : Tab w) :
    Calls Tryd.prog 5 #[.agg #[.bool n.leaf, .slice a1 k1 c1, .slice a2 k2 c2, .slice a3 k3 c3], .string key, .string value] w fun e w' => e = .returned (.bool true) ∧ Same w w' := by
  by_cases hc : n.chk = 0
  · exact puts_yes n a1 a2 a3 k1 c1 k2 c2 k3 c3 key value w r1 r2 r3 (by omega) (by omega) (by omega) hc hT
  · exact puts_no n a1 a2 a3 k1 c1 k2 c2 k3 c3 key value w r1 r2 r3 (by omega) (by omega) (by omega) hc hT
end Go.Proofs.YtilnogadopmboaaDoor
namespace Go.Proofs.YtilnogadopmboaaDoor.NodePuts
open Go.ChangeShapes Go.WideShapes Go.ChangeAt Go.RowKit Go.Joins Go.ChangeMaps
set_option maxRecDepth 100000 in
theorem contract (H : Type) (enc : TypeId × Value → H) (W : World) (base : Nat) (args : Array Value) (ds gs : List (DataW H)) (before : List MemPlace)
    (hval : ∀ (j : Nat) t v, Tryd.f5.params[j]? = some t → args[j]? = some v → Value.okWide Tryd.prog W .any base t v)
    (hW : DataW.Whole enc Tryd.prog Tryd.f5.params.toList Rows.nodePutsSpec.vars false W args.toList ds gs before)
    (hsz : (DataW.weightsEach Tryd.prog (Tryd.f5.params.toList ++ (OpenSpec.ofChange Rows.nodePutsSpec).bare.plain.varTypes Tryd.prog) (ds ++ gs)).all (· ≤ reachBytes) = true)
    (hL : laidMetH Tryd.prog Rows.nodePutsRow.laid W) :
    Calls Tryd.prog 5 args W fun e W' => ∃ v, e = .returned v ∧ Rows.nodePutsSpec.post enc Tryd.prog Tryd.f5 false true false false W args v W' := by
  have hW' := hW
  obtain ⟨p, q, hA0, hV, rfl, hfz, hnd⟩ := hW
  have hA : DataW.TrodAll enc Tryd.prog W 0 (fun _ => true) true Tryd.f5.params.toList args.toList ds p := hA0
  rw [Tryd.params5] at hA hval hsz
  obtain ⟨v0, vs0, d0, ds0, p0, q0, hargs, rfl, rfl, h0, r0⟩ := trodAll_cons hA
  obtain ⟨v1, vs1, d1, ds1, p1, q1, rfl, rfl, rfl, h1, r1⟩ := trodAll_cons r0
  obtain ⟨v2, vs2, d2, ds2, p2, q2, rfl, rfl, rfl, h2, r2⟩ := trodAll_cons r1
  obtain ⟨rfl, rfl, rfl⟩ := trodAll_nil r2
  obtain rfl : args = #[v0, v1, v2] := by cases args; simp_all
  obtain ⟨rfl, rfl⟩ := trodVars_none hV
  obtain ⟨n_n, a1_n, a2_n, a3_n, k1_n, c1_n, k2_n, c2_n, k3_n, c3_n, rfl, r1_n, r2_n, r3_n, b1_n, b2_n, b3_n⟩ := node_open (hval 0 25 v0 rfl rfl) h0 _ _ 0 hsz rfl rfl
  obtain ⟨key, rfl, rfl, rfl, _⟩ := open_string Tryd.underlying9 (hval 1 9 v1 rfl rfl) h1
  obtain ⟨value, rfl, rfl, rfl, _⟩ := open_string Tryd.underlying9 (hval 2 9 v2 rfl rfl) h2
  have l_key : key.size ≤ 140737488351232 := by
    have h2 := sized_string hsz (j := 1) (t := 9) (bytes := key.data.toList) rfl rfl
    rw [size_list] at h2
    unfold reachBytes at h2
    omega
  have l_value : value.size ≤ 140737488351232 := by
    have h2 := sized_string hsz (j := 2) (t := 9) (bytes := value.data.toList) rfl rfl
    rw [size_list] at h2
    unfold reachBytes at h2
    omega
  refine (puts_walk n_n a1_n a2_n a3_n k1_n c1_n k2_n c2_n k3_n c3_n key value W r1_n r2_n r3_n b1_n b2_n b3_n l_key l_value (tab_laid hL)).mono fun e W' ⟨he, hg⟩ => ?_
  subst he
  exact ⟨_, rfl, law_post laidOut (by rw [Tryd.params5]; decide +kernel) rfl hW' rfl Tryd.underlying4 ⟨rfl, rfl, rfl⟩ (hg.below (Nat.le_refl _) fun _ h => h.elim)⟩
set_option maxRecDepth 100000 in
theorem lifted (os : Os) (started : os.Started) (H : Type) (enc : TypeId × Value → H) (F : Stop.Interp) :
    ReturnsInHanded {} Tryd.checked os 5 .any ((OpenSpec.ofChange Rows.nodePutsSpec).preRow enc Tryd.prog Tryd.f5 Rows.nodePutsRow.domain false Rows.nodePutsRow.laid) (((OpenSpec.ofChange Rows.nodePutsSpec).at F).post enc Tryd.prog Tryd.f5 false true false false) := by
  refine returnsInHanded_of_row (C := Tryd.checked) (s := OpenSpec.ofChange Rows.nodePutsSpec) own started (by kernel_rfl) Tryd.func5
    (witness_row_at (enc := enc) (C := Tryd.checked) false ({ World.holding Tryd.prog os ⟨#[], #[], []⟩ with heap := (World.holding Tryd.prog os ⟨#[], #[], []⟩).heap.modify tabBlock fun | .cells _ t frozen => .cells (tabInts.map (Value.int .u32)).toArray t frozen | o => o }) #[.agg #[.bool false, .slice none 0 0, .slice none 0 0, .slice none 0 0], .string ⟨#[]⟩, .string ⟨#[]⟩] rfl (by kernel_rfl) (by kernel_rfl) (by kernel_rfl)
      (OpenSpec.preRow_of_cond (x := ([.agg [.lit (.bool false), .nil, .nil, .nil], .lit (.string []), .lit (.string [])], [], [])) 8 (by kernel_rfl) (by kernel_rfl) (fun k hk => by cases hk) (by kernel_rfl) (laidMet_of_run' 8 (by kernel_rfl) (by kernel_rfl)))) ?_
  intro W base args ds gs before hval hW _ _ hsz hL _ _
  exact contract H enc W base args ds gs before hval hW hsz hL
theorem said : Rows.NodePutsSaid :=
  OpenClaim.holds_of_cond 5 Tryd.f5 rfl rfl rfl rfl rfl rfl rfl ⟨rfl, rfl, rfl, rfl, rfl⟩ rfl rfl rfl rfl rfl (by kernel_rfl) Tryd.func5 (by kernel_rfl)
    (of_decide_eq_true (by kernel_rfl)) (by unfold Func.isWrapper; first | (rw [if_pos (by decide +kernel)]; kernel_rfl) | (rw [if_neg (by decide +kernel)]; exact ⟨rfl, rfl⟩))
    (fun os started H enc _ F => by rw [OpenClaim.pre_eq_preRow]; exact lifted os started H enc F)
theorem plain (f : FuncId) (fn : Func) (hf : Tryd.pinned.checked.prog.funcNamed Rows.nodePutsRow.func = some f) (hfn : Tryd.pinned.checked.prog.funcs[f]? = some fn) :
    false = Tryd.pinned.checked.prog.looks [] ∧ ∀ (j : Nat) t, fn.params[j]? = some t → Tryd.pinned.checked.prog.wantsStandIn t = false := by
  obtain rfl : f = 5 := Option.some.inj ((show Tryd.prog.funcNamed Rows.nodePutsRow.func = some 5 by kernel_rfl).symm.trans hf) |>.symm
  obtain rfl : fn = Tryd.f5 := (Option.some.inj (Tryd.func5.symm.trans hfn)).symm
  refine ⟨by kernel_rfl, fun j t ht => ?_⟩
  rw [Tryd.params5] at ht
  have hm : t ∈ [25, 9, 9] := by simpa using Array.mem_of_getElem? ht
  have hall : [25, 9, 9].all (fun t => !Tryd.prog.wantsStandIn t) = true := by kernel_rfl
  have h1 := List.all_eq_true.1 hall t hm
  have h2 : Tryd.prog.wantsStandIn t = false := by simpa using h1
  exact h2
theorem card : Rows.NodePutsCardSaid :=
  Claim7.holds_tied_plain_at .later [] _ _ _ _ said (fun _ h => by cases h) (by kernel_rfl) (fun _ h => by cases h) nodePuts_row_tie rfl ⟨rfl, rfl⟩ (by kernel_rfl) rfl plain (by kernel_rfl)
end Go.Proofs.YtilnogadopmboaaDoor.NodePuts
namespace Go.Proofs.YtilnogadopmboaaDoor
theorem nodePuts_card : Rows.NodePutsCardSaid := NodePuts.card
end Go.Proofs.YtilnogadopmboaaDoor
