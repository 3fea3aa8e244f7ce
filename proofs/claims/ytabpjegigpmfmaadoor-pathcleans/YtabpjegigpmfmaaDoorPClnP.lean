/- PathCleans: of every path path.Clean tells what the document tells; cleaned again it is the same, and has no dots. -/
import Derived.Test.YtabpjegigpmfmaaDoorPaO
namespace Go.Proofs.YtabpjegigpmfmaaDoor
open Go.RowKit
set_option linter.unusedVariables false
set_option maxHeartbeats 4000000 in
set_option maxRecDepth 100000 in
theorem cleans_walk (p : ByteArray) (w : World) (hb : p.size ≤ 140737488351232) : Calls Tryd.prog 7 #[.string p] w fun e w' => e = .returned (.bool true) ∧ Same w w' := by
  have HA := hidden awake_any
  have HC := hidden (clean_any p (by omega))
  have HD := hidden (cleanD_any p (by omega))
  obtain ⟨P, hP⟩ : ∃ P, P = p.data.toList := ⟨_, rfl⟩
  rw [← hP] at HC HD
  clear hP
  by_cases h0 : splE P = 0
  · obtain ⟨g1, g2, g3, g4⟩ := clean_twice h0
    have hS : clnS P = joinP (cleanL (pc [] P)) := by unfold clnS; rw [if_pos h0]
    obtain ⟨C, hC⟩ : ∃ C, C = cleanL (pc [] P) := ⟨_, rfl⟩
    rw [← hC] at g1 g2 g3 g4 hS
    have hlen := (splE_zero.1 g1).2.1
    have hS2 : clnS (joinP C) = joinP C := by unfold clnS; rw [if_pos g1, g2, g3]
    have hL2 : splL (joinP C) = C := by unfold splL; rw [if_pos g1, g2]
    obtain ⟨s, hs⟩ : ∃ s, s = BA (joinP C) := ⟨_, rfl⟩
    have hsd : s.data.toList = joinP C := by rw [hs, BA_data]
    have hss : s.size ≤ 512 := by rw [← size_list, hsd]; exact hlen
    have hCl : C.length ≤ 513 := by have := pc_len (joinP C) []; rw [g2] at this; simp at this; omega
    rw [h0, hS, ← hs] at HC HD
    have HC2 : Hid (∀ W, Calls Tryd.prog 23 #[.string s] W fun e w' => e = .returned (.tuple #[.string s, .int .i64 0]) ∧ Same W w') := hidden (fun W => (clean_any s (by omega) W).mono fun e w' ⟨he, k⟩ => by
      rw [hsd, hS2, g1, ← hs] at he
      exact ⟨he, k⟩)
    have HS : Hid (∀ W, Calls Tryd.prog 10 #[.string s] W fun e w' => ∃ a n c, e = .returned (.tuple #[.slice a n c, .int .i64 0]) ∧ Row w' (.slice a n c) (TS (C.map BA)) ∧ Same W w') := hidden (fun W => (split_any s (by omega) W).mono fun e w' ⟨u, he, ⟨v, hu, ho⟩, k⟩ => by
      rw [hsd, g1] at hu
      rw [hsd, hL2] at ho
      have hr := ho.row
      obtain ⟨a, n, c, rfl⟩ := hr.any
      exact ⟨a, n, c, by rw [he, hu], hr, k⟩)
    have HG := hidden g4
    have HCl := hidden hCl
    have q : (s.toList == s.toList) = true := by simp
    clear g1 g2 g3 g4 hS hS2 hL2 hs hsd hss hlen hC h0 hCl
    have t1 : True := trivial
    go_enter Tryd.func7, Tryd.ntmps7
    go_wp2_with (first
      | (go_at_call 14; refine (HA.out _).mono ?_; rintro e w1 ⟨rfl, k1⟩; have K1 := hidden k1; clear k1)
      | (go_at_call 23; have _t := t1; refine (HC.out _).mono ?_; rintro e w2 ⟨rfl, k2⟩; have K2 := hidden k2; clear k2 t1 _t)
      | (go_at_call 24; refine (HD.out _).mono ?_; rintro e w3 ⟨rfl, k3⟩; have K3 := hidden k3; clear k3)
      | (go_at_call 23; refine (HC2.out _).mono ?_; rintro e w4 ⟨rfl, k4⟩; have K4 := hidden k4; clear k4)
      | (go_at_call 10; refine (HS.out _).mono ?_; rintro e w5 ⟨a5, n5, c5, rfl, r5, k5⟩; have R5 := hidden r5; have K5 := hidden k5; clear r5 k5))
    have hn5 : n5 = C.length := by have := R5.out.tl; rw [List.length_map] at this; exact this.symm
    have HN5 := hidden hn5
    have hn6 : n5 ≤ 513 := by have := HCl.out; omega
    clear hn5
    go_loop [46] (fun i => ∃ k : Nat, k ≤ n5 ∧ i = .int .i64 k) (fun i => n5 - (intOf i).toNat)
    case atStart => exact ⟨0, Nat.zero_le _, rfl⟩
    case round =>
      obtain ⟨k, hk, rfl⟩ := hrel
      by_cases h1 : k < n5
      · have hkl : k < C.length := by rw [← HN5.out]; exact h1
        obtain ⟨bk, off, rfl, hc⟩ := R5.out.text (j := k) (by rw [List.length_map]; exact hkl)
        rw [List.getElem_map] at hc
        obtain ⟨e1, e2⟩ := HG.out C[k] (List.getElem_mem hkl)
        obtain ⟨y1, z1⟩ := str_ne (p := BA C[k]) (l := [46]) (by rw [BA_data]; exact e1)
        obtain ⟨y2, z2⟩ := str_ne (p := BA C[k]) (l := [46, 46]) (by rw [BA_data]; exact e2)
        clear e1 e2
        generalize BA C[k] = y at *
        have q2 : (k : Int) < (n5 : Int) := by omega
        have q3 : (0 : Int) ≤ (k : Int) := Int.natCast_nonneg _
        go_wp2
        refine ⟨⟨k + 1, by omega, by go_num⟩, by simp [intOf]; omega⟩
      · obtain rfl : k = n5 := by omega
        have q2 : ¬ (k : Int) < (k : Int) := by omega
        go_wp2
        go_returns
        exact ⟨rfl, K1.out.trans (K2.out.trans (K3.out.trans (K4.out.trans K5.out)))⟩
  · generalize BA (clnS P) = y at HC HD
    have q0 : splE P ≠ 0 := h0
    generalize splE P = z at *
    have q : (y.toList == y.toList) = true := by simp
    go_enter Tryd.func7, Tryd.ntmps7
    go_wp2_with (first
      | (go_at_call 14; refine (HA.out _).mono ?_; rintro e w1 ⟨rfl, k1⟩; have K1 := hidden k1; clear k1)
      | (go_at_call 23; refine (HC.out _).mono ?_; rintro e w2 ⟨rfl, k2⟩; have K2 := hidden k2; clear k2)
      | (go_at_call 24; refine (HD.out _).mono ?_; rintro e w3 ⟨rfl, k3⟩; have K3 := hidden k3; clear k3))
    go_returns
    exact ⟨rfl, K1.out.trans (K2.out.trans K3.out)⟩
end Go.Proofs.YtabpjegigpmfmaaDoor
namespace Go.Proofs.YtabpjegigpmfmaaDoor.PathCleans
open Go.ChangeShapes Go.WideShapes Go.ChangeAt Go.RowKit Go.Joins Go.ChangeMaps
set_option maxRecDepth 100000 in
theorem contract (H : Type) (enc : TypeId × Value → H) (W : World) (base : Nat) (args : Array Value) (ds gs : List (DataW H)) (before : List MemPlace)
    (hval : ∀ (j : Nat) t v, Tryd.f7.params[j]? = some t → args[j]? = some v → Value.okWide Tryd.prog W .any base t v)
    (hW : DataW.Whole enc Tryd.prog Tryd.f7.params.toList Rows.pathCleansSpec.vars false W args.toList ds gs before)
    (hsz : (DataW.weightsEach Tryd.prog (Tryd.f7.params.toList ++ (OpenSpec.ofChange Rows.pathCleansSpec).bare.plain.varTypes Tryd.prog) (ds ++ gs)).all (· ≤ reachBytes) = true)
    (_hL : laidMetH Tryd.prog Rows.pathCleansRow.laid W) :
    Calls Tryd.prog 7 args W fun e W' => ∃ v, e = .returned v ∧ Rows.pathCleansSpec.post enc Tryd.prog Tryd.f7 false true false false W args v W' := by
  have hW' := hW
  obtain ⟨p, q, hA0, hV, rfl, hfz, hnd⟩ := hW
  have hA : DataW.TrodAll enc Tryd.prog W 0 (fun _ => true) true Tryd.f7.params.toList args.toList ds p := hA0
  rw [Tryd.params7] at hA hval hsz
  obtain ⟨v0, vs0, d0, ds0, p0, q0, hargs, rfl, rfl, h0, r0⟩ := trodAll_cons hA
  obtain ⟨rfl, rfl, rfl⟩ := trodAll_nil r0
  obtain rfl : args = #[v0] := by cases args; simp_all
  obtain ⟨rfl, rfl⟩ := trodVars_none hV
  obtain ⟨p, rfl, rfl, rfl, _⟩ := open_string Tryd.underlying9 (hval 0 9 v0 rfl rfl) h0
  have l_p : p.size ≤ 140737488351232 := by
    have h2 := sized_string hsz (j := 0) (t := 9) (bytes := p.data.toList) rfl rfl
    rw [size_list] at h2
    unfold reachBytes at h2
    omega
  refine (cleans_walk p W l_p).mono fun e W' ⟨he, hg⟩ => ?_
  subst he
  exact ⟨_, rfl, law_post laidOut (by rw [Tryd.params7]; decide +kernel) rfl hW' rfl Tryd.underlying4 ⟨rfl, rfl, rfl⟩ (hg.below (Nat.le_refl _) fun _ h => h.elim)⟩
set_option maxRecDepth 100000 in
theorem lifted (os : Os) (started : os.Started) (H : Type) (enc : TypeId × Value → H) (F : Stop.Interp) :
    ReturnsInHanded {} Tryd.checked os 7 .any ((OpenSpec.ofChange Rows.pathCleansSpec).preRow enc Tryd.prog Tryd.f7 Rows.pathCleansRow.domain false Rows.pathCleansRow.laid) (((OpenSpec.ofChange Rows.pathCleansSpec).at F).post enc Tryd.prog Tryd.f7 false true false false) := by
  refine returnsInHanded_of_row (C := Tryd.checked) (s := OpenSpec.ofChange Rows.pathCleansSpec) own started (by kernel_rfl) Tryd.func7
    (witness_row_at (enc := enc) (C := Tryd.checked) false (tabWorld (World.holding Tryd.prog os ⟨#[], #[], []⟩)) #[.string ⟨#[]⟩] rfl (by kernel_rfl) (by kernel_rfl) (by kernel_rfl)
      (OpenSpec.preRow_of_cond (x := ([.lit (.string [])], [], [])) 8 (by kernel_rfl) (by kernel_rfl) (fun k hk => by cases hk) (by kernel_rfl) (laidMet_of_run' 8 (by kernel_rfl) (by kernel_rfl)))) ?_
  intro W base args ds gs before hval hW _ _ hsz hL _ _
  exact contract H enc W base args ds gs before hval hW hsz hL
theorem said : Rows.PathCleansSaid :=
  OpenClaim.holds_of_cond 7 Tryd.f7 rfl rfl rfl rfl rfl rfl rfl ⟨rfl, rfl, rfl, rfl, rfl⟩ rfl rfl rfl rfl rfl (by kernel_rfl) Tryd.func7 (by kernel_rfl)
    (of_decide_eq_true (by kernel_rfl)) (by unfold Func.isWrapper; first | (rw [if_pos (by decide +kernel)]; kernel_rfl) | (rw [if_neg (by decide +kernel)]; exact ⟨rfl, rfl⟩))
    (fun os started H enc _ F => by rw [OpenClaim.pre_eq_preRow]; exact lifted os started H enc F)
theorem plain (f : FuncId) (fn : Func) (hf : Tryd.pinned.checked.prog.funcNamed Rows.pathCleansRow.func = some f) (hfn : Tryd.pinned.checked.prog.funcs[f]? = some fn) :
    false = Tryd.pinned.checked.prog.looks [] ∧ ∀ (j : Nat) t, fn.params[j]? = some t → Tryd.pinned.checked.prog.wantsStandIn t = false := by
  obtain rfl : f = 7 := Option.some.inj ((show Tryd.prog.funcNamed Rows.pathCleansRow.func = some 7 by kernel_rfl).symm.trans hf) |>.symm
  obtain rfl : fn = Tryd.f7 := (Option.some.inj (Tryd.func7.symm.trans hfn)).symm
  refine ⟨by kernel_rfl, fun j t ht => ?_⟩
  rw [Tryd.params7] at ht
  have hm : t ∈ [9] := by simpa using Array.mem_of_getElem? ht
  have hall : [9].all (fun t => !Tryd.prog.wantsStandIn t) = true := by kernel_rfl
  have h1 := List.all_eq_true.1 hall t hm
  have h2 : Tryd.prog.wantsStandIn t = false := by simpa using h1
  exact h2
theorem card : Rows.PathCleansCardSaid :=
  Claim7.holds_tied_plain_at .later [] _ _ _ _ said (fun _ h => by cases h) (by kernel_rfl) (fun _ h => by cases h) pathCleans_row_tie rfl ⟨rfl, rfl⟩ (by kernel_rfl) rfl plain (by kernel_rfl)
end Go.Proofs.YtabpjegigpmfmaaDoor.PathCleans
namespace Go.Proofs.YtabpjegigpmfmaaDoor
theorem pathCleans_card : Rows.PathCleansCardSaid := PathCleans.card
end Go.Proofs.YtabpjegigpmfmaaDoor
