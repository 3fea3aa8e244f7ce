/- PathJoins: of any parts (the bounded form) path.Join tells what the document tells; of names that may be it is split into these. -/
import Derived.Test.YtabpjegigpmfmaaDoorPaO
namespace Go.Proofs.YtabpjegigpmfmaaDoor
open Go.RowKit
set_option linter.unusedVariables false
theorem name_good {P : List UInt8} (h : nameE P = 0) : P ≠ [] ∧ 47 ∉ P ∧ 0 ∉ P ∧ P.length ≤ 32 := by
  unfold nameE at h
  split at h
  · cases h
  · rename_i hn
    split at h
    · cases h
    · refine ⟨fun e => hn (.inl e), fun e => hn (.inr (.inr (.inr (.inl e)))), fun e => hn (.inr (.inr (.inr (.inr e)))), by omega⟩
theorem bsum_wsum (L : List (List UInt8)) : bsum (L.map BA) = wsum L := by
  unfold bsum wsum
  rw [List.map_map]
  exact congrArg List.sum (List.map_congr_left fun x _ => by simp only [Function.comp_apply]; rw [← size_list, BA_data])
theorem texts_lists (l : List ByteArray) : l = (l.map (·.data.toList)).map BA := by
  rw [List.map_map]
  conv => lhs; rw [← List.map_id l]
  exact List.map_congr_left fun x _ => (BA_of x).symm
set_option maxHeartbeats 4000000 in
set_option maxRecDepth 100000 in
theorem joins_walk (a : Option Addr) (n c : Nat) (l : List ByteArray) (w : World) (r : Row w (.slice a n c) (TS l)) (hb : bsum l ≤ 1048576) : Calls Tryd.prog 6 #[.slice a n c] w fun e w' => e = .returned (.bool true) ∧ Same w w' := by
  have HA := hidden awake_any
  obtain ⟨L, rfl⟩ : ∃ L : List (List UInt8), l = L.map BA := ⟨_, texts_lists l⟩
  rw [bsum_wsum] at hb
  have hnl := len_wsum L
  have e1 := r.tl
  rw [List.length_map] at e1
  have HJ := hidden (fun W (k : Same w W) => joinA_any L a n c W (r.same k) (by omega))
  have HJD := hidden (fun W (k : Same w W) => joinD_any L a n c W (r.same k) (by omega))
  have hjl : (joinP L).length ≤ wsum L + 1 := by
    cases L with
    | nil => decide
    | cons x t => rw [show joinP (x :: t) = joinL (x :: t) from rfl, joinL_len]; omega
  have hwj : (joinP L).length ≤ 512 → wsum L ≤ 512 := fun h => by
    cases L with
    | nil => decide
    | cons x t => rw [show joinP (x :: t) = joinL (x :: t) from rfl, joinL_len] at h; exact h
  have HSp : Hid (Good L → (joinP L).length ≤ 512 → ∀ W, Calls Tryd.prog 10 #[.string (BA (joinP L))] W fun e w' => ∃ a n c, e = .returned (.tuple #[.slice a n c, .int .i64 0]) ∧ Row w' (.slice a n c) (TS (L.map BA)) ∧ Same W w') := hidden (fun g h5 W => (split_any (BA (joinP L)) (by rw [BA_size]; omega) W).mono fun e w' ⟨u, he, ⟨v, hu, ho⟩, k⟩ => by
    obtain ⟨g1, g2⟩ := split_back g (hwj h5)
    rw [BA_data, g1] at hu
    have hL2 : splL (joinP L) = L := by unfold splL; rw [if_pos g1, g2]
    rw [BA_data, hL2] at ho
    have hr := ho.row
    obtain ⟨a, n, c, rfl⟩ := hr.any
    exact ⟨a, n, c, by rw [he, hu], hr, k⟩)
  have HR := hidden r
  obtain ⟨s, hs⟩ : ∃ s, s = BA (joinP L) := ⟨_, rfl⟩
  have hsz : s.size = (joinP L).length := by rw [hs, BA_size]
  obtain ⟨d, hd⟩ : ∃ d, d = (joinP L).length := ⟨_, rfl⟩
  rw [← hs] at HJ HJD HSp
  rw [← hd] at hsz hjl HSp
  have hsi : (s.size : Int) = (d : Int) := by omega
  have hd2 : d ≤ 1048577 := by omega
  have hn2 : n ≤ 1048576 := by omega
  have q : (s.toList == s.toList) = true := by simp
  have HE1 := hidden e1
  have HB := hidden hb
  clear r hs hd hsz hjl hwj hb hnl e1
  go_enter Tryd.func6, Tryd.ntmps6
  go_wp2_with (first
    | (go_at_call 14; refine (HA.out _).mono ?_; rintro e w1 ⟨rfl, k1⟩; have K1 := hidden k1; clear k1)
    | (go_at_call 21; refine (HJ.out _ K1.out).mono ?_; rintro e w2 ⟨rfl, k2⟩; have K2 := hidden (K1.out.trans k2); clear k2)
    | (go_at_call 22; refine (HJD.out _ K2.out).mono ?_; rintro e w3 ⟨rfl, rfl⟩))
  go_loop [18] (fun i => ∃ k : Nat, k ≤ n ∧ i = .int .i64 k ∧ ∀ x ∈ L.take k, nameE x = 0) (fun i => n - (intOf i).toNat)
  case atStart => exact ⟨0, Nat.zero_le _, rfl, by simp⟩
  case round =>
    obtain ⟨k, hk, rfl, hg⟩ := hrel
    have HG := hidden hg
    clear hg
    by_cases h1 : k < n
    · have hkl : k < L.length := by rw [HE1.out]; exact h1
      obtain ⟨bk, off, rfl, hc⟩ := (HR.out.same K2.out).text (j := k) (by rw [List.length_map]; exact hkl)
      rw [List.getElem_map] at hc
      have HX := hidden (show L.take (k + 1) = L.take k ++ [L[k]] from List.take_succ_eq_append_getElem hkl)
      obtain ⟨x, hx⟩ : ∃ x, L[k] = x := ⟨_, rfl⟩
      rw [hx] at hc HX
      have hxb : x.length ≤ 1048576 := by
        have h5 : wsum L = wsum (L.take k) + wsum (L.drop k) := by rw [← wsum_app, List.take_append_drop]
        rw [List.drop_eq_getElem_cons hkl, hx] at h5
        have := HB.out
        simp [wsum] at h5 this
        omega
      have HN := hidden (fun W => nameD_any (BA x) (by rw [BA_size]; omega) W)
      have HN2 : Hid (∀ W, Calls Tryd.prog 19 #[.string (BA x)] W fun e w' => e = .returned (.int .i64 (nameE x)) ∧ W = w') := hidden (fun W => by have := HN.out W; rw [BA_data] at this; exact this)
      obtain ⟨z, hz⟩ : ∃ z, z = nameE x := ⟨_, rfl⟩
      rw [← hz] at HN2
      have HZ := hidden hz
      generalize BA x = y at hc HN2
      have q2 : (k : Int) < (n : Int) := by omega
      have q3 : (0 : Int) ≤ (k : Int) := Int.natCast_nonneg _
      clear hx hz HN hxb
      by_cases h2 : z = 0
      · subst h2
        go_wp2_with (go_at_call 19; refine (HN2.out _).mono ?_; rintro e w4 ⟨rfl, rfl⟩)
        refine ⟨⟨k + 1, by omega, by go_num, fun u hu => ?_⟩, by simp [intOf]; omega⟩
        rw [HX.out] at hu
        rcases List.mem_append.1 hu with h | h
        · exact HG.out u h
        · simp at h
          rw [h]
          exact HZ.out.symm
      · go_wp2_with (go_at_call 19; refine (HN2.out _).mono ?_; rintro e w4 ⟨rfl, rfl⟩)
        go_returns
        exact ⟨rfl, K2.out⟩
    · obtain rfl : k = n := by omega
      have q2 : ¬ (k : Int) < (k : Int) := by omega
      have hgood : Good L := ⟨fun x hx => by
        have h := HG.out x (by rw [List.take_of_length_le (by rw [HE1.out]; exact Nat.le_refl _)]; exact hx)
        exact name_good h⟩
      by_cases h3 : 512 < d
      · have q4 : (512 : Int) < (d : Int) := by omega
        go_wp2
        go_returns
        exact ⟨rfl, K2.out⟩
      · have q4 : ¬ (512 : Int) < (d : Int) := by omega
        have HS2 := hidden (HSp.out hgood (by omega))
        clear hgood
        go_wp2_with (first
          | (go_at_call 10; refine (HS2.out _).mono ?_; rintro e w5 ⟨a5, n5, c5, rfl, r5, k5⟩; have R5 := hidden r5; have K5 := hidden k5; clear r5 k5)
          | (go_at_call 15; refine (same_eq (L.map BA) _ _ _ _ _ _ _ R5.out (HR.out.same (K2.out.trans K5.out)) (by rw [List.length_map, HE1.out]; omega)).mono ?_; rintro e w6 ⟨rfl, k6⟩; have K6 := hidden k6; clear k6))
        go_returns
        exact ⟨rfl, K2.out.trans (K5.out.trans K6.out)⟩
end Go.Proofs.YtabpjegigpmfmaaDoor
namespace Go.Proofs.YtabpjegigpmfmaaDoor.PathJoins
open Go.ChangeShapes Go.WideShapes Go.ChangeAt Go.RowKit Go.Joins Go.ChangeMaps
set_option maxRecDepth 100000 in
theorem contract (H : Type) (enc : TypeId × Value → H) (W : World) (base : Nat) (args : Array Value) (ds gs : List (DataW H)) (before : List MemPlace)
    (hval : ∀ (j : Nat) t v, Tryd.f6.params[j]? = some t → args[j]? = some v → Value.okWide Tryd.prog W .any base t v)
    (hW : DataW.Whole enc Tryd.prog Tryd.f6.params.toList Rows.pathJoinsSpec.vars false W args.toList ds gs before)
    (hsz : (DataW.weightsEach Tryd.prog (Tryd.f6.params.toList ++ (OpenSpec.ofChange Rows.pathJoinsSpec).bare.plain.varTypes Tryd.prog) (ds ++ gs)).all (· ≤ reachBytes) = true)
    (hk : Rows.uptoSmall H (ds ++ gs) = true)
    (_hL : laidMetH Tryd.prog Rows.pathJoinsUptoRow.laid W) :
    Calls Tryd.prog 6 args W fun e W' => ∃ v, e = .returned v ∧ Rows.pathJoinsSpec.post enc Tryd.prog Tryd.f6 false true false false W args v W' := by
  have hW' := hW
  obtain ⟨p, q, hA0, hV, rfl, hfz, hnd⟩ := hW
  have hA : DataW.TrodAll enc Tryd.prog W 0 (fun _ => true) true Tryd.f6.params.toList args.toList ds p := hA0
  rw [Tryd.params6] at hA hval hsz
  obtain ⟨v0, vs0, d0, ds0, p0, q0, hargs, rfl, rfl, h0, r0⟩ := trodAll_cons hA
  obtain ⟨rfl, rfl, rfl⟩ := trodAll_nil r0
  obtain rfl : args = #[v0] := by cases args; simp_all
  obtain ⟨rfl, rfl⟩ := trodVars_none hV
  obtain ⟨a_l, n_l, c_l, l_l, rfl, r_l, bk_l⟩ := texts_openU (hval 0 22 v0 rfl rfl) h0
  have hbk : bsum l_l ≤ 1048576 := by
    have h9 := of_decide_eq_true hk
    simp only [List.append_nil, Rows.uptoBulkAll] at h9
    omega
  refine (joins_walk a_l n_l c_l l_l W r_l hbk).mono fun e W' ⟨he, hg⟩ => ?_
  subst he
  exact ⟨_, rfl, law_post laidOut (by rw [Tryd.params6]; decide +kernel) rfl hW' rfl Tryd.underlying4 ⟨rfl, rfl, rfl⟩ (hg.below (Nat.le_refl _) fun _ h => h.elim)⟩
set_option maxRecDepth 100000 in
theorem lifted (os : Os) (started : os.Started) (H : Type) (enc : TypeId × Value → H) (F : Stop.Interp) :
    ReturnsInHanded {} Tryd.checked os 6 .any ((Rows.OpenSpec.upto Rows.pathJoinsSpec).preRow enc Tryd.prog Tryd.f6 Rows.pathJoinsUptoRow.domain false Rows.pathJoinsUptoRow.laid) (((Rows.OpenSpec.upto Rows.pathJoinsSpec).at F).post enc Tryd.prog Tryd.f6 false true false false) := by
  refine returnsInHanded_of_row (C := Tryd.checked) (s := Rows.OpenSpec.upto Rows.pathJoinsSpec) own started (by kernel_rfl) Tryd.func6
    (witness_row_at (enc := enc) (C := Tryd.checked) false (tabWorld (World.holding Tryd.prog os ⟨#[], #[], []⟩)) #[.slice none 0 0] rfl (by kernel_rfl) (by kernel_rfl) (by kernel_rfl)
      (OpenSpec.preRow_of_cond (x := ([.nil], [], [])) 8 (by kernel_rfl) (by kernel_rfl) (fun k hk => by cases hk; kernel_rfl) (by kernel_rfl) (laidMet_of_run' 8 (by kernel_rfl) (by kernel_rfl)))) ?_
  intro W base args ds gs before hval hW _ hcond hsz hL _ _
  exact contract H enc W base args ds gs before hval hW hsz (hcond _ rfl) hL
theorem said : Rows.PathJoinsUptoSaid :=
  OpenClaim.holds_of_cond 6 Tryd.f6 rfl rfl rfl rfl rfl rfl rfl ⟨rfl, rfl, rfl, rfl, rfl⟩ rfl rfl rfl rfl rfl (by kernel_rfl) Tryd.func6 (by kernel_rfl)
    (of_decide_eq_true (by kernel_rfl)) (by unfold Func.isWrapper; first | (rw [if_pos (by decide +kernel)]; kernel_rfl) | (rw [if_neg (by decide +kernel)]; exact ⟨rfl, rfl⟩))
    (fun os started H enc _ F => by rw [OpenClaim.pre_eq_preRow]; exact lifted os started H enc F)
theorem plain (f : FuncId) (fn : Func) (hf : Tryd.pinned.checked.prog.funcNamed Rows.pathJoinsUptoRow.func = some f) (hfn : Tryd.pinned.checked.prog.funcs[f]? = some fn) :
    false = Tryd.pinned.checked.prog.looks [] ∧ ∀ (j : Nat) t, fn.params[j]? = some t → Tryd.pinned.checked.prog.wantsStandIn t = false := by
  obtain rfl : f = 6 := Option.some.inj ((show Tryd.prog.funcNamed Rows.pathJoinsUptoRow.func = some 6 by kernel_rfl).symm.trans hf) |>.symm
  obtain rfl : fn = Tryd.f6 := (Option.some.inj (Tryd.func6.symm.trans hfn)).symm
  refine ⟨by kernel_rfl, fun j t ht => ?_⟩
  rw [Tryd.params6] at ht
  have hm : t ∈ [22] := by simpa using Array.mem_of_getElem? ht
  have hall : [22].all (fun t => !Tryd.prog.wantsStandIn t) = true := by kernel_rfl
  have h1 := List.all_eq_true.1 hall t hm
  have h2 : Tryd.prog.wantsStandIn t = false := by simpa using h1
  exact h2
theorem card : Rows.PathJoinsUptoCardSaid :=
  Claim7.holds_tied_plain_at .later [] _ _ _ _ said (fun _ h => by cases h) (by kernel_rfl) (fun _ h => by cases h) pathJoinsUpto_row_tie rfl ⟨rfl, rfl⟩ (by kernel_rfl) rfl plain (by kernel_rfl)
end Go.Proofs.YtabpjegigpmfmaaDoor.PathJoins
namespace Go.Proofs.YtabpjegigpmfmaaDoor
theorem pathJoinsUpto_card : Rows.PathJoinsUptoCardSaid := PathJoins.card
end Go.Proofs.YtabpjegigpmfmaaDoor
