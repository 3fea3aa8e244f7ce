/-
  ShaSums (P1.1): whatever the bytes: Sum tells what the document's tells, and they stay as they were: the law's call returns true and leaves its argument as it was.
  Condition: the table roundWords holds what the program's text lays (the card ties it).
-/
import Derived.Test.YtbankcgkbiflhaaDoorSK
import Derived.Test.YtbankcgkbiflhaaDoorShQ
import Derived.Test.YtbankcgkbiflhaaDoorSD
namespace Go.Proofs.YtbankcgkbiflhaaDoor
open Go.RowKit
set_option linter.unusedVariables false

set_option maxHeartbeats 1000000 in
set_option maxRecDepth 100000 in
theorem same_eq (v u : Value) (l : List UInt8) (w : World) (hv : Byt w v l) (hu : Byt w u l) (hl : l.length ≤ 140737488355328) : Calls Tryd.prog 13 #[v, u] w fun e w' => e = .returned (.bool true) ∧ Same w w' := by
  obtain ⟨va, vc, rfl, hv1, hv0, hvb⟩ := hv
  obtain ⟨ua, uc, rfl, hu1, hu0, hub⟩ := hu
  have HV := hidden hvb
  have HU := hidden hub
  clear hvb hub hv0 hu0
  go_enter Tryd.func13, Tryd.ntmps13
  go_wp2
  go_loopw [5] (fun x wr => ∃ k : Nat, k ≤ l.length ∧ x = .int .i64 k ∧ Same w wr) (fun x _ => l.length - (intOf x).toNat)
  case atStart => exact ⟨0, by omega, rfl, Kept.refl _ _⟩
  case round =>
    obtain ⟨k, hk, rfl, hS⟩ := hrel
    have HS := hidden hS
    by_cases hlt : k < l.length
    · obtain ⟨b1, o1, rfl, h1⟩ := HV.out (by omega)
      obtain ⟨b2, o2, rfl, h2⟩ := HU.out (by omega)
      have c1 : wr.cell? ⟨b1, o1 + k, none⟩ = some (U8 l[k]) := Kept.cell hS (p := ⟨b1, o1 + k, none⟩) (fun h => h) (h1 k _ (List.getElem?_eq_getElem hlt))
      have c2 : wr.cell? ⟨b2, o2 + k, none⟩ = some (U8 l[k]) := Kept.cell hS (p := ⟨b2, o2 + k, none⟩) (fun h => h) (h2 k _ (List.getElem?_eq_getElem hlt))
      generalize l[k] = x at *
      unfold U8 at c1 c2
      have k1 : (k : Int) < (l.length : Int) := by omega
      have e1 : IntKind.i64.wrap (k : Int) = (k : Int) := by rw [IntKind.wrap_i64]; omega
      clear h1 h2 hS HV HU
      go_wp2
      go_quiet (fail)
      go_wp2
      go_roundw
      case rel => exact ⟨k + 1, by omega, by go_num, HS.out.drewN _⟩
      case measure => simp [intOf]; omega
    · have k1 : ¬ (k : Int) < (l.length : Int) := by omega
      clear hS
      go_wp2
      go_returns
      exact ⟨rfl, HS.out⟩
theorem own_byt {w : World} {base : Nat} {a : Option Addr} {cap : Nat} {l : List UInt8} (h : w.ownsRow base 5 1 (.slice a l.length cap) l.length (l.map U8)) : Byt w (.slice a l.length cap) l ∧ cap ≤ 9223372036854775807 := by
  have hr := own_room h
  rcases h.2 with ⟨hv, hn⟩ | ⟨g, cap', cur, hv, hb, hh, hc, hm, hz, ht⟩
  · simp only [Value.slice.injEq] at hv
    obtain ⟨rfl, _, rfl⟩ := hv
    exact ⟨⟨none, 0, rfl, by omega, fun _ => rfl, fun hp => by omega⟩, by omega⟩
  · simp only [Value.slice.injEq] at hv
    obtain ⟨rfl, _, rfl⟩ := hv
    refine ⟨⟨_, _, rfl, hr, (fun e => by cases e), fun hp => ⟨g, 0, rfl, fun j x hx => ?_⟩⟩, hm⟩
    obtain ⟨b, hb', _, _, _, hcl⟩ := own_at h hp
    simp only [Option.some.injEq, Addr.mk.injEq] at hb'
    obtain ⟨rfl, _⟩ := hb'
    rw [Nat.zero_add]
    exact hcl j x hx
set_option maxHeartbeats 4000000 in
set_option maxRecDepth 100000 in
theorem ssums_walk (v : Value) (l : List UInt8) (w : World) (hb : Byt w v l) (hl : l.length ≤ 140737488351232) (hc : ∀ a n c, v = .slice a n c → c ≤ 140737488351232) (hT : Tab w) :
    Calls Tryd.prog 3 #[v] w fun e w' => e = .returned (.bool true) ∧ Same w w' := by
  obtain ⟨i0, hi, hz0, hz1, hz2⟩ := info_parts info5
  have HT := hidden hT
  have HBy := hidden hb
  have heq := fun W => sum_eqIn (shaL l) (out_len _) W
  obtain ⟨va, vc, rfl, hvc, hv0, hvb⟩ := hb
  have HLies : Hid (∀ W, Same w W → Lies W va l.length (l.map U8)) := hidden (fun W k hp => by
    obtain ⟨b, off, rfl, hcc⟩ := hvb hp
    refine ⟨_, rfl, fun j u hu => ?_⟩
    rw [List.getElem?_map, Option.map_eq_some_iff] at hu
    obtain ⟨x, hx, rfl⟩ := hu
    rw [Addr.add_mid]
    exact k.cell (p := ⟨b, off + j, none⟩) (fun h => h) (hcc j x hx))
  have H1c : Hid (∀ u ∈ l.map U8, u.oneCell' = true) := hidden (fun u hu => by obtain ⟨b, _, rfl⟩ := List.mem_map.1 hu; exact U8_one b)
  obtain ⟨r, hr⟩ : ∃ r, w.heap.size = r := ⟨_, rfl⟩
  have HOw : Hid ((w.alloc (.cells #[] 5)).ownsRow r 5 1 (.slice (some ⟨r, 0, none⟩) 0 0) 0 (([] : List UInt8).map U8)) := hidden (by
    have := World.ownsRow_made (base := r) (e := 5) (size := 1) w #[] 0 (by omega) (by decide) rfl
    simpa [hr] using this)
  have HSm := hidden (fun a c W (h : Byt W (.slice a l.length c) l) t (hc : c ≤ 9223372036854775807) => shaSum_any _ l W h t (by omega) (fun a' n' c' e => by injection e with _ _ e; omega))
  have HSd := hidden (fun W h => sumD_any (.slice va l.length vc) l W h (by omega))
  have HSe := hidden (fun a c W h1 h2 => same_eq (.slice a l.length c) (.slice va l.length vc) l W h1 h2 (by omega))
  generalize ((shaL l).map U8).toArray = S at *
  clear hT hvb hv0 hc
  go_enter Tryd.func3, Tryd.ntmps3
  go_wp2_with (first
    | (refine wpList_append_any rfl _ _ 22 rfl r 5 i0 (.int .u8 0) 1 1 Tryd.underlying22 hi hz0 hz1 hz2 rfl (by decide) _ 0 0 _ rfl HOw.out va l.length vc (l.map U8) rfl (by rw [List.length_map, Nat.mul_one]) (HLies.out _ (same_alloc _ _)) H1c.out (by unfold maxLen; omega) (by omega) (by simp; omega) ?_; intro a1 c1 w1 ho1 hg1; rw [Nat.zero_add, List.map_nil, List.nil_append] at ho1; have HS1 := hidden ((same_alloc w (.cells #[] 5)).grown hg1 (fun k hk hl => by simp [Value.ownBlock] at hk; omega)); have HB1 := hidden (own_byt ho1); clear ho1 hg1)
    | (go_at_call 10; refine (lives_any _ (HT.out.same HS1.out)).mono ?_; rintro e w2 ⟨rfl, k2⟩; have HS2 := hidden (Kept.trans HS1.out k2); have HB2 := hidden (HB1.out.1.same k2); clear k2)
    | (go_at_call 11; refine (HSm.out _ _ _ HB2.out (HT.out.same HS2.out) HB1.out.2).mono ?_; rintro e w3 ⟨rfl, k3⟩; have HS3 := hidden (Kept.trans HS2.out k3); have HB3 := hidden (HB2.out.same k3); clear k3)
    | (go_at_call 12; refine (HSd.out _ (HBy.out.same HS3.out)).mono ?_; rintro e w4 ⟨rfl, k4⟩; have HS4 := hidden (Kept.trans HS3.out k4); have HB4 := hidden (HB3.out.same k4); clear k4)
    | (go_at_call 13; refine (HSe.out _ _ _ HB4.out (HBy.out.same HS4.out)).mono ?_; rintro e w5 ⟨rfl, k5⟩))
  go_returns
  exact ⟨rfl, Kept.trans HS4.out k5⟩
end Go.Proofs.YtbankcgkbiflhaaDoor
namespace Go.Proofs.YtbankcgkbiflhaaDoor.ShaSums
open Go.ChangeShapes Go.WideShapes Go.ChangeAt Go.RowKit Go.Joins Go.ChangeMaps
set_option maxRecDepth 100000 in
theorem contract (H : Type) (enc : TypeId × Value → H) (W : World) (base : Nat) (args : Array Value) (ds gs : List (DataW H)) (before : List MemPlace)
    (hval : ∀ (j : Nat) t v, Tryd.f3.params[j]? = some t → args[j]? = some v → Value.okWide Tryd.prog W .any base t v)
    (hW : DataW.Whole enc Tryd.prog Tryd.f3.params.toList Rows.shaSumsSpec.vars false W args.toList ds gs before)
    (hsz : (DataW.weightsEach Tryd.prog (Tryd.f3.params.toList ++ (OpenSpec.ofChange Rows.shaSumsSpec).bare.plain.varTypes Tryd.prog) (ds ++ gs)).all (· ≤ reachBytes) = true)
    (hL : laidMetH Tryd.prog Rows.shaSumsRow.laid W) :
    Calls Tryd.prog 3 args W fun e W' => ∃ v, e = .returned v ∧ Rows.shaSumsSpec.post enc Tryd.prog Tryd.f3 false true false false W args v W' := by
  have hW' := hW
  obtain ⟨p, q, hA0, hV, rfl, hfz, hnd⟩ := hW
  have hA : DataW.TrodAll enc Tryd.prog W 0 (fun _ => true) true Tryd.f3.params.toList args.toList ds p := hA0
  rw [Tryd.params3] at hA hval hsz
  obtain ⟨v0, vs0, d0, ds0, p0, q0, hargs, rfl, rfl, h0, r0⟩ := trodAll_cons hA
  obtain ⟨rfl, rfl, rfl⟩ := trodAll_nil r0
  obtain rfl : args = #[v0] := by cases args; simp_all
  obtain ⟨rfl, rfl⟩ := trodVars_none hV
  obtain ⟨l_b, in_b, sz_b⟩ := bytes_open (hval 0 22 v0 rfl rfl) h0
  refine (ssums_walk v0 l_b W in_b (sz_b _ _ 0 hsz rfl rfl).1 (sz_b _ _ 0 hsz rfl rfl).2 (tab_laid hL)).mono fun e W' ⟨he, hg⟩ => ?_
  subst he
  exact ⟨_, rfl, law_post laidOut (by rw [Tryd.params3]; decide +kernel) rfl hW' rfl Tryd.underlying4 ⟨rfl, rfl, rfl⟩ (hg.below (Nat.le_refl _) fun _ h => h.elim)⟩
set_option maxRecDepth 100000 in
theorem lifted (os : Os) (started : os.Started) (H : Type) (enc : TypeId × Value → H) (F : Stop.Interp) :
    ReturnsInHanded {} Tryd.checked os 3 .any ((OpenSpec.ofChange Rows.shaSumsSpec).preRow enc Tryd.prog Tryd.f3 Rows.shaSumsRow.domain false Rows.shaSumsRow.laid) (((OpenSpec.ofChange Rows.shaSumsSpec).at F).post enc Tryd.prog Tryd.f3 false true false false) := by
  refine returnsInHanded_of_row (C := Tryd.checked) (s := OpenSpec.ofChange Rows.shaSumsSpec) own started (by kernel_rfl) Tryd.func3
    (witness_row_at (enc := enc) (C := Tryd.checked) false ({ World.holding Tryd.prog os ⟨#[], #[], []⟩ with heap := (World.holding Tryd.prog os ⟨#[], #[], []⟩).heap.modify tabBlock fun | .cells _ t frozen => .cells (tabInts.map (Value.int .u32)).toArray t frozen | o => o }) #[.slice none 0 0] rfl (by kernel_rfl) (by kernel_rfl) (by kernel_rfl)
      (OpenSpec.preRow_of_cond (x := ([.nil], [], [])) 8 (by kernel_rfl) (by kernel_rfl) (fun k hk => by cases hk) (by kernel_rfl) (laidMet_of_run' 8 (by kernel_rfl) (by kernel_rfl)))) ?_
  intro W base args ds gs before hval hW _ _ hsz hL _ _
  exact contract H enc W base args ds gs before hval hW hsz hL
theorem said : Rows.ShaSumsSaid :=
  OpenClaim.holds_of_cond 3 Tryd.f3 rfl rfl rfl rfl rfl rfl rfl ⟨rfl, rfl, rfl, rfl, rfl⟩ rfl rfl rfl rfl rfl (by kernel_rfl) Tryd.func3 (by kernel_rfl)
    (of_decide_eq_true (by kernel_rfl)) (by unfold Func.isWrapper; first | (rw [if_pos (by decide +kernel)]; kernel_rfl) | (rw [if_neg (by decide +kernel)]; exact ⟨rfl, rfl⟩))
    (fun os started H enc _ F => by rw [OpenClaim.pre_eq_preRow]; exact lifted os started H enc F)
theorem plain (f : FuncId) (fn : Func) (hf : Tryd.pinned.checked.prog.funcNamed Rows.shaSumsRow.func = some f) (hfn : Tryd.pinned.checked.prog.funcs[f]? = some fn) :
    false = Tryd.pinned.checked.prog.looks [] ∧ ∀ (j : Nat) t, fn.params[j]? = some t → Tryd.pinned.checked.prog.wantsStandIn t = false := by
  obtain rfl : f = 3 := Option.some.inj ((show Tryd.prog.funcNamed Rows.shaSumsRow.func = some 3 by kernel_rfl).symm.trans hf) |>.symm
  obtain rfl : fn = Tryd.f3 := (Option.some.inj (Tryd.func3.symm.trans hfn)).symm
  refine ⟨by kernel_rfl, fun j t ht => ?_⟩
  rw [Tryd.params3] at ht
  have hm : t ∈ [22] := by simpa using Array.mem_of_getElem? ht
  have hall : [22].all (fun t => !Tryd.prog.wantsStandIn t) = true := by kernel_rfl
  have h1 := List.all_eq_true.1 hall t hm
  have h2 : Tryd.prog.wantsStandIn t = false := by simpa using h1
  exact h2
theorem card : Rows.ShaSumsCardSaid :=
  Claim7.holds_tied_plain_at .later [] _ _ _ _ said (fun _ h => by cases h) (by kernel_rfl) (fun _ h => by cases h) shaSums_row_tie rfl ⟨rfl, rfl⟩ (by kernel_rfl) rfl plain (by kernel_rfl)
end Go.Proofs.YtbankcgkbiflhaaDoor.ShaSums
namespace Go.Proofs.YtbankcgkbiflhaaDoor
theorem shaSums_card : Rows.ShaSumsCardSaid := ShaSums.card
end Go.Proofs.YtbankcgkbiflhaaDoor
