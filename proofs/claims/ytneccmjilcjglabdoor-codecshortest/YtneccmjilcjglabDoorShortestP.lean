/-
  CodecShortest (P2.7): of any two numbers the lower one's varint is not longer than the other's and none has more than ten bytes; a varint is read back, whatever text is behind it, and tells ErrShort where its last byte is cut off: the law's call returns true and leaves its arguments as they were.
  Condition: the table crcSteps holds what the program's text lays (the card ties it).
-/
import Derived.Test.YtneccmjilcjglabDoorCTab
import Derived.Test.YtneccmjilcjglabDoorVarP
import Derived.Test.YtneccmjilcjglabDoorSplitP
namespace Go.Proofs.YtneccmjilcjglabDoor
open Go.RowKit
set_option linter.unusedVariables false

/-- A Writer behind a write to another one. -/
theorem WS.other {B B' g g' : Nat} {most : Int} {st : List UInt8 × Bool} {w w' : World} {cs : Array Value} (h : WS B g most st w) (hk : Kept (wrS B' g') w w') (hne : g ≠ g') (hB : w.heap.size ≤ B') (hb : w.heap[g']? = some (.cells cs 77 (0, 0))) : WS B g most st w' := by
  obtain ⟨v, hv, ho⟩ := h
  have hlt := hv.lt
  refine ⟨v, hv.kept hk (by rintro (h | h) <;> omega) ?_, ho⟩
  rintro k hk' (h | h)
  · exact own_apart hv.own hb (by decide) (by rw [hk', h])
  · have := (hv.own.lt k hk').2
    omega
/-- A Writer to which nothing was written. -/
abbrev newObj : Obj := .cells #[.int .i64 20, .slice none 0 0, .bool false] 77 (0, 0)
theorem WS.fresh {g B : Nat} {w : World} (h : w.heap[g]? = some newObj) (hB : B ≤ w.heap.size) : WS B g 20 ([], false) w :=
  ⟨_, ⟨h, World.ownsRow_nil _ _ _ _, hB, by decide, by decide, by simp⟩, fun h => by cases h⟩
theorem new20 (w : World) : Calls Tryd.prog 14 #[.int .i64 20] w fun e w' => e = .returned (.pointer (some ⟨w.heap.size, 0, none⟩)) ∧ w'.heap[w.heap.size]? = some newObj ∧ Same w w' ∧ w'.heap.size = w.heap.size + 1 := by
  refine (newWriter 20 w (by decide) (by decide)).mono ?_
  rintro e w' ⟨rfl, rfl⟩
  exact ⟨rfl, heap_alloc_new _ _, (Kept.refl _ _).alloc _, by simp⟩
theorem put20 {B g : Nat} {w : World} (n : Nat) (h : WS B g 20 ([], false) w) (hn : n < 18446744073709551616) : Calls Tryd.prog 31 #[.pointer (some ⟨g, 0, none⟩), .int .u64 n] w fun e w' => e = .returned (.tuple #[]) ∧ WS B g 20 (vbytes n, false) w' ∧ Kept (wrS B g) w w' := by
  have hm := vbytes_most n
  have k := wVar h n hn (by simp; omega)
  have e : wput 20 ([], false) (vbytes n) = (vbytes n, false) := by
    unfold wput
    rw [if_pos (by simp [wOk]; omega)]
    rfl
  rw [e] at k
  exact k
theorem done20 {B g : Nat} {w : World} {l : List UInt8} (h : WS B g 20 (l, false) w) : Calls Tryd.prog 18 #[.pointer (some ⟨g, 0, none⟩)] w fun e w' => e = .returned (.tuple #[.string ⟨l.toArray⟩, .int .i64 0]) ∧ w = w' := wDone h
theorem list_ba (l : List UInt8) : (⟨l.toArray⟩ : ByteArray).data.toList = l := by simp
theorem size_ba (l : List UInt8) : (⟨l.toArray⟩ : ByteArray).size = l.length := by rw [← size_list, list_ba]
theorem list_append (a b : ByteArray) : (a ++ b).data.toList = a.data.toList ++ b.data.toList := by simp
set_option maxHeartbeats 4000000 in
set_option maxRecDepth 100000 in
theorem shortest_core (a b lo hi : Nat) (behind : ByteArray) (w : World) (hlh : lo ≤ hi) (hhi : hi < 18446744073709551616) (hs : behind.size ≤ 140737488351232) (hT : Tab w)
    (hab : a ≤ b ∧ lo = a ∧ hi = b ∨ b < a ∧ lo = b ∧ hi = a) :
    Calls Tryd.prog 7 #[.int .u64 a, .int .u64 b, .string behind] w fun e w' => e = .returned (.bool true) ∧ Same w w' := by
  have m1 := vbytes_mono lo hi hlh
  have m2 := vbytes_most hi
  have m3 : 1 ≤ (vbytes lo).length := vb_pos 9 lo
  have p1 := fun B g w h => put20 (B := B) (g := g) (w := w) lo h (by omega)
  have p2 := fun B g w h => put20 (B := B) (g := g) (w := w) hi h hhi
  have hfull : ∀ g w, Rd g ((⟨(vbytes hi).toArray⟩ : ByteArray) ++ behind, 0) w → Calls Tryd.prog 26 #[.pointer (some ⟨g, 0, none⟩)] w fun x w' => x = .returned (.int .u64 (hi : Nat)) ∧ Rd g (((⟨(vbytes hi).toArray⟩ : ByteArray) ++ behind).extract (vbytes hi).length ((⟨(vbytes hi).toArray⟩ : ByteArray) ++ behind).size, 0) w' ∧ Kept (only g) w w' := by
    intro g w h
    have k := rVar h
    have hl : ((⟨(vbytes hi).toArray⟩ : ByteArray) ++ behind).data.toList = vbytes hi ++ behind.data.toList := by rw [list_append, list_ba]
    have hsz : (vbytes hi).length ≤ ((⟨(vbytes hi).toArray⟩ : ByteArray) ++ behind).size := by rw [← size_list, hl, List.length_append]; omega
    have e : rvar ((⟨(vbytes hi).toArray⟩ : ByteArray) ++ behind, 0) = (hi, (((⟨(vbytes hi).toArray⟩ : ByteArray) ++ behind).extract (vbytes hi).length ((⟨(vbytes hi).toArray⟩ : ByteArray) ++ behind).size, 0)) := by
      unfold rvar
      rw [if_pos rfl, hl, fv_vbytes hi _ hhi]
      simp only [if_pos]
      unfold rtake
      rw [if_pos rfl, if_neg (by simp only; omega)]
    rw [e] at k
    exact k
  have hcut : ∀ g w, Rd g ((⟨(vbytes hi).toArray⟩ : ByteArray).extract 0 ((vbytes hi).length - 1), 0) w → Calls Tryd.prog 26 #[.pointer (some ⟨g, 0, none⟩)] w fun x w' => x = .returned (.int .u64 0) ∧ Rd g (⟨#[]⟩, 20) w' ∧ Kept (only g) w w' := by
    intro g w h
    have k := rVar h
    have hl : ((⟨(vbytes hi).toArray⟩ : ByteArray).extract 0 ((vbytes hi).length - 1)).data.toList = (vbytes hi).dropLast := by
      rw [Lib.extract_data, list_ba, List.dropLast_eq_take]
      simp
    have e : rvar ((⟨(vbytes hi).toArray⟩ : ByteArray).extract 0 ((vbytes hi).length - 1), 0) = (0, (⟨#[]⟩, 20)) := by
      unfold rvar
      rw [if_pos rfl, hl, fv_vbytes_cut hi hhi]
      simp
    rw [e] at k
    exact k
  have hleft : (((⟨(vbytes hi).toArray⟩ : ByteArray) ++ behind).extract (vbytes hi).length ((⟨(vbytes hi).toArray⟩ : ByteArray) ++ behind).size).size = behind.size := by
    rw [extract_size, ← size_list (_ ++ _), list_append, list_ba, List.length_append, size_list]; omega
  have hz1 : ((⟨(vbytes hi).toArray⟩ : ByteArray) ++ behind).size ≤ 281474976710656 := by rw [← size_list, list_append, list_ba, List.length_append, size_list]; omega
  have hz2 : ((⟨(vbytes hi).toArray⟩ : ByteArray).extract 0 ((vbytes hi).length - 1)).size ≤ 281474976710656 := by rw [← size_list, Lib.extract_data, list_ba, List.length_take]; omega
  have sz1 : (⟨(vbytes lo).toArray⟩ : ByteArray).size = (vbytes lo).length := size_ba _
  have sz2 : (⟨(vbytes hi).toArray⟩ : ByteArray).size = (vbytes hi).length := size_ba _
  have d1 := fun B g w h => done20 (B := B) (g := g) (w := w) (l := vbytes lo) h
  have d2 := fun B g w h => done20 (B := B) (g := g) (w := w) (l := vbytes hi) h
  have HT := hidden hT
  have P1 := hidden p1
  have P2 := hidden p2
  have D1 := hidden d1
  have D2 := hidden d2
  have HF := hidden hfull
  have HC := hidden hcut
  have HL := hidden hleft
  have Z1 := hidden hz1
  have Z2 := hidden hz2
  clear hT p1 p2 hfull hcut hleft hz1 hz2 d1 d2
  generalize (⟨(vbytes lo).toArray⟩ : ByteArray) = S at *
  generalize (⟨(vbytes hi).toArray⟩ : ByteArray) = T at *
  generalize vbytes lo = V at *
  generalize vbytes hi = U at *
  rw [← sz1] at m1 m3
  rw [← sz2] at m1 m2 HC Z2 HF HL
  have hsum : T.size + behind.size ≤ 9223372036854775807 := by omega
  have hadd : ∀ W : World, (Op.stringOp .add T behind).run Tryd.prog W = .ok (.string (T ++ behind)) W := fun W => run_string_add_sum W T behind hsum
  generalize T ++ behind = J at *
  have hlf : (((J.size - T.size : Nat) : Int) != (behind.size : Int)) = false := by
    have h := HL.out
    rw [extract_size] at h
    rw [h]
    simp
  clear sz1 sz2 hsum
  rcases hab with ⟨h1, rfl, rfl⟩ | ⟨h1, rfl, rfl⟩
  all_goals
    go_enter Tryd.func7, Tryd.ntmps7
    go_wp2_with (first
      | (go_at_call 15; refine (awake_any _ HT.out).mono ?_; rintro e w0 ⟨rfl, k0⟩; have t1 : True := trivial)
      | (go_at_call 14; have _t := t1; refine (new20 _).mono ?_; rintro e w1 ⟨rfl, b1, k1, z1⟩; have B1 := hidden b1; have Y1 := hidden z1; clear t1 b1 z1)
      | (go_at_call 14; refine (new20 _).mono ?_; rintro e w2 ⟨rfl, b2, k2, z2⟩; have s1 := WS.fresh (blk_kept k2 (fun h => h) B1.out) (Nat.le_refl _); have B2 := hidden b2; have Y2 := hidden z2; clear b2 z2)
      | (go_at_call 31; refine (P1.out _ _ _ s1).mono ?_; rintro e w3 ⟨rfl, s3, k3⟩; have hg2 : w1.heap.size ≠ w0.heap.size := (by rw [Y1.out]; omega); have b3 := blk_kept k3 (g := w1.heap.size) (by rintro (h | h); exact hg2 h; rw [Y2.out] at h; omega) B2.out; have s2 := WS.fresh b3 (Nat.le_refl _); have B3 := hidden b3; clear s1 b3)
      | (go_at_call 31; refine (P2.out _ _ _ s2).mono ?_; rintro e w4 ⟨rfl, s4, k4⟩; have s3' := WS.other s3 k4 hg2.symm (Nat.le_refl _) B3.out; clear s2 s3 hg2)
      | (go_at_call 18; refine (D1.out _ _ _ s3').mono ?_; rintro e w5 ⟨rfl, rfl⟩; clear s3')
      | (go_at_call 18; refine (D2.out _ _ _ s4).mono ?_; rintro e w5 ⟨rfl, rfl⟩; clear s4; have t2 : True := trivial)
      | (go_at_call 20; have _t := t2; refine (newR J _ Z1.out).mono ?_; rintro e w5 ⟨rfl, r5, k5, z5⟩; clear t2 z5)
      | (go_at_call 20; refine (newR (T.extract 0 (T.size - 1)) _ Z2.out).mono ?_; rintro e w6 ⟨rfl, r6, k6, z6⟩; have r5' := r5.kept k6 (fun h => h); have N6 : Hid (w4.heap.size ≠ w5.heap.size) := hidden (by have := blk_lt r5.blk; omega); clear z6 r5; have t3 : True := trivial)
      | (go_at_call 26; have _t := t3; refine (HF.out _ _ r5').mono ?_; rintro e w7 ⟨rfl, r7, k7⟩; have r6' := r6.kept k7 (fun h => N6.out h.symm); clear t3 r5' r6)
      | (go_at_call 29; refine (rLeft r7).mono ?_; rintro e w8 ⟨rfl, rfl⟩)
      | (go_at_call 26; refine (HC.out _ _ r6').mono ?_; rintro e w8 ⟨rfl, r8, k8⟩; clear r6')
      | (go_at_call 32; refine (rErr r8).mono ?_; rintro e w9 ⟨rfl, rfl⟩))
    go_returns
    have q0 : w.heap.size ≤ w0.heap.size := k0.size
    have q1 : w0.heap.size ≤ w1.heap.size := k1.size
    have q2 : w1.heap.size ≤ w2.heap.size := k2.size
    have K2 : Same w w2 := Kept.trans (Kept.trans k0 k1) k2
    have K3 : Same w w3 := Same.wr K2 k3 (by omega) (by omega)
    have q3 : w.heap.size ≤ w3.heap.size := K3.size
    have K4 : Same w w4 := Same.wr K3 k4 (by omega) (by omega)
    have q4 : w.heap.size ≤ w4.heap.size := K4.size
    have K5 : Same w w5 := Kept.trans K4 k5
    have q5 : w.heap.size ≤ w5.heap.size := K5.size
    have K6 : Same w w6 := Kept.trans K5 k6
    exact ⟨rfl, Same.rd (Same.rd K6 k7 q4) k8 q5⟩
theorem shortest_walk (a b : Nat) (behind : ByteArray) (w : World) (ha : a < 18446744073709551616) (hb : b < 18446744073709551616) (hs : behind.size ≤ 140737488351232) (hT : Tab w) :
    Calls Tryd.prog 7 #[.int .u64 a, .int .u64 b, .string behind] w fun e w' => e = .returned (.bool true) ∧ Same w w' := by
  by_cases h : a ≤ b
  · exact shortest_core a b a b behind w h hb hs hT (Or.inl ⟨h, rfl, rfl⟩)
  · exact shortest_core a b b a behind w (by omega) ha hs hT (Or.inr ⟨by omega, rfl, rfl⟩)
end Go.Proofs.YtneccmjilcjglabDoor
namespace Go.Proofs.YtneccmjilcjglabDoor.CodecShortest
open Go.ChangeShapes Go.WideShapes Go.ChangeAt Go.RowKit Go.Joins Go.ChangeMaps
set_option maxRecDepth 100000 in
theorem contract (H : Type) (enc : TypeId × Value → H) (W : World) (base : Nat) (args : Array Value) (ds gs : List (DataW H)) (before : List MemPlace)
    (hval : ∀ (j : Nat) t v, Tryd.f7.params[j]? = some t → args[j]? = some v → Value.okWide Tryd.prog W .any base t v)
    (hW : DataW.Whole enc Tryd.prog Tryd.f7.params.toList Rows.codecShortestSpec.vars false W args.toList ds gs before)
    (hsz : (DataW.weightsEach Tryd.prog (Tryd.f7.params.toList ++ (OpenSpec.ofChange Rows.codecShortestSpec).bare.plain.varTypes Tryd.prog) (ds ++ gs)).all (· ≤ reachBytes) = true)
    (hL : laidMetH Tryd.prog Rows.codecShortestRow.laid W) :
    Calls Tryd.prog 7 args W fun e W' => ∃ v, e = .returned v ∧ Rows.codecShortestSpec.post enc Tryd.prog Tryd.f7 false true false false W args v W' := by
  have hW' := hW
  obtain ⟨p, q, hA0, hV, rfl, hfz, hnd⟩ := hW
  have hA : DataW.TrodAll enc Tryd.prog W 0 (fun _ => true) true Tryd.f7.params.toList args.toList ds p := hA0
  rw [Tryd.params7] at hA hval hsz
  obtain ⟨v0, vs0, d0, ds0, p0, q0, hargs, rfl, rfl, h0, r0⟩ := trodAll_cons hA
  obtain ⟨v1, vs1, d1, ds1, p1, q1, rfl, rfl, rfl, h1, r1⟩ := trodAll_cons r0
  obtain ⟨v2, vs2, d2, ds2, p2, q2, rfl, rfl, rfl, h2, r2⟩ := trodAll_cons r1
  obtain ⟨rfl, rfl, rfl⟩ := trodAll_nil r2
  obtain rfl : args = #[v0, v1, v2] := by cases args; simp_all
  obtain ⟨rfl, rfl⟩ := trodVars_none hV
  obtain ⟨a, rfl, rfl, rfl, w_a⟩ := open_int Tryd.underlying34 (hval 0 34 v0 rfl rfl) h0
  have b_a : 0 ≤ a ∧ a ≤ 18446744073709551615 := by simpa [Lit.wf, IntKind.min, IntKind.max, IntKind.signed, IntKind.bits] using w_a
  obtain ⟨a, rfl⟩ := Int.eq_ofNat_of_zero_le b_a.1
  obtain ⟨b, rfl, rfl, rfl, w_b⟩ := open_int Tryd.underlying34 (hval 1 34 v1 rfl rfl) h1
  have b_b : 0 ≤ b ∧ b ≤ 18446744073709551615 := by simpa [Lit.wf, IntKind.min, IntKind.max, IntKind.signed, IntKind.bits] using w_b
  obtain ⟨b, rfl⟩ := Int.eq_ofNat_of_zero_le b_b.1
  obtain ⟨behind, rfl, rfl, rfl, _⟩ := open_string Tryd.underlying9 (hval 2 9 v2 rfl rfl) h2
  have l_behind : behind.size ≤ 140737488351232 := by
    have h2 := sized_string hsz (j := 2) (t := 9) (bytes := behind.data.toList) rfl rfl
    rw [size_list] at h2
    unfold reachBytes at h2
    omega
  refine (shortest_walk a b behind W (show a < 18446744073709551616 by have := b_a.2; omega) (show b < 18446744073709551616 by have := b_b.2; omega) l_behind (tab_laid hL)).mono fun e W' ⟨he, hg⟩ => ?_
  subst he
  exact ⟨_, rfl, law_post laidOut (by rw [Tryd.params7]; decide +kernel) rfl hW' rfl Tryd.underlying4 ⟨rfl, rfl, rfl⟩ (hg.below (Nat.le_refl _) fun _ h => h.elim)⟩
set_option maxRecDepth 100000 in
theorem lifted (os : Os) (started : os.Started) (H : Type) (enc : TypeId × Value → H) (F : Stop.Interp) :
    ReturnsInHanded {} Tryd.checked os 7 .any ((OpenSpec.ofChange Rows.codecShortestSpec).preRow enc Tryd.prog Tryd.f7 Rows.codecShortestRow.domain false Rows.codecShortestRow.laid) (((OpenSpec.ofChange Rows.codecShortestSpec).at F).post enc Tryd.prog Tryd.f7 false true false false) := by
  refine returnsInHanded_of_row (C := Tryd.checked) (s := OpenSpec.ofChange Rows.codecShortestSpec) own started (by kernel_rfl) Tryd.func7
    (witness_row_at (enc := enc) (C := Tryd.checked) false ({ World.holding Tryd.prog os ⟨#[], #[], []⟩ with heap := (World.holding Tryd.prog os ⟨#[], #[], []⟩).heap.modify tabBlock fun | .cells _ t frozen => .cells (tabInts.map (Value.int .u32)).toArray t frozen | o => o }) #[.int .u64 0, .int .u64 0, .string ⟨#[]⟩] rfl (by kernel_rfl) (by kernel_rfl) (by kernel_rfl)
      (OpenSpec.preRow_of_cond (x := ([.lit (.int .u64 0), .lit (.int .u64 0), .lit (.string [])], [], [])) 8 (by kernel_rfl) (by kernel_rfl) (fun k hk => by cases hk) (by kernel_rfl) (laidMet_of_run' 8 (by kernel_rfl) (by kernel_rfl)))) ?_
  intro W base args ds gs before hval hW _ _ hsz hL _ _
  exact contract H enc W base args ds gs before hval hW hsz hL
theorem said : Rows.CodecShortestSaid :=
  OpenClaim.holds_of_cond 7 Tryd.f7 rfl rfl rfl rfl rfl rfl rfl ⟨rfl, rfl, rfl, rfl, rfl⟩ rfl rfl rfl rfl rfl (by kernel_rfl) Tryd.func7 (by kernel_rfl)
    (of_decide_eq_true (by kernel_rfl)) (by unfold Func.isWrapper; first | (rw [if_pos (by decide +kernel)]; kernel_rfl) | (rw [if_neg (by decide +kernel)]; exact ⟨rfl, rfl⟩))
    (fun os started H enc _ F => by rw [OpenClaim.pre_eq_preRow]; exact lifted os started H enc F)
theorem plain (f : FuncId) (fn : Func) (hf : Tryd.pinned.checked.prog.funcNamed Rows.codecShortestRow.func = some f) (hfn : Tryd.pinned.checked.prog.funcs[f]? = some fn) :
    false = Tryd.pinned.checked.prog.looks [] ∧ ∀ (j : Nat) t, fn.params[j]? = some t → Tryd.pinned.checked.prog.wantsStandIn t = false := by
  obtain rfl : f = 7 := Option.some.inj ((show Tryd.prog.funcNamed Rows.codecShortestRow.func = some 7 by kernel_rfl).symm.trans hf) |>.symm
  obtain rfl : fn = Tryd.f7 := (Option.some.inj (Tryd.func7.symm.trans hfn)).symm
  refine ⟨by kernel_rfl, fun j t ht => ?_⟩
  rw [Tryd.params7] at ht
  have hm : t ∈ [34, 34, 9] := by simpa using Array.mem_of_getElem? ht
  have hall : [34, 34, 9].all (fun t => !Tryd.prog.wantsStandIn t) = true := by kernel_rfl
  have h1 := List.all_eq_true.1 hall t hm
  have h2 : Tryd.prog.wantsStandIn t = false := by simpa using h1
  exact h2
theorem card : Rows.CodecShortestCardSaid :=
  Claim7.holds_tied_plain_at .later [] _ _ _ _ said (fun _ h => by cases h) (by kernel_rfl) (fun _ h => by cases h) codecShortest_row_tie rfl ⟨rfl, rfl⟩ (by kernel_rfl) rfl plain (by kernel_rfl)
end Go.Proofs.YtneccmjilcjglabDoor.CodecShortest
namespace Go.Proofs.YtneccmjilcjglabDoor
theorem codecShortest_card : Rows.CodecShortestCardSaid := CodecShortest.card
end Go.Proofs.YtneccmjilcjglabDoor
