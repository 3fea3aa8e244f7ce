/-
  CodecReads (P2.3): for every text and every row of reads the Reader tells what the document tells, at each step and at the end: the law's call returns true and leaves its arguments as they were.
  Condition: the table crcSteps holds what the program's text lays (the card ties it).
-/
import Derived.Test.YtlilgfcacoooaaaDoorCTab
import Derived.Test.YtlilgfcacoooaaaDoorStp2
namespace Go.Proofs.YtlilgfcacoooaaaDoor
open Go.ChangeShapes Go.WideShapes Go.ChangeAt Go.RowKit Go.Joins Go.ChangeMaps
set_option linter.unusedVariables false

/-- A slice of steps. -/
def OpsIn (w : World) (v : Value) (n : Nat) : Prop :=
  ∃ a cap, v = .slice a n cap ∧ (0 < n → ∃ b off, a = some ⟨b, off, none⟩ ∧ ∀ i, i < n → ∃ (kind : Int) (N : Nat) (S : ByteArray), w.cell? ⟨b, off + i * 3, none⟩ = some (.int .i64 kind) ∧ w.cell? ⟨b, off + i * 3 + 1, none⟩ = some (.int .u64 N) ∧ w.cell? ⟨b, off + i * 3 + 2, none⟩ = some (.string S))
theorem cellsOp3 : Tryd.prog.cellsOf 57 = 3 := by kernel_rfl
theorem bytesOp : Tryd.prog.bytesOf 57 = 32 := by kernel_rfl
theorem cellsI1 : Tryd.prog.cellsOf 3 = 1 := by kernel_rfl
theorem cellsU1 : Tryd.prog.cellsOf 22 = 1 := by kernel_rfl
theorem cellsS1 : Tryd.prog.cellsOf 9 = 1 := by kernel_rfl
theorem op_trod {H : Type} {enc : TypeId × Value → H} {W : World} {base : Nat} {sp : Nat → Bool} {held : Bool} {fuel : Nat} {c0 c1 c2 : Value} {x : DataW H × List MemPlace} (h : DataW.trod enc Tryd.prog W base sp held fuel 57 [c0, c1, c2] = some x) :
    ∃ (kind : Int) (N : Nat) (S : ByteArray), c0 = .int .i64 kind ∧ c1 = .int .u64 N ∧ c2 = .string S := by
  obtain ⟨xs, n, _, _, _, hlen, hf⟩ := DataW.trod_struct Tryd.underlying57 h
  have hl : xs.length = 3 := hlen
  obtain ⟨x0, e0⟩ : ∃ x, xs[0]? = some x := ⟨_, List.getElem?_eq_getElem (by omega)⟩
  obtain ⟨x1, e1⟩ : ∃ x, xs[1]? = some x := ⟨_, List.getElem?_eq_getElem (by omega)⟩
  obtain ⟨x2, e2⟩ : ∃ x, xs[2]? = some x := ⟨_, List.getElem?_eq_getElem (by omega)⟩
  have h0 : DataW.trod enc Tryd.prog W base sp held n 3 (List.take (Tryd.prog.cellsOf 3) (List.drop 0 [c0, c1, c2])) = some x0 := (hf 0 _ rfl).trans e0
  have h1 : DataW.trod enc Tryd.prog W base sp held n 22 (List.take (Tryd.prog.cellsOf 22) (List.drop 1 [c0, c1, c2])) = some x1 := (hf 1 _ rfl).trans e1
  have h2 : DataW.trod enc Tryd.prog W base sp held n 9 (List.take (Tryd.prog.cellsOf 9) (List.drop 2 [c0, c1, c2])) = some x2 := (hf 2 _ rfl).trans e2
  rw [cellsI1] at h0
  rw [cellsU1] at h1
  rw [cellsS1] at h2
  obtain ⟨a, q0, _, _⟩ := DataW.trod_int Tryd.underlying3 h0
  obtain ⟨d, q1, _, w1⟩ := DataW.trod_int Tryd.underlying22 h1
  obtain ⟨s, q2, _, _⟩ := DataW.trod_string Tryd.underlying9 h2
  simp at q0 q1 q2
  have b1 : 0 ≤ d ∧ d ≤ 18446744073709551615 := by simpa [Lit.wf, IntKind.min, IntKind.max, IntKind.signed, IntKind.bits] using w1
  obtain ⟨m, rfl⟩ := Int.eq_ofNat_of_zero_le b1.1
  exact ⟨a, m, s, q0, q1, q2⟩
set_option maxRecDepth 100000 in
theorem ops_open {H : Type} {enc : TypeId × Value → H} {W : World} {base : Nat} {v : Value} {d : DataW H} {p : List MemPlace} (hv : Value.okWide Tryd.prog W .any base 53 v) (h : DataW.Trod enc Tryd.prog W 0 (fun _ => true) true 53 v d p) :
    ∃ n : Nat, OpsIn W v n ∧
      ∀ (ts : List TypeId) (ds : List (DataW H)) (j : Nat), (DataW.weightsEach Tryd.prog ts ds).all (· ≤ reachBytes) = true → ts[j]? = some 53 → ds[j]? = some d → n ≤ 140737488351232 := by
  obtain ⟨a1, len1, cap1, rfl⟩ := okWide_slice Tryd.underlying53 hv
  obtain ⟨fuel, hf⟩ := h
  rcases DataW.trod_slice Tryd.underlying53 hf with ⟨hcs, hx⟩ | ⟨a, len, cap, elems, rest, n, _, hcs, hx, _, hl, hm, he, hel, _, _⟩
  · simp [Value.cells] at hcs
    obtain ⟨rfl, rfl, rfl⟩ := hcs
    exact ⟨0, ⟨none, 0, rfl, fun h => by omega⟩, fun _ _ _ _ _ _ => by omega⟩
  · simp [Value.cells] at hcs
    obtain ⟨rfl, rfl, rfl⟩ := hcs
    rw [cellsOp3] at hel
    have key : ∀ i, i < len1 → ∃ (kind : Int) (N : Nat) (S : ByteArray), W.cell? (a.add (i * 3)) = some (.int .i64 kind) ∧ W.cell? ((a.add (i * 3)).add 1) = some (.int .u64 N) ∧ W.cell? ((a.add (i * 3)).add 2) = some (.string S) := by
      intro i hi
      have h1 := hel i hi
      have h2 : elems[i]? = some elems[i] := List.getElem?_eq_getElem (by omega)
      rw [h2] at h1
      obtain ⟨cs, hc, ht⟩ := Option.bind_eq_some_iff.1 h1
      obtain ⟨_, hcl, hcc⟩ := World.cells?_some hc
      match cs, hcl with
      | [c0, c1, c2], _ =>
        obtain ⟨kind, N, S, rfl, rfl, rfl⟩ := op_trod ht
        have z0 := hcc 0 (by decide)
        exact ⟨kind, N, S, by simpa [Addr.add] using z0, hcc 1 (by decide), hcc 2 (by decide)⟩
    refine ⟨len1, ⟨some a, cap1, rfl, fun hpos => ?_⟩, ?_⟩
    · obtain ⟨b, off, spot⟩ := a
      have hspot : spot = none := by
        obtain ⟨_, _, _, h0, _⟩ := key 0 hpos
        simpa [Addr.add] using World.cell?_spot h0
      subst hspot
      refine ⟨b, off, rfl, fun i hi => ?_⟩
      obtain ⟨kind, N, S, h0, h1, h2⟩ := key i hi
      rw [add_plain] at h0 h1 h2
      rw [add_plain] at h1 h2
      exact ⟨kind, N, S, h0, h1, h2⟩
    · intro ts ds j hall hts hds
      have hd : d = .slice (elems.map (·.1)) (rest.map (·.1)) := congrArg Prod.fst hx
      rw [hd] at hds
      have := sized_slice hall (j := j) hts hds Tryd.underlying53
      rw [bytesOp] at this
      simp only [List.length_map, reachBytes] at this
      omega
theorem step_any {g h : Nat} {st : RSt} {w : World} (b : Both g h st w) (kind : Int) (N : Nat) (S : ByteArray) :
    Calls Tryd.prog 43 #[.pointer (some ⟨g, 0, none⟩), .pointer (some ⟨h, 0, none⟩), .agg #[.int .i64 kind, .int .u64 N, .string S]] w fun e w' => e = .returned (.bool true) ∧ ∃ st', Both g h st' w' ∧ Kept (two g h) w w' := by
  by_cases hk : kind < 0 ∨ 6 < kind
  · exact step_look b kind N S hk
  · have hc : kind = 0 ∨ kind = 1 ∨ kind = 2 ∨ kind = 3 ∨ kind = 4 ∨ kind = 5 ∨ kind = 6 := by omega
    rcases hc with rfl | rfl | rfl | rfl | rfl | rfl | rfl
    · exact step_0 b N S
    · exact step_1 b N S
    · exact step_2 b N S
    · exact step_3 b N S
    · exact step_4 b N S
    · exact step_5 b N S
    · exact step_6 b N S
theorem Same.both {w a b : World} {g h : Nat} (s : Same w a) (k : Kept (two g h) a b) (hg : w.heap.size ≤ g) (hh : w.heap.size ≤ h) : Same w b :=
  s.trans' k fun i hi hs => by rcases hs with rfl | rfl <;> omega
set_option maxHeartbeats 4000000 in
set_option maxRecDepth 100000 in
theorem reads_walk (s : ByteArray) (v : Value) (n : Nat) (w : World) (hs : s.size ≤ 140737488351232) (hv : OpsIn w v n) (hn : n ≤ 140737488351232) (hT : Tab w) :
    Calls Tryd.prog 12 #[.string s, v] w fun e w' => e = .returned (.bool true) ∧ Same w w' := by
  obtain ⟨a, cap, rfl, hc⟩ := hv
  have HC := hidden hc
  have HT := hidden hT
  clear hc hT
  go_enter Tryd.func12, Tryd.ntmps12
  go_wp2_with (first
    | (go_at_call 42; refine (newR s _ (by omega)).mono ?_; rintro e w1 ⟨rfl, s1, k1, z1⟩)
    | (go_at_call 37; refine (awake_any _ (HT.out.same k1)).mono ?_; rintro e w2 ⟨rfl, k2⟩; have K2 : Same w w2 := Kept.trans k1 k2; have r2 := s1.kept k2 (fun h => h); have hz2 : w.heap.size < w2.heap.size := (by have := k2.size; omega); clear s1 k1 k2 z1))
  have B0 : Hid (Both w.heap.size w2.heap.size (s, 0) (w2.alloc (.cells #[.string s, .int .i64 0] 68))) := hidden ⟨by omega, r2.kept (alloc_same _ _) (fun h => h), ⟨blk_new w2 _, by show s.size ≤ _; omega⟩⟩
  have KB : Hid (Same w (w2.alloc (.cells #[.string s, .int .i64 0] 68))) := hidden (Kept.alloc K2 _)
  clear r2 K2
  generalize w2.alloc (.cells #[.string s, .int .i64 0] 68) = WI at B0 KB ⊢
  generalize w2.heap.size = h at *
  go_loopw [22] (fun i wr => ∃ (k : Nat) (st : RSt), k ≤ n ∧ i = .int .i64 k ∧ Both w.heap.size h st wr ∧ Same w wr) (fun i _ => n - (intOf i).toNat)
  case atStart => exact ⟨0, (s, 0), Nat.zero_le _, rfl, B0.out, KB.out⟩
  case round =>
    obtain ⟨k, st, hk, rfl, hB, hS⟩ := hrel
    have HB := hidden hB
    have HS := hidden hS
    clear hB
    by_cases hlt : k < n
    · obtain ⟨b, off, rfl, hcell⟩ := HC.out (by omega)
      obtain ⟨kind, N, S, h0, h1, h2⟩ := hcell k hlt
      have r0 : wr.cell? ⟨b, off + k * 3, none⟩ = some (.int .i64 kind) := Kept.cell hS (fun h => h) h0
      have r1 : wr.cell? ⟨b, off + k * 3 + 1, none⟩ = some (.int .u64 N) := Kept.cell hS (fun h => h) h1
      have r2 : wr.cell? ⟨b, off + k * 3 + 2, none⟩ = some (.string S) := Kept.cell hS (fun h => h) h2
      clear hcell h0 h1 h2 hS
      go_wp2_with (go_at_call 43; refine (step_any (HB.out.same (alloc_same _ _)) kind N S).mono ?_; rintro e w3 ⟨rfl, st', b3, k3⟩)
      go_roundw
      case rel => exact ⟨k + 1, st', by omega, by go_num, b3, Same.both (Kept.alloc HS.out _) k3 (Nat.le_refl _) (by omega)⟩
      case measure => simp [intOf]; omega
    · obtain rfl : k = n := by omega
      clear hS
      go_wp2_with (go_at_call 43; refine (step_any HB.out 7 0 ⟨#[]⟩).mono ?_; rintro e w3 ⟨rfl, st', b3, k3⟩)
      go_returns
      exact ⟨rfl, Same.both HS.out k3 (Nat.le_refl _) (by omega)⟩
end Go.Proofs.YtlilgfcacoooaaaDoor
namespace Go.Proofs.YtlilgfcacoooaaaDoor.CodecReads
open Go.ChangeShapes Go.WideShapes Go.ChangeAt Go.RowKit Go.Joins Go.ChangeMaps
set_option maxRecDepth 100000 in
theorem contract (H : Type) (enc : TypeId × Value → H) (W : World) (base : Nat) (args : Array Value) (ds gs : List (DataW H)) (before : List MemPlace)
    (hval : ∀ (j : Nat) t v, Tryd.f12.params[j]? = some t → args[j]? = some v → Value.okWide Tryd.prog W .any base t v)
    (hW : DataW.Whole enc Tryd.prog Tryd.f12.params.toList Rows.codecReadsSpec.vars false W args.toList ds gs before)
    (hsz : (DataW.weightsEach Tryd.prog (Tryd.f12.params.toList ++ (OpenSpec.ofChange Rows.codecReadsSpec).bare.plain.varTypes Tryd.prog) (ds ++ gs)).all (· ≤ reachBytes) = true)
    (hL : laidMetH Tryd.prog Rows.codecReadsRow.laid W) :
    Calls Tryd.prog 12 args W fun e W' => ∃ v, e = .returned v ∧ Rows.codecReadsSpec.post enc Tryd.prog Tryd.f12 false true false false W args v W' := by
  have hW' := hW
  obtain ⟨p, q, hA0, hV, rfl, hfz, hnd⟩ := hW
  have hA : DataW.TrodAll enc Tryd.prog W 0 (fun _ => true) true Tryd.f12.params.toList args.toList ds p := hA0
  rw [Tryd.params12] at hA hval hsz
  obtain ⟨v0, vs0, d0, ds0, p0, q0, hargs, rfl, rfl, h0, r0⟩ := trodAll_cons hA
  obtain ⟨v1, vs1, d1, ds1, p1, q1, rfl, rfl, rfl, h1, r1⟩ := trodAll_cons r0
  obtain ⟨rfl, rfl, rfl⟩ := trodAll_nil r1
  obtain rfl : args = #[v0, v1] := by cases args; simp_all
  obtain ⟨rfl, rfl⟩ := trodVars_none hV
  obtain ⟨s, rfl, rfl, rfl, _⟩ := open_string Tryd.underlying9 (hval 0 9 v0 rfl rfl) h0
  obtain ⟨n_do, in_do, sz_do⟩ := ops_open (hval 1 53 v1 rfl rfl) h1
  have l_s : s.size ≤ 140737488351232 := by
    have h2 := sized_string hsz (j := 0) (t := 9) (bytes := s.data.toList) rfl rfl
    rw [size_list] at h2
    unfold reachBytes at h2
    omega
  refine (reads_walk s v1 n_do W l_s in_do (sz_do _ _ 1 hsz rfl rfl) (tab_laid hL)).mono fun e W' ⟨he, hg⟩ => ?_
  subst he
  exact ⟨_, rfl, law_post laidOut (by rw [Tryd.params12]; decide +kernel) rfl hW' rfl Tryd.underlying4 ⟨rfl, rfl, rfl⟩ (hg.below (Nat.le_refl _) fun _ h => h.elim)⟩
set_option maxRecDepth 100000 in
theorem lifted (os : Os) (started : os.Started) (H : Type) (enc : TypeId × Value → H) (F : Stop.Interp) :
    ReturnsInHanded {} Tryd.checked os 12 .any ((OpenSpec.ofChange Rows.codecReadsSpec).preRow enc Tryd.prog Tryd.f12 Rows.codecReadsRow.domain false Rows.codecReadsRow.laid) (((OpenSpec.ofChange Rows.codecReadsSpec).at F).post enc Tryd.prog Tryd.f12 false true false false) := by
  refine returnsInHanded_of_row (C := Tryd.checked) (s := OpenSpec.ofChange Rows.codecReadsSpec) own started (by kernel_rfl) Tryd.func12
    (witness_row_at (enc := enc) (C := Tryd.checked) false ({ World.holding Tryd.prog os ⟨#[], #[], []⟩ with heap := (World.holding Tryd.prog os ⟨#[], #[], []⟩).heap.modify tabBlock fun | .cells _ t frozen => .cells (tabInts.map (Value.int .u32)).toArray t frozen | o => o }) #[.string ⟨#[]⟩, .slice none 0 0] rfl (by kernel_rfl) (by kernel_rfl) (by kernel_rfl)
      (OpenSpec.preRow_of_cond (x := ([.lit (.string []), .nil], [], [])) 8 (by kernel_rfl) (by kernel_rfl) (fun k hk => by cases hk) (by kernel_rfl) (laidMet_of_run' 8 (by kernel_rfl) (by kernel_rfl)))) ?_
  intro W base args ds gs before hval hW _ _ hsz hL _ _
  exact contract H enc W base args ds gs before hval hW hsz hL
theorem said : Rows.CodecReadsSaid :=
  OpenClaim.holds_of_cond 12 Tryd.f12 rfl rfl rfl rfl rfl rfl rfl ⟨rfl, rfl, rfl, rfl, rfl⟩ rfl rfl rfl rfl rfl (by kernel_rfl) Tryd.func12 (by kernel_rfl)
    (of_decide_eq_true (by kernel_rfl)) (by unfold Func.isWrapper; first | (rw [if_pos (by decide +kernel)]; kernel_rfl) | (rw [if_neg (by decide +kernel)]; exact ⟨rfl, rfl⟩))
    (fun os started H enc _ F => by rw [OpenClaim.pre_eq_preRow]; exact lifted os started H enc F)
theorem plain (f : FuncId) (fn : Func) (hf : Tryd.pinned.checked.prog.funcNamed Rows.codecReadsRow.func = some f) (hfn : Tryd.pinned.checked.prog.funcs[f]? = some fn) :
    false = Tryd.pinned.checked.prog.looks [] ∧ ∀ (j : Nat) t, fn.params[j]? = some t → Tryd.pinned.checked.prog.wantsStandIn t = false := by
  obtain rfl : f = 12 := Option.some.inj ((show Tryd.prog.funcNamed Rows.codecReadsRow.func = some 12 by kernel_rfl).symm.trans hf) |>.symm
  obtain rfl : fn = Tryd.f12 := (Option.some.inj (Tryd.func12.symm.trans hfn)).symm
  refine ⟨by kernel_rfl, fun j t ht => ?_⟩
  rw [Tryd.params12] at ht
  have hm : t ∈ [9, 53] := by simpa using Array.mem_of_getElem? ht
  have hall : [9, 53].all (fun t => !Tryd.prog.wantsStandIn t) = true := by kernel_rfl
  have h1 := List.all_eq_true.1 hall t hm
  have h2 : Tryd.prog.wantsStandIn t = false := by simpa using h1
  exact h2
theorem card : Rows.CodecReadsCardSaid :=
  Claim7.holds_tied_plain_at .later [] _ _ _ _ said (fun _ h => by cases h) (by kernel_rfl) (fun _ h => by cases h) codecReads_row_tie rfl ⟨rfl, rfl⟩ (by kernel_rfl) rfl plain (by kernel_rfl)
end Go.Proofs.YtlilgfcacoooaaaDoor.CodecReads
namespace Go.Proofs.YtlilgfcacoooaaaDoor
theorem codecReads_card : Rows.CodecReadsCardSaid := CodecReads.card
end Go.Proofs.YtlilgfcacoooaaaDoor
