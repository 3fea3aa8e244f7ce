/- A slice of steps among a law's arguments, opened: with the bounds of its numbers and texts. -/
import Derived.Test.YtfeaaielopaonaaDoorCTab
import Derived.Test.YtfeaaielopaonaaDoorOpsC
import Derived.Deep.Slices
namespace Go.Proofs.YtfeaaielopaonaaDoor
open Go.ChangeShapes Go.WideShapes Go.ChangeAt Go.RowKit Go.Joins Go.ChangeMaps
set_option linter.unusedVariables false

/-- A slice of steps, by their places. -/
def OpsAt (w : World) (v : Value) (n : Nat) (f : Nat → Int × Nat × ByteArray) : Prop :=
  ∃ a cap, v = .slice a n cap ∧ (0 < n → ∃ b off, a = some ⟨b, off, none⟩ ∧ ∀ i, i < n → (f i).2.1 < 18446744073709551616 ∧ (f i).2.2.size ≤ 140737488351232 ∧ w.cell? ⟨b, off + i * 3, none⟩ = some (.int .i64 (f i).1) ∧ w.cell? ⟨b, off + i * 3 + 1, none⟩ = some (.int .u64 (f i).2.1) ∧ w.cell? ⟨b, off + i * 3 + 2, none⟩ = some (.string (f i).2.2))
theorem weights_all_mem {H : Type} {P : Program} {e : TypeId} {x : DataW H} {n : Nat} (hn : n ∈ x.weights P e) : ∀ ds : List (DataW H), x ∈ ds → n ∈ DataW.weightsAll P e ds
  | [], h => by cases h
  | y :: ys, h => by
    rcases List.mem_cons.1 h with rfl | h
    · simp [DataW.weightsAll, hn]
    · simp [DataW.weightsAll, weights_all_mem hn ys h]
theorem op_trod2 {H : Type} {enc : TypeId × Value → H} {W : World} {base : Nat} {sp : Nat → Bool} {held : Bool} {fuel : Nat} {c0 c1 c2 : Value} {x : DataW H × List MemPlace} (h : DataW.trod enc Tryd.prog W base sp held fuel 28 [c0, c1, c2] = some x) :
    ∃ (kind : Int) (N : Nat) (S : ByteArray), c0 = .int .i64 kind ∧ c1 = .int .u64 N ∧ c2 = .string S ∧ N < 18446744073709551616 ∧ S.data.toList.length ∈ x.1.weights Tryd.prog 28 := by
  obtain ⟨xs, n, _, hx, _, hlen, hf⟩ := DataW.trod_struct Tryd.underlying28 h
  have hl : xs.length = 3 := hlen
  match xs, hl with
  | [x0, x1, x2], _ =>
    have h0 : DataW.trod enc Tryd.prog W base sp held n 3 (List.take (Tryd.prog.cellsOf 3) (List.drop 0 [c0, c1, c2])) = some x0 := hf 0 _ rfl
    have h1 : DataW.trod enc Tryd.prog W base sp held n 26 (List.take (Tryd.prog.cellsOf 26) (List.drop 1 [c0, c1, c2])) = some x1 := hf 1 _ rfl
    have h2 : DataW.trod enc Tryd.prog W base sp held n 9 (List.take (Tryd.prog.cellsOf 9) (List.drop 2 [c0, c1, c2])) = some x2 := hf 2 _ rfl
    rw [cellsI1] at h0
    rw [cellsU1] at h1
    rw [cellsS1] at h2
    obtain ⟨a, q0, _, _⟩ := DataW.trod_int Tryd.underlying3 h0
    obtain ⟨d, q1, _, w1⟩ := DataW.trod_int Tryd.underlying26 h1
    obtain ⟨s, q2, hx2, _⟩ := DataW.trod_string Tryd.underlying9 h2
    simp at q0 q1 q2
    have b1 : 0 ≤ d ∧ d ≤ 18446744073709551615 := by simpa [Lit.wf, IntKind.min, IntKind.max, IntKind.signed, IntKind.bits] using w1
    obtain ⟨m, rfl⟩ := Int.eq_ofNat_of_zero_le b1.1
    refine ⟨a, m, s, q0, q1, q2, by omega, ?_⟩
    rw [hx, hx2]
    simp [DataW.weights, DataW.weightsEach, Tryd.underlying28]
set_option maxRecDepth 100000 in
theorem ops_open2 {H : Type} {enc : TypeId × Value → H} {W : World} {base : Nat} {v : Value} {d : DataW H} {p : List MemPlace} (hv : Value.okWide Tryd.prog W .any base 22 v) (h : DataW.Trod enc Tryd.prog W 0 (fun _ => true) true 22 v d p)
    (ts : List TypeId) (ds : List (DataW H)) (j : Nat) (hall : (DataW.weightsEach Tryd.prog ts ds).all (· ≤ reachBytes) = true) (hts : ts[j]? = some 22) (hds : ds[j]? = some d) :
    ∃ (n : Nat) (f : Nat → Int × Nat × ByteArray), OpsAt W v n f ∧ n ≤ 140737488351232 := by
  obtain ⟨a1, len1, cap1, rfl⟩ := okWide_slice Tryd.underlying22 hv
  obtain ⟨fuel, hf⟩ := h
  rcases DataW.trod_slice Tryd.underlying22 hf with ⟨hcs, hx⟩ | ⟨a, len, cap, elems, rest, n, _, hcs, hx, _, hl, hm, he, hel, _, _⟩
  · simp [Value.cells] at hcs
    obtain ⟨rfl, rfl, rfl⟩ := hcs
    exact ⟨0, fun _ => (0, 0, ⟨#[]⟩), ⟨none, 0, rfl, fun h => by omega⟩, by omega⟩
  · simp [Value.cells] at hcs
    obtain ⟨rfl, rfl, rfl⟩ := hcs
    rw [cellsOp3] at hel
    have hd : d = .slice (elems.map (·.1)) (rest.map (·.1)) := congrArg Prod.fst hx
    rw [hd] at hds
    have key : ∀ i, i < len1 → ∃ q : Int × Nat × ByteArray, q.2.1 < 18446744073709551616 ∧ q.2.2.size ≤ 140737488351232 ∧ W.cell? (a.add (i * 3)) = some (.int .i64 q.1) ∧ W.cell? ((a.add (i * 3)).add 1) = some (.int .u64 q.2.1) ∧ W.cell? ((a.add (i * 3)).add 2) = some (.string q.2.2) := by
      intro i hi
      have h1 := hel i hi
      have h2 : elems[i]? = some elems[i] := List.getElem?_eq_getElem (by omega)
      rw [h2] at h1
      obtain ⟨cs, hc, ht⟩ := Option.bind_eq_some_iff.1 h1
      obtain ⟨_, hcl, hcc⟩ := World.cells?_some hc
      match cs, hcl with
      | [c0, c1, c2], _ =>
        obtain ⟨kind, N, S, rfl, rfl, rfl, hN, hS⟩ := op_trod2 ht
        have z0 := hcc 0 (by decide)
        have hw : S.data.toList.length ∈ DataW.weights Tryd.prog 22 (DataW.slice (elems.map (·.1)) (rest.map (·.1))) := by
          have hm := weights_all_mem hS (elems.map (·.1)) (List.mem_map.2 ⟨elems[i], List.getElem_mem _, rfl⟩)
          simp only [DataW.weights, Tryd.underlying22]
          exact List.mem_cons_of_mem _ (List.mem_append_left _ hm)
        have hle := of_decide_eq_true (List.all_eq_true.1 hall _ (DataW.weights_mem_each hts hds _ hw))
        unfold reachBytes at hle
        rw [size_list] at hle
        exact ⟨(kind, N, S), hN, by show S.size ≤ _; omega, by simpa [Addr.add] using z0, hcc 1 (by decide), hcc 2 (by decide)⟩
    obtain ⟨f, hfk⟩ := Go.Deep.choose_lt key
    refine ⟨len1, f, ⟨some a, cap1, rfl, fun hpos => ?_⟩, ?_⟩
    · obtain ⟨b, off, spot⟩ := a
      have hspot : spot = none := by
        obtain ⟨_, _, h0, _⟩ := hfk 0 hpos
        simpa [Addr.add] using World.cell?_spot h0
      subst hspot
      refine ⟨b, off, rfl, fun i hi => ?_⟩
      obtain ⟨hN, hS, h0, h1, h2⟩ := hfk i hi
      rw [add_plain] at h0 h1 h2
      rw [add_plain] at h1 h2
      exact ⟨hN, hS, h0, h1, h2⟩
    · have := sized_slice hall (j := j) hts hds Tryd.underlying22
      rw [bytesOp] at this
      simp only [List.length_map, reachBytes] at this
      omega
end Go.Proofs.YtfeaaielopaonaaDoor
