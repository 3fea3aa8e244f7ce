/- A slice of deduplaw03's steps, a slice of ints, among a law's arguments: opened. -/
import Derived.Test.YteoajgphahobiaaPTab
import Derived.Test.YteoajgphahobiaaE3
import Derived.Deep.Slices
import Derived.Carry
namespace Go.Proofs.Yteoajgphahobiaa
open Go.ChangeShapes Go.WideShapes Go.ChangeAt Go.RowKit Go.Joins Go.ChangeMaps
set_option linter.unusedVariables false
theorem cellsI1 : Try.prog.cellsOf 3 = 1 := by kernel_rfl
theorem cellsB1 : Try.prog.cellsOf 5 = 1 := by kernel_rfl
theorem cellsOp5 : Try.prog.cellsOf 44 = 5 := by kernel_rfl
theorem bytesOp : Try.prog.bytesOf 44 = 56 := by kernel_rfl
theorem bytesI : Try.prog.bytesOf 3 = 8 := by kernel_rfl
theorem add_plain (b off i : Nat) : (⟨b, off, none⟩ : Addr).add i = ⟨b, off + i, none⟩ := add_none b off i
/-- A slice of steps, by their places: kind, number, byte. -/
def DOps (w : World) (v : Value) (n : Nat) (f : Nat → Int × Int × Nat) : Prop :=
  ∃ a cap, v = .slice a n cap ∧ (0 < n → ∃ b off, a = some ⟨b, off, none⟩ ∧ ∀ i, i < n → (f i).2.2 < 256 ∧ w.cell? ⟨b, off + i * 5, none⟩ = some (.int .i64 (f i).1) ∧ w.cell? ⟨b, off + i * 5 + 1, none⟩ = some (.int .i64 (f i).2.1) ∧ w.cell? ⟨b, off + i * 5 + 2, none⟩ = some (.int .u8 (f i).2.2))
theorem dop_trod {H : Type} {enc : TypeId × Value → H} {W : World} {base : Nat} {sp : Nat → Bool} {held : Bool} {fuel : Nat} {c0 c1 c2 c3 c4 : Value} {x : DataW H × List MemPlace} (h : DataW.trod enc Try.prog W base sp held fuel 44 [c0, c1, c2, c3, c4] = some x) :
    ∃ (kind N : Int) (b : Nat), c0 = .int .i64 kind ∧ c1 = .int .i64 N ∧ c2 = .int .u8 b ∧ b < 256 := by
  obtain ⟨xs, n, _, hx, _, hlen, hf⟩ := DataW.trod_struct Try.underlying44 h
  have hl : xs.length = 5 := hlen
  match xs, hl with
  | [x0, x1, x2, x3, x4], _ =>
    have h0 : DataW.trod enc Try.prog W base sp held n 3 (List.take (Try.prog.cellsOf 3) (List.drop 0 [c0, c1, c2, c3, c4])) = some x0 := hf 0 _ rfl
    have h1 : DataW.trod enc Try.prog W base sp held n 3 (List.take (Try.prog.cellsOf 3) (List.drop 1 [c0, c1, c2, c3, c4])) = some x1 := hf 1 _ rfl
    have h2 : DataW.trod enc Try.prog W base sp held n 5 (List.take (Try.prog.cellsOf 5) (List.drop 2 [c0, c1, c2, c3, c4])) = some x2 := hf 2 _ rfl
    rw [cellsI1] at h0 h1
    rw [cellsB1] at h2
    obtain ⟨a, q0, _, _⟩ := DataW.trod_int Try.underlying3 h0
    obtain ⟨d, q1, _, _⟩ := DataW.trod_int Try.underlying3 h1
    obtain ⟨s, q2, _, w2⟩ := DataW.trod_int Try.underlying5 h2
    simp at q0 q1 q2
    have b1 : 0 ≤ s ∧ s ≤ 255 := by simpa [Lit.wf, IntKind.min, IntKind.max, IntKind.signed, IntKind.bits] using w2
    obtain ⟨m, rfl⟩ := Int.eq_ofNat_of_zero_le b1.1
    exact ⟨a, d, m, q0, q1, q2, by omega⟩
set_option maxRecDepth 100000 in
theorem dops_open {H : Type} {enc : TypeId × Value → H} {W : World} {base : Nat} {v : Value} {d : DataW H} {p : List MemPlace} (hv : Value.okWide Try.prog W .any base 42 v) (h : DataW.Trod enc Try.prog W 0 (fun _ => true) true 42 v d p)
    (ts : List TypeId) (ds : List (DataW H)) (j : Nat) (hall : (DataW.weightsEach Try.prog ts ds).all (· ≤ reachBytes) = true) (hts : ts[j]? = some 42) (hds : ds[j]? = some d) :
    ∃ (n : Nat) (f : Nat → Int × Int × Nat), DOps W v n f ∧ n * 56 ≤ 140737488351232 := by
  obtain ⟨a1, len1, cap1, rfl⟩ := okWide_slice Try.underlying42 hv
  obtain ⟨fuel, hf⟩ := h
  rcases DataW.trod_slice Try.underlying42 hf with ⟨hcs, hx⟩ | ⟨a, len, cap, elems, rest, n, _, hcs, hx, _, hl, hm, he, hel, _, _⟩
  · simp [Value.cells] at hcs
    obtain ⟨rfl, rfl, rfl⟩ := hcs
    exact ⟨0, fun _ => (0, 0, 0), ⟨none, 0, rfl, fun h => by omega⟩, by omega⟩
  · simp [Value.cells] at hcs
    obtain ⟨rfl, rfl, rfl⟩ := hcs
    rw [cellsOp5] at hel
    have hd : d = .slice (elems.map (·.1)) (rest.map (·.1)) := congrArg Prod.fst hx
    rw [hd] at hds
    have key : ∀ i, i < len1 → ∃ q : Int × Int × Nat, q.2.2 < 256 ∧ W.cell? (a.add (i * 5)) = some (.int .i64 q.1) ∧ W.cell? ((a.add (i * 5)).add 1) = some (.int .i64 q.2.1) ∧ W.cell? ((a.add (i * 5)).add 2) = some (.int .u8 q.2.2) := by
      intro i hi
      have h1 := hel i hi
      have h2 : elems[i]? = some elems[i] := List.getElem?_eq_getElem (by omega)
      rw [h2] at h1
      obtain ⟨cs, hc, ht⟩ := Option.bind_eq_some_iff.1 h1
      obtain ⟨_, hcl, hcc⟩ := World.cells?_some hc
      match cs, hcl with
      | [c0, c1, c2, c3, c4], _ =>
        obtain ⟨kind, N, b, rfl, rfl, rfl, hb⟩ := dop_trod ht
        have z0 := hcc 0 (by decide)
        exact ⟨(kind, N, b), hb, by simpa [Addr.add] using z0, hcc 1 (by decide), hcc 2 (by decide)⟩
    obtain ⟨f, hfk⟩ := Go.Deep.choose_lt key
    refine ⟨len1, f, ⟨some a, cap1, rfl, fun hpos => ?_⟩, ?_⟩
    · obtain ⟨b, off, spot⟩ := a
      have hspot : spot = none := by
        obtain ⟨_, h0, _⟩ := hfk 0 hpos
        simpa [Addr.add] using World.cell?_spot h0
      subst hspot
      refine ⟨b, off, rfl, fun i hi => ?_⟩
      obtain ⟨hS, h0, h1, h2⟩ := hfk i hi
      rw [add_plain] at h0 h1 h2
      rw [add_plain] at h1 h2
      exact ⟨hS, h0, h1, h2⟩
    · have := sized_slice hall (j := j) hts hds Try.underlying42
      rw [bytesOp] at this
      simp only [List.length_map, reachBytes] at this
      omega
set_option maxRecDepth 100000 in
theorem ints_open {H : Type} {enc : TypeId × Value → H} {W : World} {base : Nat} {v : Value} {d : DataW H} {p : List MemPlace} (hv : Value.okWide Try.prog W .any base 39 v) (h : DataW.Trod enc Try.prog W 0 (fun _ => true) true 39 v d p)
    (ts : List TypeId) (ds : List (DataW H)) (j : Nat) (hall : (DataW.weightsEach Try.prog ts ds).all (· ≤ reachBytes) = true) (hts : ts[j]? = some 39) (hds : ds[j]? = some d) :
    ∃ l : List Int, Ints W v l ∧ l.length * 8 ≤ 140737488351232 ∧ (∀ a k c, v = .slice (some a) k c → 0 < k → a.block < W.heap.size) := by
  obtain ⟨a1, len1, cap1, rfl⟩ := okWide_slice Try.underlying39 hv
  obtain ⟨fuel, hf⟩ := h
  rcases open_ints Try.underlying39 Try.underlying3 cellsI1 hf with ⟨hcs, hx⟩ | ⟨a, len, cap, zs, hcs, _, hl, hm, hz, hx, hcell, hwz⟩
  · simp [Value.cells] at hcs
    obtain ⟨rfl, rfl, rfl⟩ := hcs
    exact ⟨[], Or.inl ⟨rfl, rfl⟩, by simp, fun a k c e => by cases e⟩
  · simp [Value.cells] at hcs
    obtain ⟨rfl, rfl, rfl⟩ := hcs
    simp only [if_pos] at hz
    have hlen : (zs.take len1).length = len1 := by rw [List.length_take]; omega
    have hcl : ∀ j (hj : j < (zs.take len1).length), W.cell? (a.add j) = some (.int .i64 (zs.take len1)[j]) := fun j hj => by
      rw [hlen] at hj
      have hjz : j < zs.length := by omega
      rw [hcell j hjz]
      simp [hjz]
    refine ⟨zs.take len1, Or.inr ⟨a, cap1, by rw [hlen], hcl⟩, ?_, ?_⟩
    · have hd : d = .slice (lits .i64 (zs.take len1)) (lits .i64 (zs.drop len1)) := congrArg Prod.fst hx
      rw [hd] at hds
      have := sized_slice hall (j := j) hts hds Try.underlying39
      rw [bytesI] at this
      simp only [lits, List.length_map, List.length_take, List.length_drop, reachBytes] at this
      rw [hlen]
      omega
    · intro a' k c e hk
      obtain ⟨rfl, rfl, rfl⟩ : a = a' ∧ len1 = k ∧ cap1 = c := by simpa using e
      have h0 := hcl 0 (by omega)
      have := World.block_lt_of_cell? W _ h0
      rwa [add_block] at this
end Go.Proofs.Yteoajgphahobiaa
