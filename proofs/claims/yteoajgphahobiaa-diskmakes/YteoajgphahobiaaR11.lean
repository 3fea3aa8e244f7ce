/- A slice of deduplaw03's steps with all their fields, among a law's arguments: opened. -/
import Derived.Test.YteoajgphahobiaaE6
namespace Go.Proofs.Yteoajgphahobiaa
open Go.ChangeShapes Go.WideShapes Go.ChangeAt Go.RowKit Go.Joins Go.ChangeMaps
set_option linter.unusedVariables false
/-- A step. -/
structure Op5 where
  kind : Int
  N : Int
  byte : Nat
  more : Int
  kv : Value
  ks : List Int
instance : Inhabited Op5 := ⟨⟨0, 0, 0, 0, .slice none 0 0, []⟩⟩
def I64 (z : Int) : Prop := -9223372036854775808 ≤ z ∧ z ≤ 9223372036854775807
structure Op5.ok (w : World) (p : Op5) : Prop where
  byte : p.byte < 256
  kind : I64 p.kind
  N : I64 p.N
  more : I64 p.more
  ints : Ints w p.kv p.ks
  len : p.ks.length * 8 ≤ 140737488351232
  each : ∀ z ∈ p.ks, I64 z
  blk : ∀ a k c, p.kv = .slice (some a) k c → 0 < k → a.block < w.heap.size
def DOps5 (w : World) (v : Value) (n : Nat) (f : Nat → Op5) : Prop :=
  ∃ a cap, v = .slice a n cap ∧ (0 < n → ∃ b off, a = some ⟨b, off, none⟩ ∧ ∀ i, i < n → (f i).ok w ∧ w.cell? ⟨b, off + i * 5, none⟩ = some (.int .i64 (f i).kind) ∧ w.cell? ⟨b, off + i * 5 + 1, none⟩ = some (.int .i64 (f i).N) ∧ w.cell? ⟨b, off + i * 5 + 2, none⟩ = some (.int .u8 (f i).byte) ∧ w.cell? ⟨b, off + i * 5 + 3, none⟩ = some (.int .i64 (f i).more) ∧ w.cell? ⟨b, off + i * 5 + 4, none⟩ = some (f i).kv)
theorem cellsIs1 : Try.prog.cellsOf 39 = 1 := by kernel_rfl
theorem i64_wf {z : Int} (h : (Lit.int .i64 z).wf = true) : I64 z := by
  simpa [I64, Lit.wf, IntKind.min, IntKind.max, IntKind.signed, IntKind.bits] using h
theorem weights_mem_all {H : Type} {P : Program} {e : TypeId} : ∀ {ds : List (DataW H)} {j : Nat} {d : DataW H}, ds[j]? = some d → ∀ n ∈ d.weights P e, n ∈ DataW.weightsAll P e ds
  | d0 :: ds, 0, d, hd, n, hn => by
    simp only [List.getElem?_cons_zero, Option.some.injEq] at hd
    subst hd
    simp only [DataW.weightsAll, List.mem_append]
    exact Or.inl hn
  | d0 :: ds, j + 1, d, hd, n, hn => by
    simp only [List.getElem?_cons_succ] at hd
    simp only [DataW.weightsAll, List.mem_append]
    exact Or.inr (weights_mem_all hd n hn)
  | [], _, _, hd, _, _ => by simp at hd
theorem dop5_trod {H : Type} {enc : TypeId × Value → H} {W : World} {held : Bool} {fuel : Nat} {c0 c1 c2 c3 c4 : Value} {x : DataW H × List MemPlace} (h : DataW.trod enc Try.prog W 0 (fun _ => true) held fuel 44 [c0, c1, c2, c3, c4] = some x) (hw : ∀ q ∈ x.1.weights Try.prog 44, q ≤ reachBytes) :
    ∃ p : Op5, p.ok W ∧ c0 = .int .i64 p.kind ∧ c1 = .int .i64 p.N ∧ c2 = .int .u8 p.byte ∧ c3 = .int .i64 p.more ∧ c4 = p.kv := by
  obtain ⟨xs, n, _, hx, _, hlen, hf⟩ := DataW.trod_struct Try.underlying44 h
  have hl : xs.length = 5 := hlen
  match xs, hl with
  | [x0, x1, x2, x3, x4], _ =>
    have h0 : DataW.trod enc Try.prog W 0 (fun _ => true) held n 3 (List.take (Try.prog.cellsOf 3) (List.drop 0 [c0, c1, c2, c3, c4])) = some x0 := hf 0 _ rfl
    have h1 : DataW.trod enc Try.prog W 0 (fun _ => true) held n 3 (List.take (Try.prog.cellsOf 3) (List.drop 1 [c0, c1, c2, c3, c4])) = some x1 := hf 1 _ rfl
    have h2 : DataW.trod enc Try.prog W 0 (fun _ => true) held n 5 (List.take (Try.prog.cellsOf 5) (List.drop 2 [c0, c1, c2, c3, c4])) = some x2 := hf 2 _ rfl
    have h3 : DataW.trod enc Try.prog W 0 (fun _ => true) held n 3 (List.take (Try.prog.cellsOf 3) (List.drop 3 [c0, c1, c2, c3, c4])) = some x3 := hf 3 _ rfl
    have h4 : DataW.trod enc Try.prog W 0 (fun _ => true) held n 39 (List.take (Try.prog.cellsOf 39) (List.drop 4 [c0, c1, c2, c3, c4])) = some x4 := hf 4 _ rfl
    rw [cellsI1] at h0 h1 h3
    rw [cellsB1] at h2
    rw [cellsIs1] at h4
    obtain ⟨a, q0, _, w0⟩ := DataW.trod_int Try.underlying3 h0
    obtain ⟨d, q1, _, w1⟩ := DataW.trod_int Try.underlying3 h1
    obtain ⟨s, q2, _, w2⟩ := DataW.trod_int Try.underlying5 h2
    obtain ⟨m, q3, _, w3⟩ := DataW.trod_int Try.underlying3 h3
    simp at q0 q1 q2 q3
    have b1 : 0 ≤ s ∧ s ≤ 255 := by simpa [Lit.wf, IntKind.min, IntKind.max, IntKind.signed, IntKind.bits] using w2
    obtain ⟨b, rfl⟩ := Int.eq_ofNat_of_zero_le b1.1
    rcases open_ints Try.underlying39 Try.underlying3 cellsI1 h4 with ⟨hcs, hx4⟩ | ⟨ad, len, cap, zs, hcs, _, hl', hm', hz, hx4, hcell, hwz⟩
    · have hc4 : c4 = .slice none 0 0 := by simpa using hcs
      exact ⟨⟨a, d, b, m, c4, []⟩, ⟨by show b < 256; omega, i64_wf w0, i64_wf w1, i64_wf w3, Or.inl ⟨hc4, rfl⟩, by simp, (fun z hz => by cases hz), (fun a' k c e => by rw [show (⟨a, d, b, m, c4, []⟩ : Op5).kv = c4 from rfl, hc4] at e; cases e)⟩, q0, q1, q2, q3, rfl⟩
    · have hc4 : c4 = .slice (some ad) len cap := by simpa using hcs
      simp only [if_pos] at hz
      have hlen' : (zs.take len).length = len := by rw [List.length_take]; omega
      have hcl : ∀ j (hj : j < (zs.take len).length), W.cell? (ad.add j) = some (.int .i64 (zs.take len)[j]) := fun j hj => by
        rw [hlen'] at hj
        have hjz : j < zs.length := by omega
        rw [hcell j hjz]
        simp [hjz]
      refine ⟨⟨a, d, b, m, c4, zs.take len⟩, ⟨by show b < 256; omega, i64_wf w0, i64_wf w1, i64_wf w3, Or.inr ⟨ad, cap, by rw [hlen']; exact hc4, hcl⟩, ?_, (fun z hz => i64_wf (hwz z (List.mem_of_mem_take hz))), ?_⟩, q0, q1, q2, q3, rfl⟩
      · have hwx := hw ((lits .i64 (zs.take len) ++ lits .i64 (zs.drop len) : List (DataW H)).length * Try.prog.bytesOf 3) (by
          have e : x.1 = .agg [x0.1, x1.1, x2.1, x3.1, x4.1] := by rw [hx]; rfl
          rw [e]
          simp only [DataW.weights, Try.underlying44]
          refine DataW.weights_mem_each (j := 4) (t := 39) (d := x4.1) rfl rfl _ ?_
          rw [hx4]
          simp only [DataW.weights, Try.underlying39]
          rw [List.length_append]
          exact List.mem_cons_self ..)
        rw [bytesI] at hwx
        simp only [lits, List.length_append, List.length_map, List.length_take, List.length_drop, reachBytes] at hwx
        show (zs.take len).length * 8 ≤ _
        rw [hlen']
        omega
      · intro a' k c e hk
        have e' : c4 = .slice (some a') k c := e
        rw [hc4] at e'
        obtain ⟨rfl, rfl, rfl⟩ : ad = a' ∧ len = k ∧ cap = c := by simpa using e'
        have h0 := hcl 0 (by omega)
        have := World.block_lt_of_cell? W _ h0
        rwa [add_block] at this
set_option maxRecDepth 100000 in
theorem dops5_open {H : Type} {enc : TypeId × Value → H} {W : World} {base : Nat} {v : Value} {d : DataW H} {p : List MemPlace} (hv : Value.okWide Try.prog W .any base 42 v) (h : DataW.Trod enc Try.prog W 0 (fun _ => true) true 42 v d p)
    (ts : List TypeId) (ds : List (DataW H)) (j : Nat) (hall : (DataW.weightsEach Try.prog ts ds).all (· ≤ reachBytes) = true) (hts : ts[j]? = some 42) (hds : ds[j]? = some d) :
    ∃ (n : Nat) (f : Nat → Op5), DOps5 W v n f ∧ n * 56 ≤ 140737488351232 := by
  obtain ⟨a1, len1, cap1, rfl⟩ := okWide_slice Try.underlying42 hv
  obtain ⟨fuel, hf⟩ := h
  rcases DataW.trod_slice Try.underlying42 hf with ⟨hcs, hx⟩ | ⟨a, len, cap, elems, rest, n, _, hcs, hx, _, hl, hm, he, hel, _, _⟩
  · simp [Value.cells] at hcs
    obtain ⟨rfl, rfl, rfl⟩ := hcs
    exact ⟨0, fun _ => ⟨0, 0, 0, 0, .slice none 0 0, []⟩, ⟨none, 0, rfl, fun h => by omega⟩, by omega⟩
  · simp [Value.cells] at hcs
    obtain ⟨rfl, rfl, rfl⟩ := hcs
    rw [cellsOp5] at hel
    have hd : d = .slice (elems.map (·.1)) (rest.map (·.1)) := congrArg Prod.fst hx
    rw [hd] at hds
    have hwt : ∀ i (hi : i < elems.length), ∀ q ∈ elems[i].1.weights Try.prog 44, q ≤ reachBytes := fun i hi q hq => by
      have hmem : q ∈ (DataW.slice (elems.map (·.1)) (rest.map (·.1)) : DataW H).weights Try.prog 42 := by
        simp only [DataW.weights, Try.underlying42]
        refine List.mem_cons_of_mem _ (List.mem_append_left _ (weights_mem_all (j := i) (d := elems[i].1) ?_ q hq))
        rw [List.getElem?_map, List.getElem?_eq_getElem hi]
        rfl
      have := List.all_eq_true.1 hall _ (DataW.weights_mem_each hts hds q hmem)
      simpa using this
    have key : ∀ i, i < len1 → ∃ q : Op5, q.ok W ∧ W.cell? (a.add (i * 5)) = some (.int .i64 q.kind) ∧ W.cell? ((a.add (i * 5)).add 1) = some (.int .i64 q.N) ∧ W.cell? ((a.add (i * 5)).add 2) = some (.int .u8 q.byte) ∧ W.cell? ((a.add (i * 5)).add 3) = some (.int .i64 q.more) ∧ W.cell? ((a.add (i * 5)).add 4) = some q.kv := by
      intro i hi
      have h1 := hel i hi
      have h2 : elems[i]? = some elems[i] := List.getElem?_eq_getElem (by omega)
      rw [h2] at h1
      obtain ⟨cs, hc, ht⟩ := Option.bind_eq_some_iff.1 h1
      obtain ⟨_, hcl, hcc⟩ := World.cells?_some hc
      match cs, hcl with
      | [c0, c1, c2, c3, c4], _ =>
        obtain ⟨q, hq, rfl, rfl, rfl, rfl, rfl⟩ := dop5_trod ht (hwt i (by omega))
        have z0 := hcc 0 (by decide)
        exact ⟨q, hq, by simpa [Addr.add] using z0, hcc 1 (by decide), hcc 2 (by decide), hcc 3 (by decide), hcc 4 (by decide)⟩
    obtain ⟨f, hfk⟩ := Go.Deep.choose_lt key
    refine ⟨len1, f, ⟨some a, cap1, rfl, fun hpos => ?_⟩, ?_⟩
    · obtain ⟨b, off, spot⟩ := a
      have hspot : spot = none := by
        obtain ⟨_, h0, _⟩ := hfk 0 hpos
        simpa [Addr.add] using World.cell?_spot h0
      subst hspot
      refine ⟨b, off, rfl, fun i hi => ?_⟩
      obtain ⟨hS, h0, h1, h2, h3, h4⟩ := hfk i hi
      rw [add_plain] at h0 h1 h2 h3 h4
      rw [add_plain] at h1 h2 h3 h4
      exact ⟨hS, h0, h1, h2, h3, h4⟩
    · have := sized_slice hall (j := j) hts hds Try.underlying42
      rw [bytesOp] at this
      simp only [List.length_map, reachBytes] at this
      omega
end Go.Proofs.Yteoajgphahobiaa
