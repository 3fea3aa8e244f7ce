/- Shapes and superblocks among a law's arguments, opened. -/
import Derived.Test.YtilkpboegpfijaaDoorCTab
import Derived.Test.YtilkpboegpfijaaDoorLay7
namespace Go.Proofs.YtilkpboegpfijaaDoor
open Go.ChangeShapes Go.WideShapes Go.ChangeAt Go.RowKit Go.Joins Go.ChangeMaps
set_option linter.unusedVariables false

theorem arr10 {cs : Array Value} (h : cs.size = 10) : ∃ c0 c1 c2 c3 c4 c5 c6 c7 c8 c9, cs = #[c0, c1, c2, c3, c4, c5, c6, c7, c8, c9] := by
  obtain ⟨l⟩ := cs
  match l, h with
  | [c0, c1, c2, c3, c4, c5, c6, c7, c8, c9], _ => exact ⟨c0, c1, c2, c3, c4, c5, c6, c7, c8, c9, rfl⟩
theorem arr12 {cs : Array Value} (h : cs.size = 12) : ∃ c0 c1 c2 c3 c4 c5 c6 c7 c8 c9 c10 c11, cs = #[c0, c1, c2, c3, c4, c5, c6, c7, c8, c9, c10, c11] := by
  obtain ⟨l⟩ := cs
  match l, h with
  | [c0, c1, c2, c3, c4, c5, c6, c7, c8, c9, c10, c11], _ => exact ⟨c0, c1, c2, c3, c4, c5, c6, c7, c8, c9, c10, c11, rfl⟩
theorem some_of_len {α : Type} {l : List α} {n : Nat} (h : l.length = n) {i : Nat} (hi : i < n) : ∃ x, l[i]? = some x := ⟨_, List.getElem?_eq_getElem (by omega)⟩
theorem cellsI : Tryd.prog.cellsOf 3 = 1 := by kernel_rfl
theorem cellsU : Tryd.prog.cellsOf 26 = 1 := by kernel_rfl
theorem cellsB : Tryd.prog.cellsOf 4 = 1 := by kernel_rfl
theorem cellsC : Tryd.prog.cellsOf 56 = 4 := by kernel_rfl
theorem cellsS : Tryd.prog.cellsOf 58 = 10 := by kernel_rfl
theorem cellsX : Tryd.prog.cellsOf 89 = 12 := by kernel_rfl
section
variable {H : Type} {enc : TypeId × Value → H} {W : World} {base : Nat} {sp : Nat → Bool} {held : Bool}
theorem cut_trod {fuel : Nat} {c0 c1 c2 c3 : Value} {x : DataW H × List MemPlace} (h : DataW.trod enc Tryd.prog W base sp held fuel 56 [c0, c1, c2, c3] = some x) :
    ∃ (cmin cnorm cmax : Int) (seed : Nat), c0 = .int .i64 cmin ∧ c1 = .int .i64 cnorm ∧ c2 = .int .i64 cmax ∧ c3 = .int .u64 seed ∧ seed < 18446744073709551616 := by
  obtain ⟨xs, n, _, _, _, hlen, hf⟩ := DataW.trod_struct Tryd.underlying56 h
  obtain ⟨x0, e0⟩ := some_of_len hlen (i := 0) (by decide)
  obtain ⟨x1, e1⟩ := some_of_len hlen (i := 1) (by decide)
  obtain ⟨x2, e2⟩ := some_of_len hlen (i := 2) (by decide)
  obtain ⟨x3, e3⟩ := some_of_len hlen (i := 3) (by decide)
  have h0 : DataW.trod enc Tryd.prog W base sp held n 3 (List.take (Tryd.prog.cellsOf 3) (List.drop 0 [c0, c1, c2, c3])) = some x0 := (hf 0 _ rfl).trans e0
  have h1 : DataW.trod enc Tryd.prog W base sp held n 3 (List.take (Tryd.prog.cellsOf 3) (List.drop 1 [c0, c1, c2, c3])) = some x1 := (hf 1 _ rfl).trans e1
  have h2 : DataW.trod enc Tryd.prog W base sp held n 3 (List.take (Tryd.prog.cellsOf 3) (List.drop 2 [c0, c1, c2, c3])) = some x2 := (hf 2 _ rfl).trans e2
  have h3 : DataW.trod enc Tryd.prog W base sp held n 26 (List.take (Tryd.prog.cellsOf 26) (List.drop 3 [c0, c1, c2, c3])) = some x3 := (hf 3 _ rfl).trans e3
  clear hf e0 h
  rw [cellsI] at h0 h1 h2
  rw [cellsU] at h3
  obtain ⟨a, q0, _, _⟩ := DataW.trod_int Tryd.underlying3 h0
  obtain ⟨b, q1, _, _⟩ := DataW.trod_int Tryd.underlying3 h1
  obtain ⟨c, q2, _, _⟩ := DataW.trod_int Tryd.underlying3 h2
  obtain ⟨d, q3, _, w3⟩ := DataW.trod_int Tryd.underlying26 h3
  simp at q0 q1 q2 q3
  have b3 : 0 ≤ d ∧ d ≤ 18446744073709551615 := by simpa [Lit.wf, IntKind.min, IntKind.max, IntKind.signed, IntKind.bits] using w3
  obtain ⟨m, rfl⟩ := Int.eq_ofNat_of_zero_le b3.1
  exact ⟨a, b, c, m, q0, q1, q2, q3, by omega⟩
theorem shape_trod {fuel : Nat} {c0 c1 c2 c3 c4 c5 c6 c7 c8 c9 : Value} {x : DataW H × List MemPlace} (h : DataW.trod enc Tryd.prog W base sp held fuel 58 [c0, c1, c2, c3, c4, c5, c6, c7, c8, c9] = some x) :
    ∃ (sector sectors journal pack cmin cnorm cmax : Int) (seed : Nat) (nbits : Int) (dd : Bool), #[c0, c1, c2, c3, c4, c5, c6, c7, c8, c9] = #[.int .i64 sector, .int .i64 sectors, .int .i64 journal, .int .i64 pack, .int .i64 cmin, .int .i64 cnorm, .int .i64 cmax, .int .u64 seed, .int .i64 nbits, .bool dd] ∧ seed < 18446744073709551616 := by
  obtain ⟨xs, n, _, _, _, hlen, hf⟩ := DataW.trod_struct Tryd.underlying58 h
  obtain ⟨x0, e0⟩ := some_of_len hlen (i := 0) (by decide)
  obtain ⟨x1, e1⟩ := some_of_len hlen (i := 1) (by decide)
  obtain ⟨x2, e2⟩ := some_of_len hlen (i := 2) (by decide)
  obtain ⟨x3, e3⟩ := some_of_len hlen (i := 3) (by decide)
  obtain ⟨x4, e4⟩ := some_of_len hlen (i := 4) (by decide)
  obtain ⟨x5, e5⟩ := some_of_len hlen (i := 5) (by decide)
  obtain ⟨x6, e6⟩ := some_of_len hlen (i := 6) (by decide)
  have h0 : DataW.trod enc Tryd.prog W base sp held n 3 (List.take (Tryd.prog.cellsOf 3) (List.drop 0 [c0, c1, c2, c3, c4, c5, c6, c7, c8, c9])) = some x0 := (hf 0 _ rfl).trans e0
  have h1 : DataW.trod enc Tryd.prog W base sp held n 3 (List.take (Tryd.prog.cellsOf 3) (List.drop 1 [c0, c1, c2, c3, c4, c5, c6, c7, c8, c9])) = some x1 := (hf 1 _ rfl).trans e1
  have h2 : DataW.trod enc Tryd.prog W base sp held n 3 (List.take (Tryd.prog.cellsOf 3) (List.drop 2 [c0, c1, c2, c3, c4, c5, c6, c7, c8, c9])) = some x2 := (hf 2 _ rfl).trans e2
  have h3 : DataW.trod enc Tryd.prog W base sp held n 3 (List.take (Tryd.prog.cellsOf 3) (List.drop 3 [c0, c1, c2, c3, c4, c5, c6, c7, c8, c9])) = some x3 := (hf 3 _ rfl).trans e3
  have h4 : DataW.trod enc Tryd.prog W base sp held n 56 (List.take (Tryd.prog.cellsOf 56) (List.drop 4 [c0, c1, c2, c3, c4, c5, c6, c7, c8, c9])) = some x4 := (hf 4 _ rfl).trans e4
  have h5 : DataW.trod enc Tryd.prog W base sp held n 3 (List.take (Tryd.prog.cellsOf 3) (List.drop 8 [c0, c1, c2, c3, c4, c5, c6, c7, c8, c9])) = some x5 := (hf 5 _ rfl).trans e5
  have h6 : DataW.trod enc Tryd.prog W base sp held n 4 (List.take (Tryd.prog.cellsOf 4) (List.drop 9 [c0, c1, c2, c3, c4, c5, c6, c7, c8, c9])) = some x6 := (hf 6 _ rfl).trans e6
  clear hf e0 h
  rw [cellsI] at h0 h1 h2 h3 h5
  rw [cellsC] at h4
  rw [cellsB] at h6
  obtain ⟨a0, q0, _, _⟩ := DataW.trod_int Tryd.underlying3 h0
  obtain ⟨a1, q1, _, _⟩ := DataW.trod_int Tryd.underlying3 h1
  obtain ⟨a2, q2, _, _⟩ := DataW.trod_int Tryd.underlying3 h2
  obtain ⟨a3, q3, _, _⟩ := DataW.trod_int Tryd.underlying3 h3
  obtain ⟨a4, a5, a6, a7, r4, r5, r6, r7, b7⟩ := cut_trod (show DataW.trod enc Tryd.prog W base sp held n 56 [c4, c5, c6, c7] = some x4 from h4)
  obtain ⟨a8, q8, _, _⟩ := DataW.trod_int Tryd.underlying3 h5
  obtain ⟨a9, q9, _⟩ := DataW.trod_bool Tryd.underlying4 h6
  simp at q0 q1 q2 q3 q8 q9
  exact ⟨a0, a1, a2, a3, a4, a5, a6, a7, a8, a9, by rw [q0, q1, q2, q3, r4, r5, r6, r7, q8, q9], b7⟩
theorem super_trod {fuel : Nat} {c0 c1 c2 c3 c4 c5 c6 c7 c8 c9 c10 c11 : Value} {x : DataW H × List MemPlace} (h : DataW.trod enc Tryd.prog W base sp held fuel 89 [c0, c1, c2, c3, c4, c5, c6, c7, c8, c9, c10, c11] = some x) :
    ∃ (gen : Nat) (root sector sectors journal pack cmin cnorm cmax : Int) (seed : Nat) (nbits : Int) (dd : Bool), #[c0, c1, c2, c3, c4, c5, c6, c7, c8, c9, c10, c11] = #[.int .u64 gen, .int .i64 root, .int .i64 sector, .int .i64 sectors, .int .i64 journal, .int .i64 pack, .int .i64 cmin, .int .i64 cnorm, .int .i64 cmax, .int .u64 seed, .int .i64 nbits, .bool dd] ∧ gen < 18446744073709551616 ∧ seed < 18446744073709551616 := by
  obtain ⟨xs, n, _, _, _, hlen, hf⟩ := DataW.trod_struct Tryd.underlying89 h
  obtain ⟨x0, e0⟩ := some_of_len hlen (i := 0) (by decide)
  obtain ⟨x1, e1⟩ := some_of_len hlen (i := 1) (by decide)
  obtain ⟨x2, e2⟩ := some_of_len hlen (i := 2) (by decide)
  have h0 : DataW.trod enc Tryd.prog W base sp held n 26 (List.take (Tryd.prog.cellsOf 26) (List.drop 0 [c0, c1, c2, c3, c4, c5, c6, c7, c8, c9, c10, c11])) = some x0 := (hf 0 _ rfl).trans e0
  have h1 : DataW.trod enc Tryd.prog W base sp held n 3 (List.take (Tryd.prog.cellsOf 3) (List.drop 1 [c0, c1, c2, c3, c4, c5, c6, c7, c8, c9, c10, c11])) = some x1 := (hf 1 _ rfl).trans e1
  have h2 : DataW.trod enc Tryd.prog W base sp held n 58 (List.take (Tryd.prog.cellsOf 58) (List.drop 2 [c0, c1, c2, c3, c4, c5, c6, c7, c8, c9, c10, c11])) = some x2 := (hf 2 _ rfl).trans e2
  clear hf e0 h
  rw [cellsU] at h0
  rw [cellsI] at h1
  rw [cellsS] at h2
  obtain ⟨d, q0, _, w0⟩ := DataW.trod_int Tryd.underlying26 h0
  obtain ⟨a1, q1, _, _⟩ := DataW.trod_int Tryd.underlying3 h1
  obtain ⟨s0, s1, s2, s3, s4, s5, s6, s7, s8, s9, e, b7⟩ := shape_trod (show DataW.trod enc Tryd.prog W base sp held n 58 [c2, c3, c4, c5, c6, c7, c8, c9, c10, c11] = some x2 from h2)
  simp at q0 q1
  have b0 : 0 ≤ d ∧ d ≤ 18446744073709551615 := by simpa [Lit.wf, IntKind.min, IntKind.max, IntKind.signed, IntKind.bits] using w0
  obtain ⟨m, rfl⟩ := Int.eq_ofNat_of_zero_le b0.1
  simp only [Array.mk.injEq, List.cons.injEq, and_true] at e
  obtain ⟨rfl, rfl, rfl, rfl, rfl, rfl, rfl, rfl, rfl, rfl⟩ := e
  exact ⟨m, a1, s0, s1, s2, s3, s4, s5, s6, s7, s8, s9, by rw [q0, q1], by omega, b7⟩
set_option maxRecDepth 100000 in
theorem shape_open {r : Reach} {b0 : Nat} {v : Value} {d : DataW H} {p : List MemPlace} (hv : Value.okWide Tryd.prog W r b0 58 v) (h : DataW.Trod enc Tryd.prog W base sp held 58 v d p) :
    ∃ (sector sectors journal pack cmin cnorm cmax : Int) (seed : Nat) (nbits : Int) (dd : Bool), v = .agg #[.int .i64 sector, .int .i64 sectors, .int .i64 journal, .int .i64 pack, .int .i64 cmin, .int .i64 cnorm, .int .i64 cmax, .int .u64 seed, .int .i64 nbits, .bool dd] ∧ seed < 18446744073709551616 := by
  obtain ⟨cs, rfl, hsz⟩ := okWide_struct Tryd.underlying58 hv
  obtain ⟨c0, c1, c2, c3, c4, c5, c6, c7, c8, c9, rfl⟩ := arr10 (hsz.trans cellsS)
  obtain ⟨fuel, hf⟩ := h
  obtain ⟨s0, s1, s2, s3, s4, s5, s6, s7, s8, s9, e, b7⟩ := shape_trod hf
  exact ⟨s0, s1, s2, s3, s4, s5, s6, s7, s8, s9, by rw [e], b7⟩
set_option maxRecDepth 100000 in
theorem super_open {r : Reach} {b0 : Nat} {v : Value} {d : DataW H} {p : List MemPlace} (hv : Value.okWide Tryd.prog W r b0 89 v) (h : DataW.Trod enc Tryd.prog W base sp held 89 v d p) :
    ∃ (gen : Nat) (root sector sectors journal pack cmin cnorm cmax : Int) (seed : Nat) (nbits : Int) (dd : Bool), v = .agg #[.int .u64 gen, .int .i64 root, .int .i64 sector, .int .i64 sectors, .int .i64 journal, .int .i64 pack, .int .i64 cmin, .int .i64 cnorm, .int .i64 cmax, .int .u64 seed, .int .i64 nbits, .bool dd] ∧ gen < 18446744073709551616 ∧ seed < 18446744073709551616 := by
  obtain ⟨cs, rfl, hsz⟩ := okWide_struct Tryd.underlying89 hv
  obtain ⟨c0, c1, c2, c3, c4, c5, c6, c7, c8, c9, c10, c11, rfl⟩ := arr12 (hsz.trans cellsX)
  obtain ⟨fuel, hf⟩ := h
  obtain ⟨g, r, s0, s1, s2, s3, s4, s5, s6, s7, s8, s9, e, b0, b7⟩ := super_trod hf
  exact ⟨g, r, s0, s1, s2, s3, s4, s5, s6, s7, s8, s9, by rw [e], b0, b7⟩
end
end Go.Proofs.YtilkpboegpfijaaDoor
