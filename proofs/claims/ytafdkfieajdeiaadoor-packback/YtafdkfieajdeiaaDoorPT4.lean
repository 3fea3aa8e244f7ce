/- A slice of deduplaw13's steps with all their fields, among a law's arguments: opened. -/
import Derived.Test.YtafdkfieajdeiaaDoorCTab
import Derived.Test.YtafdkfieajdeiaaDoorK10
import Derived.OpenShut
import Derived.Deep.Slices
/- pack: bytes among a law's arguments, opened. -/
namespace Go.Proofs.YtafdkfieajdeiaaDoor
open Go.ChangeShapes Go.WideShapes Go.ChangeAt Go.RowKit Go.Joins Go.ChangeMaps
set_option linter.unusedVariables false
theorem cellsY : Tryd.prog.cellsOf 5 = 1 := by kernel_rfl
theorem bytesY : Tryd.prog.bytesOf 5 = 1 := by kernel_rfl
set_option maxRecDepth 100000 in
/-- Bytes among a law's arguments, opened. -/
theorem bytes_open {H : Type} {enc : TypeId × Value → H} {W : World} {base : Nat} {v : Value} {d : DataW H} {p : List MemPlace} (hv : Value.okWide Tryd.prog W .any base 32 v) (h : DataW.Trod enc Tryd.prog W 0 (fun _ => true) true 32 v d p) :
    ∃ l : List UInt8, Bt W v l ∧
      ∀ (ts : List TypeId) (ds : List (DataW H)) (j : Nat), (DataW.weightsEach Tryd.prog ts ds).all (· ≤ reachBytes) = true → ts[j]? = some 32 → ds[j]? = some d → l.length ≤ 140737488351232 := by
  obtain ⟨a1, len1, cap1, rfl⟩ := okWide_slice Tryd.underlying32 hv
  obtain ⟨fuel, hf⟩ := h
  rcases open_ints Tryd.underlying32 Tryd.underlying5 cellsY hf with ⟨hcs, hx⟩ | ⟨a, len, cap, zs, hcs, hq, hl, hm, hz, hx, hcell, hwz⟩
  · simp [Value.cells] at hcs
    obtain ⟨rfl, rfl, rfl⟩ := hcs
    exact ⟨[], Bt.nil _, fun _ _ _ _ _ _ => by simp⟩
  · simp [Value.cells] at hcs
    obtain ⟨rfl, rfl, rfl⟩ := hcs
    simp only [if_pos] at hz
    have hb : ∀ z ∈ zs, 0 ≤ z ∧ z ≤ 255 := fun z hz' => by simpa [Lit.wf, IntKind.min, IntKind.max, IntKind.signed, IntKind.bits] using hwz z hz'
    have hlen : ((zs.take len1).map fun z => UInt8.ofNat z.toNat).length = len1 := by rw [List.length_map, List.length_take]; omega
    have hkey : ∀ j x, ((zs.take len1).map fun z => UInt8.ofNat z.toNat)[j]? = some x → W.cell? (a.add j) = some (U8 x) := by
      intro j x hj
      have hj1 : j < len1 := by have := (List.getElem?_eq_some_iff.1 hj).1; rw [hlen] at this; exact this
      have hjz : j < zs.length := by omega
      rw [hcell j hjz]
      have h1 : zs.getD j 0 = zs[j] := by simp [hjz]
      have h3 := hb zs[j] (List.getElem_mem hjz)
      rw [h1, U8_of _ h3.1 h3.2]
      simp [hj1, hjz] at hj
      rw [hj]
    refine ⟨(zs.take len1).map fun z => UInt8.ofNat z.toNat, ⟨some a, cap1, by rw [hlen], by rw [hlen]; omega, fun hp => ?_⟩, ?_⟩
    · obtain ⟨b, off, spot⟩ := a
      have h0 := hkey 0 _ (List.getElem?_eq_getElem hp)
      have hspot : spot = none := by simpa [Addr.add] using World.cell?_spot h0
      subst hspot
      refine ⟨b, off, rfl, fun j hj => ?_⟩
      have := hkey j _ (List.getElem?_eq_getElem hj)
      rwa [add_none] at this
    · intro ts ds j hall hts hds
      have hd : d = .slice (lits .u8 (zs.take len1)) (lits .u8 (zs.drop len1)) := congrArg Prod.fst hx
      rw [hd] at hds
      have := sized_slice hall (j := j) hts hds Tryd.underlying32
      rw [bytesY] at this
      simp only [lits, List.length_map, List.length_take, List.length_drop, reachBytes] at this
      rw [hlen]
      omega
end Go.Proofs.YtafdkfieajdeiaaDoor
namespace Go.Proofs.YtafdkfieajdeiaaDoor
open Go.ChangeShapes Go.WideShapes Go.ChangeAt Go.RowKit Go.Joins Go.ChangeMaps
set_option linter.unusedVariables false
/-- A step. -/
structure POp where
  kind : Int
  N : Int
  bv : Value
  bs : List UInt8
  off : Int
  len : Int
instance : Inhabited POp := ⟨⟨0, 0, .slice none 0 0, [], 0, 0⟩⟩
def I64 (z : Int) : Prop := -9223372036854775808 ≤ z ∧ z ≤ 9223372036854775807
structure POp.ok (w : World) (p : POp) : Prop where
  kind : I64 p.kind
  N : I64 p.N
  bytes : Bt w p.bv p.bs
  len : p.bs.length ≤ 140737488351232
  off : I64 p.off
  many : I64 p.len
  blk : ∀ k, 0 < p.bs.length → p.bv.ownBlock = some k → k < w.heap.size
def POps (w : World) (v : Value) (n : Nat) (f : Nat → POp) : Prop :=
  ∃ a cap, v = .slice a n cap ∧ (0 < n → ∃ b off, a = some ⟨b, off, none⟩ ∧ ∀ i, i < n → (f i).ok w ∧ w.cell? ⟨b, off + i * 5, none⟩ = some (.int .i64 (f i).kind) ∧ w.cell? ⟨b, off + i * 5 + 1, none⟩ = some (.int .i64 (f i).N) ∧ w.cell? ⟨b, off + i * 5 + 2, none⟩ = some (f i).bv ∧ w.cell? ⟨b, off + i * 5 + 3, none⟩ = some (.int .i64 (f i).off) ∧ w.cell? ⟨b, off + i * 5 + 4, none⟩ = some (.int .i64 (f i).len))
theorem cellsPO : Tryd.prog.cellsOf 36 = 5 := by kernel_rfl
theorem bytesPO : Tryd.prog.bytesOf 36 = 56 := by kernel_rfl
theorem cellsPI : Tryd.prog.cellsOf 3 = 1 := by kernel_rfl
theorem cellsPS : Tryd.prog.cellsOf 34 = 2 := by kernel_rfl
theorem cellsPB : Tryd.prog.cellsOf 32 = 1 := by kernel_rfl
theorem i64_wf {z : Int} (h : (Lit.int .i64 z).wf = true) : I64 z := by
  simpa [I64, Lit.wf, IntKind.min, IntKind.max, IntKind.signed, IntKind.bits] using h
theorem weights_mem_all {H : Type} {P : Program} {e : TypeId} : ∀ {ds : List (DataW H)} {j : Nat} {d : DataW H}, ds[j]? = some d → ∀ n ∈ d.weights P e, n ∈ DataW.weightsAll P e ds
  | d0 :: ds, 0, d, hd, n, hn => by
    simp only [List.getElem?_cons_zero, Option.some.injEq] at hd
    subst hd
    simp only [DataW.weightsAll, List.mem_append]
    exact Or.inl hn
  | d0 :: ds, j + 1, d, hd, n, hn => by
    simp only [List.getElem?_cons_succ] at hd
    simp only [DataW.weightsAll, List.mem_append]
    exact Or.inr (weights_mem_all hd n hn)
  | [], _, _, hd, _, _ => by simp at hd
theorem bytes_trod {H : Type} {enc : TypeId × Value → H} {W : World} {held : Bool} {fuel : Nat} {c : Value} {x : DataW H × List MemPlace} (h : DataW.trod enc Tryd.prog W 0 (fun _ => true) held fuel 32 [c] = some x) (hw : ∀ q ∈ x.1.weights Tryd.prog 32, q ≤ reachBytes) :
    ∃ l : List UInt8, Bt W c l ∧ l.length ≤ 140737488351232 ∧ ∀ k, 0 < l.length → c.ownBlock = some k → k < W.heap.size := by
  rcases open_ints Tryd.underlying32 Tryd.underlying5 cellsY h with ⟨hcs, hx⟩ | ⟨a, len1, cap1, zs, hcs, hq, hl, hm, hz, hx, hcell, hwz⟩
  · have hc : c = .slice none 0 0 := by simpa using hcs
    subst hc
    exact ⟨[], Bt.nil _, by simp, fun k h => by simp at h⟩
  · have hc : c = .slice (some a) len1 cap1 := by simpa using hcs
    subst hc
    simp only [if_pos] at hz
    have hb : ∀ z ∈ zs, 0 ≤ z ∧ z ≤ 255 := fun z hz' => by simpa [Lit.wf, IntKind.min, IntKind.max, IntKind.signed, IntKind.bits] using hwz z hz'
    have hlen : ((zs.take len1).map fun z => UInt8.ofNat z.toNat).length = len1 := by rw [List.length_map, List.length_take]; omega
    have hkey : ∀ j x, ((zs.take len1).map fun z => UInt8.ofNat z.toNat)[j]? = some x → W.cell? (a.add j) = some (U8 x) := by
      intro j x hj
      have hj1 : j < len1 := by have := (List.getElem?_eq_some_iff.1 hj).1; rw [hlen] at this; exact this
      have hjz : j < zs.length := by omega
      rw [hcell j hjz]
      have h1 : zs.getD j 0 = zs[j] := by simp [hjz]
      have h3 := hb zs[j] (List.getElem_mem hjz)
      rw [h1, U8_of _ h3.1 h3.2]
      simp [hj1, hjz] at hj
      rw [hj]
    obtain ⟨b, off, spot⟩ := a
    have hspot : 0 < ((zs.take len1).map fun z => UInt8.ofNat z.toNat).length → spot = none := fun hp => by
      have h0 := hkey 0 _ (List.getElem?_eq_getElem hp)
      simpa [Addr.add] using World.cell?_spot h0
    refine ⟨(zs.take len1).map fun z => UInt8.ofNat z.toNat, ⟨_, cap1, by rw [hlen], by rw [hlen]; omega, fun hp => ?_⟩, ?_, fun k hp hk => ?_⟩
    · have := hspot hp
      subst this
      refine ⟨b, off, rfl, fun j hj => ?_⟩
      have := hkey j _ (List.getElem?_eq_getElem hj)
      rwa [add_none] at this
    · have hwx := hw ((lits .u8 (zs.take len1) ++ lits .u8 (zs.drop len1) : List (DataW H)).length * Tryd.prog.bytesOf 5) (by
        rw [hx]
        simp only [DataW.weights, Tryd.underlying32]
        rw [List.length_append]
        exact List.mem_cons_self ..)
      rw [bytesY] at hwx
      simp only [lits, List.length_append, List.length_map, List.length_take, List.length_drop, reachBytes] at hwx
      rw [hlen]
      omega
    · have := hspot hp
      subst this
      have h0 := hkey 0 _ (List.getElem?_eq_getElem hp)
      have h1 := World.block_lt_of_cell? W _ h0
      simp [Value.ownBlock] at hk
      subst hk
      simpa [Addr.add] using h1
theorem pop_trod {H : Type} {enc : TypeId × Value → H} {W : World} {held : Bool} {fuel : Nat} {c0 c1 c2 c3 c4 : Value} {x : DataW H × List MemPlace} (h : DataW.trod enc Tryd.prog W 0 (fun _ => true) held fuel 36 [c0, c1, c2, c3, c4] = some x) (hw : ∀ q ∈ x.1.weights Tryd.prog 36, q ≤ reachBytes) :
    ∃ p : POp, p.ok W ∧ c0 = .int .i64 p.kind ∧ c1 = .int .i64 p.N ∧ c2 = p.bv ∧ c3 = .int .i64 p.off ∧ c4 = .int .i64 p.len := by
  obtain ⟨xs, n, _, hx, _, hlen, hf⟩ := DataW.trod_struct Tryd.underlying36 h
  have hl : xs.length = 4 := hlen
  match xs, hl with
  | [x0, x1, x2, x3], _ =>
    have h0 : DataW.trod enc Tryd.prog W 0 (fun _ => true) held n 3 (List.take (Tryd.prog.cellsOf 3) (List.drop 0 [c0, c1, c2, c3, c4])) = some x0 := hf 0 _ rfl
    have h1 : DataW.trod enc Tryd.prog W 0 (fun _ => true) held n 3 (List.take (Tryd.prog.cellsOf 3) (List.drop 1 [c0, c1, c2, c3, c4])) = some x1 := hf 1 _ rfl
    have h2 : DataW.trod enc Tryd.prog W 0 (fun _ => true) held n 32 (List.take (Tryd.prog.cellsOf 32) (List.drop 2 [c0, c1, c2, c3, c4])) = some x2 := hf 2 _ rfl
    have h3 : DataW.trod enc Tryd.prog W 0 (fun _ => true) held n 34 (List.take (Tryd.prog.cellsOf 34) (List.drop 3 [c0, c1, c2, c3, c4])) = some x3 := hf 3 _ rfl
    rw [cellsPI] at h0 h1
    rw [cellsPB] at h2
    rw [cellsPS] at h3
    obtain ⟨a, q0, _, w0⟩ := DataW.trod_int Tryd.underlying3 h0
    obtain ⟨d, q1, _, w1⟩ := DataW.trod_int Tryd.underlying3 h1
    simp at q0 q1
    obtain ⟨l, b1, b2, b3⟩ := bytes_trod h2 (fun q hq => hw q (by
      have e : x.1 = .agg [x0.1, x1.1, x2.1, x3.1] := by rw [hx]; rfl
      rw [e]
      simp only [DataW.weights, Tryd.underlying36]
      exact DataW.weights_mem_each (j := 2) (t := 32) (d := x2.1) rfl rfl _ hq))
    obtain ⟨ys, m, _, _, _, hlen3, hf3⟩ := DataW.trod_struct Tryd.underlying34 h3
    have hl3 : ys.length = 2 := hlen3
    match ys, hl3 with
    | [y0, y1], _ =>
      have g0 : DataW.trod enc Tryd.prog W 0 (fun _ => true) held m 3 (List.take (Tryd.prog.cellsOf 3) (List.drop 0 [c3, c4])) = some y0 := hf3 0 _ rfl
      have g1 : DataW.trod enc Tryd.prog W 0 (fun _ => true) held m 3 (List.take (Tryd.prog.cellsOf 3) (List.drop 1 [c3, c4])) = some y1 := hf3 1 _ rfl
      rw [cellsPI] at g0 g1
      obtain ⟨o, r0, _, v0⟩ := DataW.trod_int Tryd.underlying3 g0
      obtain ⟨e, r1, _, v1⟩ := DataW.trod_int Tryd.underlying3 g1
      simp at r0 r1
      exact ⟨⟨a, d, c2, l, o, e⟩, ⟨i64_wf w0, i64_wf w1, b1, b2, i64_wf v0, i64_wf v1, b3⟩, q0, q1, rfl, r0, r1⟩
set_option maxRecDepth 100000 in
theorem pops_open {H : Type} {enc : TypeId × Value → H} {W : World} {base : Nat} {v : Value} {d : DataW H} {p : List MemPlace} (hv : Value.okWide Tryd.prog W .any base 23 v) (h : DataW.Trod enc Tryd.prog W 0 (fun _ => true) true 23 v d p)
    (ts : List TypeId) (ds : List (DataW H)) (j : Nat) (hall : (DataW.weightsEach Tryd.prog ts ds).all (· ≤ reachBytes) = true) (hts : ts[j]? = some 23) (hds : ds[j]? = some d) :
    ∃ (n : Nat) (f : Nat → POp), POps W v n f ∧ n * 56 ≤ 140737488351232 := by
  obtain ⟨a1, len1, cap1, rfl⟩ := okWide_slice Tryd.underlying23 hv
  obtain ⟨fuel, hf⟩ := h
  rcases DataW.trod_slice Tryd.underlying23 hf with ⟨hcs, hx⟩ | ⟨a, len, cap, elems, rest, n, _, hcs, hx, _, hl, hm, he, hel, _, _⟩
  · simp [Value.cells] at hcs
    obtain ⟨rfl, rfl, rfl⟩ := hcs
    exact ⟨0, fun _ => default, ⟨none, 0, rfl, fun h => by omega⟩, by omega⟩
  · simp [Value.cells] at hcs
    obtain ⟨rfl, rfl, rfl⟩ := hcs
    rw [cellsPO] at hel
    have hd : d = .slice (elems.map (·.1)) (rest.map (·.1)) := congrArg Prod.fst hx
    rw [hd] at hds
    have hwt : ∀ i (hi : i < elems.length), ∀ q ∈ elems[i].1.weights Tryd.prog 36, q ≤ reachBytes := fun i hi q hq => by
      have hmem : q ∈ (DataW.slice (elems.map (·.1)) (rest.map (·.1)) : DataW H).weights Tryd.prog 23 := by
        simp only [DataW.weights, Tryd.underlying23]
        refine List.mem_cons_of_mem _ (List.mem_append_left _ (weights_mem_all (j := i) (d := elems[i].1) ?_ q hq))
        rw [List.getElem?_map, List.getElem?_eq_getElem hi]
        rfl
      have := List.all_eq_true.1 hall _ (DataW.weights_mem_each hts hds q hmem)
      simpa using this
    have key : ∀ i, i < len1 → ∃ q : POp, q.ok W ∧ W.cell? (a.add (i * 5)) = some (.int .i64 q.kind) ∧ W.cell? ((a.add (i * 5)).add 1) = some (.int .i64 q.N) ∧ W.cell? ((a.add (i * 5)).add 2) = some q.bv ∧ W.cell? ((a.add (i * 5)).add 3) = some (.int .i64 q.off) ∧ W.cell? ((a.add (i * 5)).add 4) = some (.int .i64 q.len) := by
      intro i hi
      have h1 := hel i hi
      have h2 : elems[i]? = some elems[i] := List.getElem?_eq_getElem (by omega)
      rw [h2] at h1
      obtain ⟨cs, hc, ht⟩ := Option.bind_eq_some_iff.1 h1
      obtain ⟨_, hcl, hcc⟩ := World.cells?_some hc
      match cs, hcl with
      | [c0, c1, c2, c3, c4], _ =>
        obtain ⟨q, hq, rfl, rfl, rfl, rfl, rfl⟩ := pop_trod ht (hwt i (by omega))
        have z0 := hcc 0 (by decide)
        exact ⟨q, hq, by simpa [Addr.add] using z0, hcc 1 (by decide), hcc 2 (by decide), hcc 3 (by decide), hcc 4 (by decide)⟩
    obtain ⟨f, hfk⟩ := Go.Deep.choose_lt key
    refine ⟨len1, f, ⟨some a, cap1, rfl, fun hpos => ?_⟩, ?_⟩
    · obtain ⟨b, off, spot⟩ := a
      have hspot : spot = none := by
        obtain ⟨_, h0, _⟩ := hfk 0 hpos
        simpa [Addr.add] using World.cell?_spot h0
      subst hspot
      refine ⟨b, off, rfl, fun i hi => ?_⟩
      obtain ⟨hS, h0, h1, h2, h3, h4⟩ := hfk i hi
      rw [add_none] at h0 h1 h2 h3 h4
      rw [add_none] at h1 h2 h3 h4
      exact ⟨hS, h0, h1, h2, h3, h4⟩
    · have := sized_slice hall (j := j) hts hds Tryd.underlying23
      rw [bytesPO] at this
      simp only [List.length_map, reachBytes] at this
      omega
end Go.Proofs.YtafdkfieajdeiaaDoor
