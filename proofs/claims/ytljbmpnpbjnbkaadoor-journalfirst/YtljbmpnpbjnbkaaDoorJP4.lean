/- Slices of texts and of ints among a law's arguments, opened (with the bound of the texts). -/
import Derived.Test.YtljbmpnpbjnbkaaDoorJE3
namespace Go.Proofs.YtljbmpnpbjnbkaaDoor
open Go.ChangeShapes Go.WideShapes Go.ChangeAt Go.RowKit Go.Joins Go.ChangeMaps
set_option linter.unusedVariables false
def JStrs (w : World) (v : Value) (n : Nat) (f : Nat → ByteArray) : Prop :=
  ∃ a cap, v = .slice a n cap ∧ (0 < n → ∃ b off, a = some ⟨b, off, none⟩ ∧ ∀ i, i < n → (f i).size ≤ 140737488351232 ∧ w.cell? ⟨b, off + i, none⟩ = some (.string (f i)))
def JInts (w : World) (v : Value) (n : Nat) (f : Nat → Int) : Prop :=
  ∃ a cap, v = .slice a n cap ∧ (0 < n → ∃ b off, a = some ⟨b, off, none⟩ ∧ ∀ i, i < n → w.cell? ⟨b, off + i, none⟩ = some (.int .i64 (f i)))
theorem bytesJS : Tryd.prog.bytesOf 9 = 16 := by kernel_rfl
theorem bytesJI : Tryd.prog.bytesOf 3 = 8 := by kernel_rfl
set_option maxRecDepth 100000 in
theorem jstrs_open {H : Type} {enc : TypeId × Value → H} {W : World} {base : Nat} {v : Value} {d : DataW H} {p : List MemPlace} (hv : Value.okWide Tryd.prog W .any base 47 v) (h : DataW.Trod enc Tryd.prog W 0 (fun _ => true) true 47 v d p)
    (ts : List TypeId) (ds : List (DataW H)) (j : Nat) (hall : (DataW.weightsEach Tryd.prog ts ds).all (· ≤ reachBytes) = true) (hts : ts[j]? = some 47) (hds : ds[j]? = some d) :
    ∃ (n : Nat) (f : Nat → ByteArray), JStrs W v n f ∧ n ≤ 140737488351232 := by
  obtain ⟨a1, len1, cap1, rfl⟩ := okWide_slice Tryd.underlying47 hv
  obtain ⟨fuel, hf⟩ := h
  rcases DataW.trod_slice Tryd.underlying47 hf with ⟨hcs, hx⟩ | ⟨a, len, cap, elems, rest, n, _, hcs, hx, _, hl, hm, he, hel, _, _⟩
  · simp [Value.cells] at hcs
    obtain ⟨rfl, rfl, rfl⟩ := hcs
    exact ⟨0, fun _ => ⟨#[]⟩, ⟨none, 0, rfl, fun h => by omega⟩, by omega⟩
  · simp [Value.cells] at hcs
    obtain ⟨rfl, rfl, rfl⟩ := hcs
    rw [cellsJS] at hel
    have hd : d = .slice (elems.map (·.1)) (rest.map (·.1)) := congrArg Prod.fst hx
    rw [hd] at hds
    have key : ∀ i, i < len1 → ∃ q : ByteArray, q.size ≤ 140737488351232 ∧ W.cell? (a.add i) = some (.string q) := by
      intro i hi
      have h1 := hel i hi
      have h2 : elems[i]? = some elems[i] := List.getElem?_eq_getElem (by omega)
      rw [h2] at h1
      obtain ⟨cs, hc, ht⟩ := Option.bind_eq_some_iff.1 h1
      obtain ⟨_, hcl, hcc⟩ := World.cells?_some hc
      match cs, hcl with
      | [c0], _ =>
        obtain ⟨S, q0, hx1, _⟩ := DataW.trod_string Tryd.underlying9 ht
        simp at q0
        subst q0
        have z0 := hcc 0 (by decide)
        have hS : S.data.toList.length ∈ (elems[i]).1.weights Tryd.prog 9 := by
          rw [hx1]
          simp [DataW.weights]
        have hw : S.data.toList.length ∈ DataW.weights Tryd.prog 47 (DataW.slice (elems.map (·.1)) (rest.map (·.1))) := by
          have hm := jweights_all_mem hS (elems.map (·.1)) (List.mem_map.2 ⟨elems[i], List.getElem_mem _, rfl⟩)
          simp only [DataW.weights, Tryd.underlying47]
          exact List.mem_cons_of_mem _ (List.mem_append_left _ hm)
        have hle := of_decide_eq_true (List.all_eq_true.1 hall _ (DataW.weights_mem_each hts hds _ hw))
        unfold reachBytes at hle
        rw [jsize_list] at hle
        exact ⟨S, by omega, by simpa [Addr.add] using z0⟩
    obtain ⟨f, hfk⟩ := Go.Deep.choose_lt key
    refine ⟨len1, f, ⟨some a, cap1, rfl, fun hpos => ?_⟩, ?_⟩
    · obtain ⟨b, off, spot⟩ := a
      have hspot : spot = none := by
        obtain ⟨_, h0⟩ := hfk 0 hpos
        simpa [Addr.add] using World.cell?_spot h0
      subst hspot
      refine ⟨b, off, rfl, fun i hi => ?_⟩
      obtain ⟨hS, h0⟩ := hfk i hi
      rw [jadd_plain] at h0
      exact ⟨hS, h0⟩
    · have := sized_slice hall (j := j) hts hds Tryd.underlying47
      rw [bytesJS] at this
      simp only [List.length_map, reachBytes] at this
      omega
set_option maxRecDepth 100000 in
theorem jints_open {H : Type} {enc : TypeId × Value → H} {W : World} {base : Nat} {v : Value} {d : DataW H} {p : List MemPlace} (hv : Value.okWide Tryd.prog W .any base 55 v) (h : DataW.Trod enc Tryd.prog W 0 (fun _ => true) true 55 v d p)
    (ts : List TypeId) (ds : List (DataW H)) (j : Nat) (hall : (DataW.weightsEach Tryd.prog ts ds).all (· ≤ reachBytes) = true) (hts : ts[j]? = some 55) (hds : ds[j]? = some d) :
    ∃ (n : Nat) (f : Nat → Int), JInts W v n f ∧ n ≤ 140737488351232 := by
  obtain ⟨a1, len1, cap1, rfl⟩ := okWide_slice Tryd.underlying55 hv
  obtain ⟨fuel, hf⟩ := h
  rcases DataW.trod_slice Tryd.underlying55 hf with ⟨hcs, hx⟩ | ⟨a, len, cap, elems, rest, n, _, hcs, hx, _, hl, hm, he, hel, _, _⟩
  · simp [Value.cells] at hcs
    obtain ⟨rfl, rfl, rfl⟩ := hcs
    exact ⟨0, fun _ => 0, ⟨none, 0, rfl, fun h => by omega⟩, by omega⟩
  · simp [Value.cells] at hcs
    obtain ⟨rfl, rfl, rfl⟩ := hcs
    rw [cellsJI] at hel
    have hd : d = .slice (elems.map (·.1)) (rest.map (·.1)) := congrArg Prod.fst hx
    rw [hd] at hds
    have key : ∀ i, i < len1 → ∃ q : Int, W.cell? (a.add i) = some (.int .i64 q) := by
      intro i hi
      have h1 := hel i hi
      have h2 : elems[i]? = some elems[i] := List.getElem?_eq_getElem (by omega)
      rw [h2] at h1
      obtain ⟨cs, hc, ht⟩ := Option.bind_eq_some_iff.1 h1
      obtain ⟨_, hcl, hcc⟩ := World.cells?_some hc
      match cs, hcl with
      | [c0], _ =>
        obtain ⟨x, q0, _, _⟩ := DataW.trod_int Tryd.underlying3 ht
        simp at q0
        subst q0
        have z0 := hcc 0 (by decide)
        exact ⟨x, by simpa [Addr.add] using z0⟩
    obtain ⟨f, hfk⟩ := Go.Deep.choose_lt key
    refine ⟨len1, f, ⟨some a, cap1, rfl, fun hpos => ?_⟩, ?_⟩
    · obtain ⟨b, off, spot⟩ := a
      have hspot : spot = none := by
        have h0 := hfk 0 hpos
        simpa [Addr.add] using World.cell?_spot h0
      subst hspot
      refine ⟨b, off, rfl, fun i hi => ?_⟩
      have h0 := hfk i hi
      rw [jadd_plain] at h0
      exact h0
    · have := sized_slice hall (j := j) hts hds Tryd.underlying55
      rw [bytesJI] at this
      simp only [List.length_map, reachBytes] at this
      omega
theorem infoJI : (Tryd.prog.info? 3).map (fun i => (i.zero, i.size, i.bytes)) = some (some (.int .i64 0), 1, 8) := by kernel_rfl
end Go.Proofs.YtljbmpnpbjnbkaaDoor
