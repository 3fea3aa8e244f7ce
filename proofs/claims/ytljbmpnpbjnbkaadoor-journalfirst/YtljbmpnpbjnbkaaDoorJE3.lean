/- A slice of deduplaw07's steps among a law's arguments, opened: with the bound of its texts. -/
import Derived.Test.YtljbmpnpbjnbkaaDoorCTab
import Derived.Test.YtljbmpnpbjnbkaaDoorJB
import Derived.Deep.Slices
namespace Go.Proofs.YtljbmpnpbjnbkaaDoor
open Go.ChangeShapes Go.WideShapes Go.ChangeAt Go.RowKit Go.Joins Go.ChangeMaps
set_option linter.unusedVariables false
/-- A slice of steps, by their places. -/
def JOps (w : World) (v : Value) (n : Nat) (f : Nat → Int × ByteArray) : Prop :=
  ∃ a cap, v = .slice a n cap ∧ (0 < n → ∃ b off, a = some ⟨b, off, none⟩ ∧ ∀ i, i < n → (f i).2.size ≤ 140737488351232 ∧ w.cell? ⟨b, off + i * 2, none⟩ = some (.int .i64 (f i).1) ∧ w.cell? ⟨b, off + i * 2 + 1, none⟩ = some (.string (f i).2))
theorem cellsJO : Tryd.prog.cellsOf 33 = 2 := by kernel_rfl
theorem bytesJO : Tryd.prog.bytesOf 33 = 24 := by kernel_rfl
theorem cellsJI : Tryd.prog.cellsOf 3 = 1 := by kernel_rfl
theorem cellsJS : Tryd.prog.cellsOf 9 = 1 := by kernel_rfl
theorem jadd_plain (b off j : Nat) : (⟨b, off, none⟩ : Addr).add j = ⟨b, off + j, none⟩ := by simp [Addr.add]
theorem jsize_list (s : ByteArray) : s.data.toList.length = s.size := by rw [Array.length_toList]; rfl
theorem jweights_all_mem {H : Type} {P : Program} {e : TypeId} {x : DataW H} {n : Nat} (hn : n ∈ x.weights P e) : ∀ ds : List (DataW H), x ∈ ds → n ∈ DataW.weightsAll P e ds
  | [], h => by cases h
  | y :: ys, h => by
    rcases List.mem_cons.1 h with rfl | h
    · simp [DataW.weightsAll, hn]
    · simp [DataW.weightsAll, jweights_all_mem hn ys h]
theorem jop_trod {H : Type} {enc : TypeId × Value → H} {W : World} {base : Nat} {sp : Nat → Bool} {held : Bool} {fuel : Nat} {c0 c1 : Value} {x : DataW H × List MemPlace} (h : DataW.trod enc Tryd.prog W base sp held fuel 33 [c0, c1] = some x) :
    ∃ (kind : Int) (S : ByteArray), c0 = .int .i64 kind ∧ c1 = .string S ∧ S.data.toList.length ∈ x.1.weights Tryd.prog 33 := by
  obtain ⟨xs, n, _, hx, _, hlen, hf⟩ := DataW.trod_struct Tryd.underlying33 h
  have hl : xs.length = 2 := hlen
  match xs, hl with
  | [x0, x1], _ =>
    have h0 : DataW.trod enc Tryd.prog W base sp held n 3 (List.take (Tryd.prog.cellsOf 3) (List.drop 0 [c0, c1])) = some x0 := hf 0 _ rfl
    have h1 : DataW.trod enc Tryd.prog W base sp held n 9 (List.take (Tryd.prog.cellsOf 9) (List.drop 1 [c0, c1])) = some x1 := hf 1 _ rfl
    rw [cellsJI] at h0
    rw [cellsJS] at h1
    obtain ⟨a, q0, _, _⟩ := DataW.trod_int Tryd.underlying3 h0
    obtain ⟨s, q1, hx1, _⟩ := DataW.trod_string Tryd.underlying9 h1
    simp at q0 q1
    refine ⟨a, s, q0, q1, ?_⟩
    rw [hx, hx1]
    simp [DataW.weights, DataW.weightsEach, Tryd.underlying33]
set_option maxRecDepth 100000 in
theorem jops_open {H : Type} {enc : TypeId × Value → H} {W : World} {base : Nat} {v : Value} {d : DataW H} {p : List MemPlace} (hv : Value.okWide Tryd.prog W .any base 23 v) (h : DataW.Trod enc Tryd.prog W 0 (fun _ => true) true 23 v d p)
    (ts : List TypeId) (ds : List (DataW H)) (j : Nat) (hall : (DataW.weightsEach Tryd.prog ts ds).all (· ≤ reachBytes) = true) (hts : ts[j]? = some 23) (hds : ds[j]? = some d) :
    ∃ (n : Nat) (f : Nat → Int × ByteArray), JOps W v n f ∧ n ≤ 140737488351232 := by
  obtain ⟨a1, len1, cap1, rfl⟩ := okWide_slice Tryd.underlying23 hv
  obtain ⟨fuel, hf⟩ := h
  rcases DataW.trod_slice Tryd.underlying23 hf with ⟨hcs, hx⟩ | ⟨a, len, cap, elems, rest, n, _, hcs, hx, _, hl, hm, he, hel, _, _⟩
  · simp [Value.cells] at hcs
    obtain ⟨rfl, rfl, rfl⟩ := hcs
    exact ⟨0, fun _ => (0, ⟨#[]⟩), ⟨none, 0, rfl, fun h => by omega⟩, by omega⟩
  · simp [Value.cells] at hcs
    obtain ⟨rfl, rfl, rfl⟩ := hcs
    rw [cellsJO] at hel
    have hd : d = .slice (elems.map (·.1)) (rest.map (·.1)) := congrArg Prod.fst hx
    rw [hd] at hds
    have key : ∀ i, i < len1 → ∃ q : Int × ByteArray, q.2.size ≤ 140737488351232 ∧ W.cell? (a.add (i * 2)) = some (.int .i64 q.1) ∧ W.cell? ((a.add (i * 2)).add 1) = some (.string q.2) := by
      intro i hi
      have h1 := hel i hi
      have h2 : elems[i]? = some elems[i] := List.getElem?_eq_getElem (by omega)
      rw [h2] at h1
      obtain ⟨cs, hc, ht⟩ := Option.bind_eq_some_iff.1 h1
      obtain ⟨_, hcl, hcc⟩ := World.cells?_some hc
      match cs, hcl with
      | [c0, c1], _ =>
        obtain ⟨kind, S, rfl, rfl, hS⟩ := jop_trod ht
        have z0 := hcc 0 (by decide)
        have hw : S.data.toList.length ∈ DataW.weights Tryd.prog 23 (DataW.slice (elems.map (·.1)) (rest.map (·.1))) := by
          have hm := jweights_all_mem hS (elems.map (·.1)) (List.mem_map.2 ⟨elems[i], List.getElem_mem _, rfl⟩)
          simp only [DataW.weights, Tryd.underlying23]
          exact List.mem_cons_of_mem _ (List.mem_append_left _ hm)
        have hle := of_decide_eq_true (List.all_eq_true.1 hall _ (DataW.weights_mem_each hts hds _ hw))
        unfold reachBytes at hle
        rw [jsize_list] at hle
        exact ⟨(kind, S), by show S.size ≤ _; omega, by simpa [Addr.add] using z0, hcc 1 (by decide)⟩
    obtain ⟨f, hfk⟩ := Go.Deep.choose_lt key
    refine ⟨len1, f, ⟨some a, cap1, rfl, fun hpos => ?_⟩, ?_⟩
    · obtain ⟨b, off, spot⟩ := a
      have hspot : spot = none := by
        obtain ⟨_, h0, _⟩ := hfk 0 hpos
        simpa [Addr.add] using World.cell?_spot h0
      subst hspot
      refine ⟨b, off, rfl, fun i hi => ?_⟩
      obtain ⟨hS, h0, h1⟩ := hfk i hi
      rw [jadd_plain] at h0 h1
      rw [jadd_plain] at h1
      exact ⟨hS, h0, h1⟩
    · have := sized_slice hall (j := j) hts hds Tryd.underlying23
      rw [bytesJO] at this
      simp only [List.length_map, reachBytes] at this
      omega
end Go.Proofs.YtljbmpnpbjnbkaaDoor
