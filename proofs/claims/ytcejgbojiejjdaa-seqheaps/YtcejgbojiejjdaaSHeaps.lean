/- SeqHeaps, walked. -/
import Derived.Test.YtcejgbojiejjdaaM8
import Derived.Test.YtcejgbojiejjdaaQR
namespace Go.Proofs.Ytcejgbojiejjdaa
open Go.ChangeShapes Go.WideShapes Go.ChangeAt Go.RowKit Go.Joins Go.ChangeMaps
set_option linter.unusedVariables false
set_option maxRecDepth 100000 in
theorem ints_open {H : Type} {enc : TypeId × Value → H} {W : World} {base : Nat} {v : Value} {d : DataW H} {p : List MemPlace} (hv : Value.okWide Try.prog W .any base 22 v) (h : DataW.Trod enc Try.prog W 0 (fun _ => true) true 22 v d p)
    (ts : List TypeId) (ds : List (DataW H)) (j : Nat) (hall : (DataW.weightsEach Try.prog ts ds).all (· ≤ reachBytes) = true) (hts : ts[j]? = some 22) (hds : ds[j]? = some d) :
    ∃ l : List Int, Ints W v l ∧ l.length * 8 ≤ 140737488351232 ∧ (∀ a k c, v = .slice (some a) k c → 0 < k → a.block < W.heap.size) := by
  obtain ⟨a1, len1, cap1, rfl⟩ := okWide_slice Try.underlying22 hv
  obtain ⟨fuel, hf⟩ := h
  rcases open_ints Try.underlying22 Try.underlying3 cellsI1 hf with ⟨hcs, hx⟩ | ⟨a, len, cap, zs, hcs, _, hl, hm, hz, hx, hcell, hwz⟩
  · simp [Value.cells] at hcs
    obtain ⟨rfl, rfl, rfl⟩ := hcs
    exact ⟨[], Or.inl ⟨rfl, rfl⟩, by simp, fun a k c e => by cases e⟩
  · simp [Value.cells] at hcs
    obtain ⟨rfl, rfl, rfl⟩ := hcs
    simp only [if_pos] at hz
    have hlen : (zs.take len1).length = len1 := by rw [List.length_take]; omega
    have hcl : ∀ j (hj : j < (zs.take len1).length), W.cell? (a.add j) = some (.int .i64 (zs.take len1)[j]) := fun j hj => by
      rw [hlen] at hj
      have hjz : j < zs.length := by omega
      rw [hcell j hjz]
      simp [hjz]
    refine ⟨zs.take len1, Or.inr ⟨a, cap1, by rw [hlen], hcl⟩, ?_, ?_⟩
    · have hd : d = .slice (lits .i64 (zs.take len1)) (lits .i64 (zs.drop len1)) := congrArg Prod.fst hx
      rw [hd] at hds
      have := sized_slice hall (j := j) hts hds Try.underlying22
      rw [bytesI] at this
      simp only [lits, List.length_map, List.length_take, List.length_drop, reachBytes] at this
      rw [hlen]
      omega
    · intro a' k c e hk
      obtain ⟨rfl, rfl, rfl⟩ : a = a' ∧ len1 = k ∧ cap1 = c := by simpa using e
      have h0 := hcl 0 (by omega)
      have := World.block_lt_of_cell? W _ h0
      rwa [add_block] at this
theorem min_eq {L s : List Int} (h : IsHeap ltI L) (hp : s.Perm L) (hs : SI s) (h0 : 0 < L.length) (h1 : 0 < s.length) : L[0] = s[0] := by
  have e1 : s[0] ≤ L[0] := by
    have : L[0] ∈ s := hp.symm.subset (List.getElem_mem _)
    obtain ⟨j, hj, e⟩ := List.getElem_of_mem this
    rw [← e]
    rcases Nat.eq_zero_or_pos j with rfl | hj0
    · exact Int.le_refl _
    · exact List.pairwise_iff_getElem.1 hs 0 j h1 hj hj0
  have e2 : L[0] ≤ s[0] := by
    have : s[0] ∈ L := hp.subset (List.getElem_mem _)
    obtain ⟨j, hj, e⟩ := List.getElem_of_mem this
    have := heap_min ordI h j hj
    rw [e] at this
    simpa [ltI] using this
  omega
/-- The law's list, apart from the heap. -/
structure InL (g : Nat) (s : List Int) (a : Option Addr) (c : Nat) (w : World) : Prop where
  cells : ∀ j (hj : j < s.length), ∃ q off, a = some ⟨q, off, none⟩ ∧ w.cell? ⟨q, off + j, none⟩ = some (.int .i64 s[j]) ∧ q ≠ g ∧ rowOf w g 0 ≠ some q
  cap : s.length ≤ c
theorem InL.heap {g C : Nat} {s : List Int} {a : Option Addr} {c : Nat} {L : List Int} {w w' : World} (h : InL g s a c w) (hh : HI C g L w) (f : HFI g w w') : InL g s a c w' := by
  refine ⟨fun j hj => ?_, h.cap⟩
  obtain ⟨q, off, e, hc, n1, n2⟩ := h.cells j hj
  refine ⟨q, off, e, Kept.cell f.kept (fun hs => hs.elim n1 n2) hc, n1, fun e' => n2 (f.row q ?_ e')⟩
  exact World.block_lt_of_cell? w _ hc
theorem InL.same {g C : Nat} {s : List Int} {a : Option Addr} {c : Nat} {L : List Int} {w w' : World} (h : InL g s a c w) (hh : HI C g L w) (k : Same w w') : InL g s a c w' := by
  refine ⟨fun j hj => ?_, h.cap⟩
  obtain ⟨q, off, e, hc, n1, n2⟩ := h.cells j hj
  exact ⟨q, off, e, Kept.cell k (fun h => h) hc, n1, by rw [rowOf_same hh.lt.1 k]; exact n2⟩
theorem InL.tail {g : Nat} {s : List Int} {q off c : Nat} {w : World} (h : InL g s (some ⟨q, off, none⟩) c w) (a' : Option Addr) (c' : Nat) (hc : s.length - 1 ≤ c') (ha : 1 < s.length → a' = some ⟨q, off + 1, none⟩) : InL g s.tail a' c' w := by
  refine ⟨fun j hj => ?_, by rw [List.length_tail]; exact hc⟩
  rw [List.length_tail] at hj
  obtain ⟨q', off', e, hc', n1, n2⟩ := h.cells (j + 1) (by omega)
  simp only [Option.some.injEq, Addr.mk.injEq, and_true] at e
  obtain ⟨rfl, rfl⟩ := e
  refine ⟨q, off + 1, ha (by omega), ?_, n1, n2⟩
  rw [List.getElem_tail, ← hc']
  congr 2
  omega
/-- A row made behind the heap. -/
theorem InL.new {g C B : Nat} {s : List Int} {L : List Int} {w0 w : World} {u : Value} (hh : HI C g L w0) (k : Same w0 w) (h : w.ownsRow w0.heap.size 3 1 u s.length (s.map kI)) : ∃ a c, u = .slice a s.length c ∧ InL g s a c w := by
  obtain ⟨a, c, rfl⟩ := own_form h
  refine ⟨a, c, rfl, fun j hj => ?_, own_cap0 h⟩
  rcases h.2 with ⟨_, e⟩ | ⟨q, cap', cur, e, hq, _⟩
  · omega
  · simp only [Value.slice.injEq] at e
    obtain ⟨rfl, _, rfl⟩ := e
    have hl := hh.lt
    refine ⟨q, 0, rfl, by rw [Nat.zero_add]; exact own_ints h j hj, by omega, fun e' => ?_⟩
    rw [rowOf_same hl.1 k] at e'
    have := (hl.2 q e').2
    omega
end Go.Proofs.Ytcejgbojiejjdaa
