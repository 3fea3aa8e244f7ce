/- Texts among a law's arguments, opened (the first form's and the bounded form's). -/
import Derived.Test.YtabpjegigpmfmaaDoorPaK
import Derived.Deep.Strs
namespace Go.Proofs.YtabpjegigpmfmaaDoor
open Go.ChangeShapes Go.WideShapes Go.ChangeAt Go.RowKit Go.Joins Go.ChangeMaps
set_option linter.unusedVariables false
theorem cellsS1 : Tryd.prog.cellsOf 9 = 1 := by kernel_rfl
theorem bytesS : Tryd.prog.bytesOf 9 = 16 := by kernel_rfl
theorem Row.any {w : World} {v : Value} {xs : List Value} (h : Row w v xs) : ∃ a n c, v = .slice a n c := by
  obtain ⟨a, c, e, _⟩ := h
  exact ⟨a, _, c, e⟩
def bsum (l : List ByteArray) : Nat := (l.map fun s => s.size + 1).sum
theorem bulk_texts {H : Type} : ∀ (l : List ByteArray), bsum l ≤ Rows.uptoBulkAll (H := H) (l.map fun s => .lit (.string s.data.toList))
  | [] => Nat.zero_le _
  | s :: l => by
    have h2 := bulk_texts (H := H) l
    have h3 : Rows.uptoBulk (H := H) (.lit (.string s.data.toList)) = s.size + 1 := by rw [Rows.uptoBulk, size_list]
    simp only [bsum, List.map_cons, List.sum_cons, Rows.uptoBulkAll, h3] at *
    omega
theorem bulk_string {H : Type} (s : ByteArray) : s.size ≤ Rows.uptoBulk (H := H) (.lit (.string s.data.toList)) := by rw [Rows.uptoBulk, size_list]; omega
set_option maxRecDepth 100000 in
theorem texts_any {H : Type} {enc : TypeId × Value → H} {W : World} {base : Nat} {v : Value} {d : DataW H} {p : List MemPlace} (hv : Value.okWide Tryd.prog W .any base 22 v) (h : DataW.Trod enc Tryd.prog W 0 (fun _ => true) true 22 v d p) :
    ∃ (a : Option Addr) (n c : Nat) (l : List ByteArray), v = .slice a n c ∧ Row W (.slice a n c) (TS l) ∧ ((l = [] ∧ d = .nil) ∨ ∃ rest, d = .slice (l.map fun s => .lit (.string s.data.toList)) rest) := by
  obtain ⟨a1, len1, cap1, rfl⟩ := okWide_slice Tryd.underlying22 hv
  obtain ⟨fuel, hf⟩ := h
  rcases Go.Deep.open_strs Tryd.underlying22 Tryd.underlying9 cellsS1 hf with ⟨hcs, hx⟩ | ⟨a, len, cap, m, Sx, hcs, _, hl, hm, hmm, hx, hcell⟩
  · simp [Value.cells] at hcs
    obtain ⟨rfl, rfl, rfl⟩ := hcs
    exact ⟨none, 0, 0, [], rfl, Row.nil _, .inl ⟨rfl, congrArg Prod.fst hx⟩⟩
  · simp [Value.cells] at hcs
    obtain ⟨rfl, rfl, rfl⟩ := hcs
    simp only [if_pos] at hmm
    have hll : ((List.range len1).map Sx).length = len1 := by simp
    refine ⟨some a, len1, cap1, (List.range len1).map Sx, rfl, ⟨some a, cap1, by rw [TS_len, hll], by rw [TS_len, hll]; exact hl, (fun e => by cases e), fun hp => ?_⟩, .inr ?_⟩
    · rw [TS_len, hll] at hp
      obtain ⟨b, off, spot⟩ := a
      have hspot : spot = none := by simpa [Addr.add] using World.cell?_spot (hcell 0 (by omega)).1
      subst hspot
      refine ⟨b, off, rfl, fun j x hj => ?_⟩
      have hjl : j < len1 := by have := (List.getElem?_eq_some_iff.1 hj).1; rw [TS_len, hll] at this; exact this
      have h1 := (hcell j (by omega)).1
      rw [add_none] at h1
      rw [h1]
      unfold TS at hj
      simpa [hjl] using hj
    · have hd := congrArg Prod.fst hx
      simp only at hd
      rw [hd]
      exact ⟨_, by rw [List.map_map]; rfl⟩
theorem texts_open {H : Type} {enc : TypeId × Value → H} {W : World} {base : Nat} {v : Value} {d : DataW H} {p : List MemPlace} (hv : Value.okWide Tryd.prog W .any base 22 v) (h : DataW.Trod enc Tryd.prog W 0 (fun _ => true) true 22 v d p)
    (ts : List TypeId) (ds : List (DataW H)) (j : Nat) (hall : (DataW.weightsEach Tryd.prog ts ds).all (· ≤ reachBytes) = true) (hts : ts[j]? = some 22) (hds : ds[j]? = some d) :
    ∃ (a : Option Addr) (n c : Nat) (l : List ByteArray), v = .slice a n c ∧ Row W (.slice a n c) (TS l) ∧ n ≤ 8796093022208 := by
  obtain ⟨a, n, c, l, rfl, r, hd⟩ := texts_any hv h
  refine ⟨a, n, c, l, rfl, r, ?_⟩
  have e := r.tl
  rcases hd with ⟨rfl, _⟩ | ⟨rest, rfl⟩
  · simp at e
    omega
  · have := sized_slice hall (j := j) hts hds Tryd.underlying22
    rw [bytesS] at this
    simp only [List.length_map, reachBytes] at this
    omega
theorem texts_openU {H : Type} {enc : TypeId × Value → H} {W : World} {base : Nat} {v : Value} {d : DataW H} {p : List MemPlace} (hv : Value.okWide Tryd.prog W .any base 22 v) (h : DataW.Trod enc Tryd.prog W 0 (fun _ => true) true 22 v d p) :
    ∃ (a : Option Addr) (n c : Nat) (l : List ByteArray), v = .slice a n c ∧ Row W (.slice a n c) (TS l) ∧ bsum l ≤ Rows.uptoBulk d := by
  obtain ⟨a, n, c, l, rfl, r, hd⟩ := texts_any hv h
  refine ⟨a, n, c, l, rfl, r, ?_⟩
  rcases hd with ⟨rfl, _⟩ | ⟨rest, rfl⟩
  · exact Nat.zero_le _
  · have := bulk_texts (H := H) l
    simp only [Rows.uptoBulk]
    omega
end Go.Proofs.YtabpjegigpmfmaaDoor
