/- Rows of bytes among a law's arguments, under the bounded form (for CutPieces). -/
import Derived.Test.YtdmekpokgnieeaaDoorPc3
namespace Go.Proofs.YtdmekpokgnieeaaDoor
open Go.ChangeShapes Go.WideShapes Go.ChangeAt Go.RowKit Go.Joins Go.ChangeMaps Go.Shelf
set_option linter.unusedVariables false
theorem bulk_sum {H : Type} : ∀ (E : List (DataW H)) (f : Nat → Nat), (∀ i (h : i < E.length), f i ≤ Rows.uptoBulk E[i]) → ((List.range E.length).map f).sum ≤ Rows.uptoBulkAll E
  | [], _, _ => by simp
  | d :: E, f, hf => by
    have h0 := hf 0 (by simp)
    have h1 := bulk_sum E (fun i => f (i + 1)) (fun i hi => hf (i + 1) (by simpa using hi))
    simp only [List.length_cons, List.range_succ_eq_map, List.map_cons, List.sum_cons, List.map_map, Rows.uptoBulkAll]
    have e : (List.map (f ∘ Nat.succ) (List.range E.length)).sum = ((List.range E.length).map fun i => f (i + 1)).sum := rfl
    rw [e]
    simp only [List.getElem_cons_zero] at h0
    omega
theorem cellsSl : Tryd.prog.cellsOf 25 = 1 := by kernel_rfl
theorem bytes_trod {H : Type} {enc : TypeId × Value → H} {W : World} {held : Bool} {fuel : Nat} {c0 : Value} {x : DataW H × List MemPlace} (hf : DataW.trod enc Tryd.prog W 0 (fun _ => true) held fuel 25 [c0] = some x) : ∃ l : List UInt8, Byt W c0 l ∧ l.length ≤ Rows.uptoBulk x.1 := by
  rcases open_ints Tryd.underlying25 Tryd.underlying5 cellsY hf with ⟨hcs, hx⟩ | ⟨a, len, cap, zs, hcs, hq, hl, hm, hz, hx, hcell, hwz⟩
  · have hc : c0 = .slice none 0 0 := by simpa using hcs
    subst hc
    exact ⟨[], Byt.nil _, by simp⟩
  · have hc : c0 = .slice (some a) len cap := by simpa using hcs
    subst hc
    simp only [if_pos] at hz
    have hb : ∀ z ∈ zs, 0 ≤ z ∧ z ≤ 255 := fun z hz' => by simpa [Lit.wf, IntKind.min, IntKind.max, IntKind.signed, IntKind.bits] using hwz z hz'
    have hlen : ((zs.take len).map fun z => UInt8.ofNat z.toNat).length = len := by rw [List.length_map, List.length_take]; omega
    have hkey : ∀ j x, ((zs.take len).map fun z => UInt8.ofNat z.toNat)[j]? = some x → W.cell? (a.add j) = some (U8 x) := by
      intro j x hj
      have hj1 : j < len := by have := (List.getElem?_eq_some_iff.1 hj).1; rw [hlen] at this; exact this
      have hjz : j < zs.length := by omega
      rw [hcell j hjz]
      have h1 : zs.getD j 0 = zs[j] := by simp [hjz]
      have h3 := hb zs[j] (List.getElem_mem hjz)
      rw [h1, U8_of _ h3.1 h3.2]
      simp [hj1, hjz] at hj
      rw [hj]
    refine ⟨(zs.take len).map fun z => UInt8.ofNat z.toNat, ⟨some a, cap, by rw [hlen], by rw [hlen]; omega, (fun e => by cases e), fun hp => ?_⟩, ?_⟩
    · obtain ⟨b, off, spot⟩ := a
      have h0 := hkey 0 _ (List.getElem?_eq_getElem hp)
      have hspot : spot = none := by simpa [Addr.add] using World.cell?_spot h0
      subst hspot
      refine ⟨b, off, rfl, fun j x hj => ?_⟩
      have := hkey j x hj
      rwa [add_plain] at this
    · have hd : x.1 = .slice (lits .u8 (zs.take len)) (lits .u8 (zs.drop len)) := congrArg Prod.fst hx
      rw [hd, hlen]
      have h1 := bulk_len (H := H) (lits .u8 (zs.take len))
      simp only [lits, List.length_map, List.length_take] at h1
      simp only [Rows.uptoBulk, lits]
      omega
/-- Rows of bytes: n of them, each a value and what it holds. -/
def Rws (w : World) (v : Value) (n : Nat) (f : Nat → Value × List UInt8) : Prop :=
  ∃ a cap, v = .slice a n cap ∧ (0 < n → ∃ b off, a = some ⟨b, off, none⟩ ∧ ∀ i, i < n → Byt w (f i).1 (f i).2 ∧ w.cell? ⟨b, off + i, none⟩ = some (f i).1)
instance : Inhabited (Value × List UInt8) := ⟨(.slice none 0 0, [])⟩
set_option maxRecDepth 100000 in
theorem rows_openU {H : Type} {enc : TypeId × Value → H} {W : World} {base : Nat} {v : Value} {d : DataW H} {p : List MemPlace} (hv : Value.okWide Tryd.prog W .any base 36 v) (h : DataW.Trod enc Tryd.prog W 0 (fun _ => true) true 36 v d p) :
    ∃ (n : Nat) (f : Nat → Value × List UInt8), Rws W v n f ∧ ((List.range n).map fun i => (f i).2.length).sum ≤ Rows.uptoBulk d ∧ n ≤ Rows.uptoBulk d := by
  obtain ⟨a1, len1, cap1, rfl⟩ := okWide_slice Tryd.underlying36 hv
  obtain ⟨fuel, hf⟩ := h
  rcases DataW.trod_slice Tryd.underlying36 hf with ⟨hcs, hx⟩ | ⟨a, len, cap, elems, rest, n, _, hcs, hx, _, hl, hm, he, hel, _, _⟩
  · simp [Value.cells] at hcs
    obtain ⟨rfl, rfl, rfl⟩ := hcs
    exact ⟨0, fun _ => default, ⟨none, 0, rfl, fun h => by omega⟩, by simp, by simp⟩
  · simp [Value.cells] at hcs
    obtain ⟨rfl, rfl, rfl⟩ := hcs
    rw [cellsSl] at hel
    have hd : d = .slice (elems.map (·.1)) (rest.map (·.1)) := congrArg Prod.fst hx
    have key : ∀ i, i < len1 → ∃ q : Value × List UInt8, Byt W q.1 q.2 ∧ W.cell? (a.add i) = some q.1 ∧ ∀ (hi : i < (elems.map (·.1)).length), q.2.length ≤ Rows.uptoBulk (elems.map (·.1))[i] := by
      intro i hi
      have h1 := hel i hi
      have h2 : elems[i]? = some elems[i] := List.getElem?_eq_getElem (by omega)
      rw [h2] at h1
      obtain ⟨cs, hc, ht⟩ := Option.bind_eq_some_iff.1 h1
      obtain ⟨_, hcl, hcc⟩ := World.cells?_some hc
      match cs, hcl with
      | [c0], _ =>
        obtain ⟨q, hb, hbk⟩ := bytes_trod ht
        have z0 := hcc 0 (by decide)
        exact ⟨(c0, q), hb, by simpa [Addr.add] using z0, fun hi => by simpa using hbk⟩
    obtain ⟨f, hfk⟩ := Go.Deep.choose_lt (α := Value × List UInt8) key
    have hle : (elems.map (·.1)).length = len1 := by rw [List.length_map]; exact he
    refine ⟨len1, f, ⟨some a, cap1, rfl, fun hpos => ?_⟩, ?_, ?_⟩
    · obtain ⟨b, off, spot⟩ := a
      have hspot : spot = none := by
        obtain ⟨_, h0, _⟩ := hfk 0 hpos
        simpa [Addr.add] using World.cell?_spot h0
      subst hspot
      refine ⟨b, off, rfl, fun i hi => ?_⟩
      obtain ⟨hB, h0, _⟩ := hfk i hi
      rw [add_plain] at h0
      exact ⟨hB, h0⟩
    · have hs := bulk_sum (elems.map (·.1)) (fun i => (f i).2.length) (fun i hi => (hfk i (by omega)).2.2 hi)
      rw [hle] at hs
      rw [hd]
      simp only [Rows.uptoBulk]
      omega
    · have hs := bulk_len (elems.map (·.1))
      rw [hle] at hs
      rw [hd]
      simp only [Rows.uptoBulk]
      omega
end Go.Proofs.YtdmekpokgnieeaaDoor
