/- pack: bytes among a law's arguments, opened. -/
import Derived.Test.YtafdkfieajdeiaaDoorCTab
import Derived.Test.YtafdkfieajdeiaaDoorK10
import Derived.OpenShut
namespace Go.Proofs.YtafdkfieajdeiaaDoor
open Go.ChangeShapes Go.WideShapes Go.ChangeAt Go.RowKit Go.Joins Go.ChangeMaps
set_option linter.unusedVariables false
theorem cellsY : Tryd.prog.cellsOf 5 = 1 := by kernel_rfl
theorem bytesY : Tryd.prog.bytesOf 5 = 1 := by kernel_rfl
set_option maxRecDepth 100000 in
/-- Bytes among a law's arguments, opened. -/
theorem bytes_open {H : Type} {enc : TypeId × Value → H} {W : World} {base : Nat} {v : Value} {d : DataW H} {p : List MemPlace} (hv : Value.okWide Tryd.prog W .any base 32 v) (h : DataW.Trod enc Tryd.prog W 0 (fun _ => true) true 32 v d p) :
    ∃ l : List UInt8, Bt W v l ∧
      ∀ (ts : List TypeId) (ds : List (DataW H)) (j : Nat), (DataW.weightsEach Tryd.prog ts ds).all (· ≤ reachBytes) = true → ts[j]? = some 32 → ds[j]? = some d → l.length ≤ 140737488351232 := by
  obtain ⟨a1, len1, cap1, rfl⟩ := okWide_slice Tryd.underlying32 hv
  obtain ⟨fuel, hf⟩ := h
  rcases open_ints Tryd.underlying32 Tryd.underlying5 cellsY hf with ⟨hcs, hx⟩ | ⟨a, len, cap, zs, hcs, hq, hl, hm, hz, hx, hcell, hwz⟩
  · simp [Value.cells] at hcs
    obtain ⟨rfl, rfl, rfl⟩ := hcs
    exact ⟨[], Bt.nil _, fun _ _ _ _ _ _ => by simp⟩
  · simp [Value.cells] at hcs
    obtain ⟨rfl, rfl, rfl⟩ := hcs
    simp only [if_pos] at hz
    have hb : ∀ z ∈ zs, 0 ≤ z ∧ z ≤ 255 := fun z hz' => by simpa [Lit.wf, IntKind.min, IntKind.max, IntKind.signed, IntKind.bits] using hwz z hz'
    have hlen : ((zs.take len1).map fun z => UInt8.ofNat z.toNat).length = len1 := by rw [List.length_map, List.length_take]; omega
    have hkey : ∀ j x, ((zs.take len1).map fun z => UInt8.ofNat z.toNat)[j]? = some x → W.cell? (a.add j) = some (U8 x) := by
      intro j x hj
      have hj1 : j < len1 := by have := (List.getElem?_eq_some_iff.1 hj).1; rw [hlen] at this; exact this
      have hjz : j < zs.length := by omega
      rw [hcell j hjz]
      have h1 : zs.getD j 0 = zs[j] := by simp [hjz]
      have h3 := hb zs[j] (List.getElem_mem hjz)
      rw [h1, U8_of _ h3.1 h3.2]
      simp [hj1, hjz] at hj
      rw [hj]
    refine ⟨(zs.take len1).map fun z => UInt8.ofNat z.toNat, ⟨some a, cap1, by rw [hlen], by rw [hlen]; omega, fun hp => ?_⟩, ?_⟩
    · obtain ⟨b, off, spot⟩ := a
      have h0 := hkey 0 _ (List.getElem?_eq_getElem hp)
      have hspot : spot = none := by simpa [Addr.add] using World.cell?_spot h0
      subst hspot
      refine ⟨b, off, rfl, fun j hj => ?_⟩
      have := hkey j _ (List.getElem?_eq_getElem hj)
      rwa [add_none] at this
    · intro ts ds j hall hts hds
      have hd : d = .slice (lits .u8 (zs.take len1)) (lits .u8 (zs.drop len1)) := congrArg Prod.fst hx
      rw [hd] at hds
      have := sized_slice hall (j := j) hts hds Tryd.underlying32
      rw [bytesY] at this
      simp only [lits, List.length_map, List.length_take, List.length_drop, reachBytes] at this
      rw [hlen]
      omega
end Go.Proofs.YtafdkfieajdeiaaDoor
