/- cut: bytes opened under the bounded form's bound; bytes that are appended. -/
import Derived.Test.YtdmekpokgnieeaaDoorCutK
import Derived.Test.YtdmekpokgnieeaaDoorAppC
import Derived.Test.YtdmekpokgnieeaaDoorAg1
import Derived.Test.YtdmekpokgnieeaaDoorAg3
namespace Go.Proofs.YtdmekpokgnieeaaDoor
open Go.ChangeShapes Go.WideShapes Go.ChangeAt Go.RowKit Go.Joins Go.ChangeMaps
set_option linter.unusedVariables false
theorem bulk_pos {H : Type} : ∀ d : DataW H, 1 ≤ Rows.uptoBulk d
  | .lit (.string _) => by simp [Rows.uptoBulk]
  | .lit (.bool _) => by simp [Rows.uptoBulk]
  | .lit _ => by unfold Rows.uptoBulk; split <;> omega
  | .nil => by simp [Rows.uptoBulk]
  | .ptr _ => by simp [Rows.uptoBulk]
  | .slice _ _ => by simp [Rows.uptoBulk]
  | .agg _ => by simp [Rows.uptoBulk]
  | .iface _ _ => by simp [Rows.uptoBulk]
  | .map _ => by simp [Rows.uptoBulk]
  | .held _ => by simp [Rows.uptoBulk]
theorem bulk_len {H : Type} : ∀ l : List (DataW H), l.length ≤ Rows.uptoBulkAll l
  | [] => Nat.zero_le _
  | d :: l => by
    have h1 := bulk_pos d
    have h2 := bulk_len l
    simp only [Rows.uptoBulkAll, List.length_cons]
    omega
set_option maxRecDepth 100000 in
/-- Bytes among a law's arguments, opened. -/
theorem bytes_openU {H : Type} {enc : TypeId × Value → H} {W : World} {base : Nat} {v : Value} {d : DataW H} {p : List MemPlace} (hv : Value.okWide Tryd.prog W .any base 25 v) (h : DataW.Trod enc Tryd.prog W 0 (fun _ => true) true 25 v d p) :
    ∃ l : List UInt8, Byt W v l ∧ l.length ≤ Rows.uptoBulk d := by
  obtain ⟨a1, len1, cap1, rfl⟩ := okWide_slice Tryd.underlying25 hv
  obtain ⟨fuel, hf⟩ := h
  rcases open_ints Tryd.underlying25 Tryd.underlying5 cellsY hf with ⟨hcs, hx⟩ | ⟨a, len, cap, zs, hcs, _, hl, hm, hz, hx, hcell, hwz⟩
  · simp [Value.cells] at hcs
    obtain ⟨rfl, rfl, rfl⟩ := hcs
    exact ⟨[], Byt.nil _, by simp⟩
  · simp [Value.cells] at hcs
    obtain ⟨rfl, rfl, rfl⟩ := hcs
    simp only [if_pos] at hz
    have hb : ∀ z ∈ zs, 0 ≤ z ∧ z ≤ 255 := fun z hz' => by simpa [Lit.wf, IntKind.min, IntKind.max, IntKind.signed, IntKind.bits] using hwz z hz'
    have hlen : ((zs.take len1).map fun z => UInt8.ofNat z.toNat).length = len1 := by rw [List.length_map, List.length_take]; omega
    have hkey : ∀ j x, ((zs.take len1).map fun z => UInt8.ofNat z.toNat)[j]? = some x → W.cell? (a.add j) = some (U8 x) := by
      intro j x hj
      have hj1 : j < len1 := by have := (List.getElem?_eq_some_iff.1 hj).1; rw [hlen] at this; exact this
      have hjz : j < zs.length := by omega
      rw [hcell j hjz]
      have h1 : zs.getD j 0 = zs[j] := by simp [hjz]
      have h3 := hb zs[j] (List.getElem_mem hjz)
      rw [h1, U8_of _ h3.1 h3.2]
      simp [hj1, hjz] at hj
      rw [hj]
    refine ⟨(zs.take len1).map fun z => UInt8.ofNat z.toNat, ⟨some a, cap1, by rw [hlen], by rw [hlen]; omega, (fun e => by cases e), fun hp => ?_⟩, ?_⟩
    · obtain ⟨b, off, spot⟩ := a
      have h0 := hkey 0 _ (List.getElem?_eq_getElem hp)
      have hspot : spot = none := by simpa [Addr.add] using World.cell?_spot h0
      subst hspot
      refine ⟨b, off, rfl, fun j x hj => ?_⟩
      have := hkey j x hj
      rwa [add_plain] at this
    · have hd : d = .slice (lits .u8 (zs.take len1)) (lits .u8 (zs.drop len1)) := congrArg Prod.fst hx
      rw [hd, hlen]
      have h1 := bulk_len (H := H) (lits .u8 (zs.take len1))
      simp only [lits, List.length_map, List.length_take] at h1
      simp only [Rows.uptoBulk, lits]
      omega
theorem Byt.lies {w : World} {ao : Option Addr} {n cap : Nat} {l : List UInt8} (h : Byt w (.slice ao n cap) l) : Lies w ao n (l.map U8) := by
  obtain ⟨a, c, h1, h2, _, h3⟩ := h
  simp only [Value.slice.injEq] at h1
  obtain ⟨rfl, rfl, rfl⟩ := h1
  intro h0
  obtain ⟨b, off, rfl, hc⟩ := h3 h0
  refine ⟨_, rfl, fun j u hu => ?_⟩
  rw [List.getElem?_map, Option.map_eq_some_iff] at hu
  obtain ⟨x, hx, rfl⟩ := hu
  rw [add_plain]
  exact hc j x hx
theorem U8_all (l : List UInt8) : ∀ u ∈ l.map U8, u.oneCell' = true := by
  intro u hu
  obtain ⟨b, _, rfl⟩ := List.mem_map.1 hu
  exact U8_one b
theorem Byt.own {w : World} {B : Nat} {ao : Option Addr} {n cap : Nat} {l : List UInt8} (h : w.ownsRow B 5 1 (.slice ao n cap) l.length (l.map U8)) : Byt w (.slice ao n cap) l := by
  rcases h.2 with ⟨h1, h2⟩ | ⟨g, cp, cur, h1, hb, hg, h3, h4⟩
  · simp only [Value.slice.injEq] at h1
    obtain ⟨rfl, rfl, rfl⟩ := h1
    have hl : l = [] := List.eq_nil_of_length_eq_zero h2
    subst hl
    exact Byt.nil w
  · simp only [Value.slice.injEq] at h1
    obtain ⟨rfl, rfl, rfl⟩ := h1
    refine ⟨_, _, rfl, h3, (fun e => by cases e), fun h0 => ⟨g, 0, rfl, fun j x hx => ?_⟩⟩
    have := h.cells (g := g) rfl j (U8 x) (by rw [List.getElem?_map, hx]; rfl)
    rwa [add_plain] at this
end Go.Proofs.YtdmekpokgnieeaaDoor
