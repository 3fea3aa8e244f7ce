/- The table as the rows list it; arguments opened; facts of this program that every law's row asks; lives. -/
import Derived.Test.YtbankcgkbiflhaaDoorCards
import Derived.Test.YtbankcgkbiflhaaDoorTie
import Derived.Test.YtbankcgkbiflhaaDoorLawKit
import Derived.Test.YtbankcgkbiflhaaDoorSh8
import Derived.Deep.DeepHandedRow
import Derived.Lib.LaidTab
import Derived.Lib.SmallJoins
import Derived.OpenShut
namespace Go.Proofs.YtbankcgkbiflhaaDoor
open Go.ChangeShapes Go.WideShapes Go.ChangeAt Go.RowKit Go.Joins Go.ChangeMaps
set_option linter.unusedVariables false

theorem own : ownKnob Tryd.prog.godebug = none := by kernel_rfl
theorem laidOut : laidOutB Tryd.prog = true := by kernel_rfl
/-- The listed variable's name, as the rows have it. -/
def tabName : String := (Rows.shaSumsRow.laid.map fun x => x.1).headD default
theorem gTab : Tryd.prog.globalNamed tabName = some 0 := by kernel_rfl
theorem gTabType : (Tryd.prog.globals[0]?).map (·.type) = some 77 := by kernel_rfl
theorem cellsTab : Tryd.prog.cellsOf 77 = 64 := by kernel_rfl
theorem cells32 : Tryd.prog.cellsOf 51 = 1 := by kernel_rfl
theorem cellsY : Tryd.prog.cellsOf 5 = 1 := by kernel_rfl
theorem bytesY : Tryd.prog.bytesOf 5 = 1 := by kernel_rfl
theorem cellsA : Tryd.prog.cellsOf 24 = 32 := by kernel_rfl
/-- The block in which it lies. -/
abbrev tabBlock : Nat := 0
def tabInts : List Int := kws.map Int.ofNat
set_option maxRecDepth 100000 in
theorem tab_laid {W : World} (h : laidMetH Tryd.prog Rows.shaSumsRow.laid W) : Tab W := by
  have hT : Lib.TabIs Tryd.prog W tabName .u32 tabInts := Lib.tabIs_of_head (rest := []) gTab gTabType Tryd.underlying77 Tryd.underlying51 cells32 cellsTab h
  intro j hj
  have := hT.cell gTab j (by simpa [tabInts, kws] using hj)
  rw [this]
  have e : tabInts.getD j 0 = ((kw j : Nat) : Int) := by
    have : ∀ i : Fin 64, tabInts.getD i.val 0 = ((kw i.val : Nat) : Int) := by decide +kernel
    exact this ⟨j, hj⟩
  rw [e]
theorem Byt.nil (w : World) : Byt w (.slice none 0 0) [] := ⟨none, 0, rfl, Nat.le_refl _, fun _ => rfl, fun h => by simp at h⟩
theorem add_plain (b o j : Nat) : (⟨b, o, none⟩ : Addr).add j = ⟨b, o + j, none⟩ := Addr.add_mid b o j
set_option maxRecDepth 100000 in
/-- Bytes among a law's arguments, opened. -/
theorem bytes_open {H : Type} {enc : TypeId × Value → H} {W : World} {base : Nat} {v : Value} {d : DataW H} {p : List MemPlace} (hv : Value.okWide Tryd.prog W .any base 22 v) (h : DataW.Trod enc Tryd.prog W 0 (fun _ => true) true 22 v d p) :
    ∃ l : List UInt8, Byt W v l ∧
      ∀ (ts : List TypeId) (ds : List (DataW H)) (j : Nat), (DataW.weightsEach Tryd.prog ts ds).all (· ≤ reachBytes) = true → ts[j]? = some 22 → ds[j]? = some d → l.length ≤ 140737488351232 ∧ ∀ a n c, v = .slice a n c → c ≤ 140737488351232 := by
  obtain ⟨a1, len1, cap1, rfl⟩ := okWide_slice Tryd.underlying22 hv
  obtain ⟨fuel, hf⟩ := h
  rcases open_ints Tryd.underlying22 Tryd.underlying5 cellsY hf with ⟨hcs, hx⟩ | ⟨a, len, cap, zs, hcs, hq, hl, hm, hz, hx, hcell, hwz⟩
  · simp [Value.cells] at hcs
    obtain ⟨rfl, rfl, rfl⟩ := hcs
    exact ⟨[], Byt.nil _, fun _ _ _ _ _ _ => ⟨by simp, fun a n c e => by injection e with _ _ e; omega⟩⟩
  · simp [Value.cells] at hcs
    obtain ⟨rfl, rfl, rfl⟩ := hcs
    simp only [if_pos] at hz
    have hb : ∀ z ∈ zs, 0 ≤ z ∧ z ≤ 255 := fun z hz' => by simpa [Lit.wf, IntKind.min, IntKind.max, IntKind.signed, IntKind.bits] using hwz z hz'
    have hlen : ((zs.take len1).map fun z => UInt8.ofNat z.toNat).length = len1 := by rw [List.length_map, List.length_take]; omega
    have hkey : ∀ j x, ((zs.take len1).map fun z => UInt8.ofNat z.toNat)[j]? = some x → W.cell? (a.add j) = some (U8 x) := by
      intro j x hj
      have hj1 : j < len1 := by have := (List.getElem?_eq_some_iff.1 hj).1; rw [hlen] at this; exact this
      have hjz : j < zs.length := by omega
      rw [hcell j hjz]
      have h1 : zs.getD j 0 = zs[j] := by simp [hjz]
      have h3 := hb zs[j] (List.getElem_mem hjz)
      rw [h1, U8_of _ h3.1 h3.2]
      simp [hj1, hjz] at hj
      rw [hj]
    refine ⟨(zs.take len1).map fun z => UInt8.ofNat z.toNat, ⟨some a, cap1, by rw [hlen], by rw [hlen]; omega, (fun e => by cases e), fun hp => ?_⟩, ?_⟩
    · obtain ⟨b, off, spot⟩ := a
      have h0 := hkey 0 _ (List.getElem?_eq_getElem hp)
      have hspot : spot = none := by simpa [Addr.add] using World.cell?_spot h0
      subst hspot
      refine ⟨b, off, rfl, fun j x hj => ?_⟩
      have := hkey j x hj
      rwa [add_plain] at this
    · intro ts ds j hall hts hds
      have hd : d = .slice (lits .u8 (zs.take len1)) (lits .u8 (zs.drop len1)) := congrArg Prod.fst hx
      rw [hd] at hds
      have := sized_slice hall (j := j) hts hds Tryd.underlying22
      rw [bytesY] at this
      simp only [lits, List.length_map, List.length_take, List.length_drop, reachBytes] at this
      rw [hlen]
      refine ⟨by omega, fun a n c e => ?_⟩
      injection e with _ _ e
      omega
set_option maxRecDepth 100000 in
/-- An array of 32 bytes among a law's arguments, opened. -/
theorem arr32_open {H : Type} {enc : TypeId × Value → H} {W : World} {base : Nat} {v : Value} {d : DataW H} {p : List MemPlace} (hv : Value.okWide Tryd.prog W .any base 24 v) (h : DataW.Trod enc Tryd.prog W 0 (fun _ => true) true 24 v d p) :
    ∃ l : List UInt8, l.length = 32 ∧ v = .agg (l.map U8).toArray := by
  simp only [Value.okWide, Tryd.underlying24] at hv
  obtain ⟨cs, rfl, hz, _⟩ := hv
  obtain ⟨fuel, hf⟩ := h
  obtain ⟨xs, m, rfl, hx, hl, hn, hi⟩ := DataW.trod_array Tryd.underlying24 hf
  rw [cellsA] at hz
  have hc : ∀ i, i < 32 → ∃ b : UInt8, cs[i]? = some (U8 b) := fun i h32 => by
    have h1 := hi i h32
    rw [List.getElem?_eq_getElem (by omega), cellsY] at h1
    obtain ⟨a, ea, _, wa⟩ := DataW.trod_int Tryd.underlying5 h1
    have wa' : 0 ≤ a ∧ a ≤ 255 := by simpa [Lit.wf, IntKind.min, IntKind.max, IntKind.signed, IntKind.bits] using wa
    refine ⟨UInt8.ofNat a.toNat, ?_⟩
    rw [← U8_of a wa'.1 wa'.2]
    have e2 := congrArg (fun l : List Value => l[0]?) ea
    simpa [Value.cells] using e2
  refine ⟨cs.toList.map fun v => UInt8.ofNat (intOf v).toNat, by simpa using hz, ?_⟩
  congr 1
  apply Array.ext_getElem?
  intro i
  by_cases h32 : i < 32
  · obtain ⟨b, hb⟩ := hc i h32
    rw [hb, List.getElem?_toArray, List.getElem?_map, List.getElem?_map, Array.getElem?_toList, hb]
    simp [U8, intOf]
  · rw [Array.getElem?_eq_none (by omega), List.getElem?_toArray, List.getElem?_eq_none (by simp; omega)]
theorem conv_const (w : World) (C : Array Value) (n m : Nat) : (convert 22 22 (.slice (some ⟨w.heap.size, 0, none⟩) n m)).run Tryd.prog (w.alloc (.cells C 5)) = .ok (.slice (some ⟨w.heap.size, 0, none⟩) n m) (w.alloc (.cells C 5 (C.size, C.size + 1))) := by
  have hsh : (w.alloc (.cells C 5)).shape? w.heap.size = some (5, C.size) := by
    have : (w.alloc (.cells C 5)).heap[w.heap.size]? = some (.cells C 5) := by
      show (w.heap.push (.cells C 5))[w.heap.size]? = _
      simp
    unfold World.shape?
    rw [this]
  have hfr : (w.alloc (.cells C 5)).freeze ⟨w.heap.size, C.size, none⟩ 1 = w.alloc (.cells C 5 (C.size, C.size + 1)) := by
    have hm : ∀ (a : Array Obj) (x : Obj) (f : Obj → Obj), (a.push x).modify a.size f = a.push (f x) := by
      intro a x f
      apply Array.ext
      · simp
      · intro i h1 h2
        simp only [Array.getElem_modify, Array.getElem_push]
        by_cases h : a.size = i
        · subst h
          simp
        · have hi : i < a.size := by simp at h1; omega
          simp [h, hi]
    unfold World.freeze
    rw [if_neg (by decide)]
    show ({ w.alloc (.cells C 5) with heap := (w.heap.push (.cells C 5)).modify w.heap.size _ } : World) = _
    rw [hm]
    rfl
  simp [convert, run_underlying Tryd.underlying22, run_underlying Tryd.underlying5, markStringish, hsh, hfr]
set_option maxHeartbeats 1000000 in
set_option maxRecDepth 100000 in
theorem lives_any (w : World) (hT : Tab w) : Calls Tryd.prog 10 #[] w fun e w' => e = .returned (.bool true) ∧ Same w w' := by
  have HT := hidden hT
  have HSm : Hid (∀ (W : World), Tab W → (∃ k, W.heap[w.heap.size]? = some (.cells #[.int .u8 97, .int .u8 98, .int .u8 99] 5 k)) → Calls Tryd.prog 11 #[.slice (some ⟨w.heap.size, 0, none⟩) 3 3] W fun e w' => e = .returned (.agg ((shaL abcL).map U8).toArray) ∧ Same W w') := hidden (fun W t ⟨k, hb⟩ => shaSum_any _ abcL W ⟨some ⟨w.heap.size, 0, none⟩, 3, rfl, Nat.le_refl _, (fun e => by cases e), fun _ => ⟨_, 0, rfl, fun j x hj => by
      rw [cell_of_row W w.heap.size (0 + j) _ _ _ hb]
      have hlt := (List.getElem?_eq_some_iff.1 hj).1
      have : j = 0 ∨ j = 1 ∨ j = 2 := by simp [abcL] at hlt; omega
      rcases this with rfl | rfl | rfl <;> (simp [abcL] at hj; subst hj; rfl)⟩⟩ t (by decide) (fun a n c e => by injection e with _ _ e; omega))
  have HHx := hidden (fun W => hex_any (shaL abcL) (by rw [sha_abc]; rfl) W)
  have e1 : (⟨(hexOf (shaL abcL)).toArray⟩ : ByteArray) = ⟨#[98, 97, 55, 56, 49, 54, 98, 102, 56, 102, 48, 49, 99, 102, 101, 97, 52, 49, 52, 49, 52, 48, 100, 101, 53, 100, 97, 101, 50, 50, 50, 51, 98, 48, 48, 51, 54, 49, 97, 51, 57, 54, 49, 55, 55, 97, 57, 99, 98, 52, 49, 48, 102, 102, 54, 49, 102, 50, 48, 48, 49, 53, 97, 100]⟩ := by rw [sha_abc]; decide +kernel
  rw [e1] at HHx
  clear e1 hT
  generalize ((shaL abcL).map U8).toArray = S at *
  have hcv := conv_const w #[.int .u8 97, .int .u8 98, .int .u8 99] 3 3
  go_enter Tryd.func10, Tryd.ntmps10
  go_wp2_with (first
    | (go_at_call 11; refine (HSm.out _ ?_ ?_).mono ?_; (exact HT.out.same (same_alloc _ _)); (exact ⟨_, blk_new w _⟩); rintro e w1 ⟨rfl, k1⟩)
    | (go_at_call 15; refine (HHx.out _).mono ?_; rintro e w2 ⟨rfl, k2⟩))
  go_returns
  exact ⟨rfl, Kept.trans (Kept.trans (same_alloc _ _) k1) k2⟩
end Go.Proofs.YtbankcgkbiflhaaDoor
