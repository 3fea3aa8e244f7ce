/- The document's DecodeSuper: which bytes are a superblock. A slice of bytes among a law's arguments, opened. -/
import Derived.Test.YtlilgfcacoooaaaDoorLay10
import Derived.Test.YtlilgfcacoooaaaDoorLayK
namespace Go.Proofs.YtlilgfcacoooaaaDoor
open Go.RowKit
set_option linter.unusedVariables false

theorem refDec_no (v : Value) (l : List UInt8) (w : World) (hb : Byt w v l) (hl : l.length ≤ 281474976710656)
    (hno : ∀ (gen root sector sectors journal pack cmin cnorm cmax seed nbits : Nat) (dd : Bool), Sup gen root sector sectors journal pack cmin cnorm cmax seed nbits dd → superL gen root sector sectors journal pack cmin cnorm cmax seed nbits dd ≠ l) :
    Calls Tryd.prog 29 #[v] w (NoSuper w) := by
  obtain ⟨u0, body, u2, u3, hu⟩ : ∃ u0 body u2 u3, unf ⟨l.toArray⟩ = (u0, body, u2, u3) := ⟨_, _, _, _, rfl⟩
  by_cases hbad : u3 ≠ 0 ∨ u3 = 0 ∧ u0 ≠ 83 ∨ u3 = 0 ∧ u0 = 83 ∧ body.size ≠ 51
  · exact refDec_unf v l w hb hl u0 u2 body u3 hu hbad
  · obtain rfl : u3 = 0 := Classical.byContradiction fun h => hbad (Or.inl h)
    obtain rfl : u0 = 83 := Classical.byContradiction fun h => hbad (Or.inr (Or.inl ⟨rfl, h⟩))
    have h51 : body.size = 51 := Classical.byContradiction fun h => hbad (Or.inr (Or.inr ⟨rfl, rfl, h⟩))
    have hg := fld_lt body 0 8
    have hse := fld_lt body 40 8
    have core := fun (err : Int) (l2 : List UInt8) (R : Value) (r : Int) => refDec_core v l l2 w hb hl u2 body hu h51 _ _ _ _ _ _ _ _ _ _ _ _ rfl rfl rfl rfl rfl rfl rfl rfl rfl rfl rfl rfl err R r
    generalize fld body 0 8 = gen at *
    generalize fld body 8 4 = root at *
    generalize fld body 12 4 = sector at *
    generalize fld body 16 4 = sectors at *
    generalize fld body 20 4 = journal at *
    generalize fld body 24 4 = pack at *
    generalize fld body 28 4 = cmin at *
    generalize fld body 32 4 = cnorm at *
    generalize fld body 36 4 = cmax at *
    generalize fld body 40 8 = seed at *
    generalize fld body 48 2 = nbits at *
    generalize ((fld body 50 1 : Int) == 1) = dd at *
    by_cases hk : supErr sectors journal root (Shp sector sectors journal pack cmin cnorm cmax nbits) = 0
    · have hshp : Shp sector sectors journal pack cmin cnorm cmax nbits := by
        apply Classical.byContradiction
        intro hn
        unfold supErr at hk
        rw [if_neg hn] at hk
        cases hk
      have hS : Sup gen root sector sectors journal pack cmin cnorm cmax seed nbits dd := ⟨hg, hse, hshp, hk⟩
      refine core 0 (superL gen root sector sectors journal pack cmin cnorm cmax seed nbits dd) _ 40 (fun w => (refEnc_yes gen root sector sectors journal pack cmin cnorm cmax seed nbits dd w hS).mono ?_) (Or.inr (Or.inl ⟨rfl, hno _ _ _ _ _ _ _ _ _ _ _ _ hS, rfl, rfl⟩))
      rintro e w' ⟨v', he, ho, hk'⟩
      exact ⟨v', he, ho.byt, hk'⟩
    · refine core _ [] _ 40 (fun w => (refEnc_no gen root sector sectors journal pack cmin cnorm cmax seed nbits dd w _ rfl hk).mono ?_) (Or.inl ⟨hk, rfl, rfl⟩)
      rintro e w' ⟨he, hk'⟩
      exact ⟨_, he, Or.inl ⟨rfl, rfl⟩, hk'⟩
theorem refDec_yes (v : Value) (gen root sector sectors journal pack cmin cnorm cmax seed nbits : Nat) (dd : Bool) (w : World) (hb : Byt w v (superL gen root sector sectors journal pack cmin cnorm cmax seed nbits dd)) (h : Sup gen root sector sectors journal pack cmin cnorm cmax seed nbits dd) :
    Calls Tryd.prog 29 #[v] w fun e w' => e = .returned (.tuple #[.agg #[.int .u64 gen, .int .i64 root, .int .i64 sector, .int .i64 sectors, .int .i64 journal, .int .i64 pack, .int .i64 cmin, .int .i64 cnorm, .int .i64 cmax, .int .u64 seed, .int .i64 nbits, .bool dd], .int .i64 0]) ∧ Same w w' := by
  have hsz : (⟨(bodyL gen root sector sectors journal pack cmin cnorm cmax seed nbits dd).toArray⟩ : ByteArray).size = 51 := by rw [ba_size, bodyL_len]
  have hsp := h.shp
  have hr := h.root
  have hdd : ((flagN dd : Int) == 1) = dd := by cases dd <;> rfl
  refine refDec_core v _ (superL gen root sector sectors journal pack cmin cnorm cmax seed nbits dd) w hb (by rw [superL_len h]; have := hsp.1; omega) 63 _ (unf_super gen root sector sectors journal pack cmin cnorm cmax seed nbits dd) hsz gen root sector sectors journal pack cmin cnorm cmax seed nbits dd (body_0 gen root sector sectors journal pack cmin cnorm cmax seed nbits dd h.g) (body_1 gen root sector sectors journal pack cmin cnorm cmax seed nbits dd (by omega)) (body_2 gen root sector sectors journal pack cmin cnorm cmax seed nbits dd (by have := hsp.1; omega)) (body_3 gen root sector sectors journal pack cmin cnorm cmax seed nbits dd (by have := hsp.2.1; omega)) (body_4 gen root sector sectors journal pack cmin cnorm cmax seed nbits dd (by have := hsp.2.1; have := hsp.2.2.1; omega)) (body_5 gen root sector sectors journal pack cmin cnorm cmax seed nbits dd (by have := hsp.2.2.2.1; omega)) (body_6 gen root sector sectors journal pack cmin cnorm cmax seed nbits dd (by have := hsp.2.2.2.2.1.1; have := hsp.2.2.2.2.1.2.1; omega)) (body_7 gen root sector sectors journal pack cmin cnorm cmax seed nbits dd (by have := hsp.2.2.2.2.1.1; omega)) (body_8 gen root sector sectors journal pack cmin cnorm cmax seed nbits dd (by have := hsp.2.2.2.2.1.1; have := hsp.2.2.2.2.1.2.2.1; omega)) (body_9 gen root sector sectors journal pack cmin cnorm cmax seed nbits dd h.s) (body_10 gen root sector sectors journal pack cmin cnorm cmax seed nbits dd (by have := hsp.2.2.2.2.2; omega)) (by rw [body_11 gen root sector sectors journal pack cmin cnorm cmax seed nbits dd (flagN_lt dd)]; exact hdd) 0 _ 0 (fun w => (refEnc_yes gen root sector sectors journal pack cmin cnorm cmax seed nbits dd w h).mono ?_) (Or.inr (Or.inr ⟨rfl, rfl, rfl, rfl⟩))
  rintro e w' ⟨v', he, ho, hk'⟩
  exact ⟨v', he, ho.byt, hk'⟩
theorem cellsY : Tryd.prog.cellsOf 5 = 1 := by kernel_rfl
theorem bytesY : Tryd.prog.bytesOf 5 = 1 := by kernel_rfl
set_option maxRecDepth 100000 in
open Go.ChangeShapes Go.WideShapes Go.ChangeAt in
/-- A slice of bytes among the arguments, opened. -/
theorem bytes_open {H : Type} {enc : TypeId × Value → H} {W : World} {base : Nat} {v : Value} {d : DataW H} {p : List MemPlace} (hv : Value.okWide Tryd.prog W .any base 39 v) (h : DataW.Trod enc Tryd.prog W 0 (fun _ => true) true 39 v d p) :
    ∃ l : List UInt8, Byt W v l ∧
      ∀ (ts : List TypeId) (ds : List (DataW H)) (j : Nat), (DataW.weightsEach Tryd.prog ts ds).all (· ≤ reachBytes) = true → ts[j]? = some 39 → ds[j]? = some d → l.length ≤ 140737488351232 := by
  obtain ⟨a1, len1, cap1, rfl⟩ := okWide_slice Tryd.underlying39 hv
  obtain ⟨fuel, hf⟩ := h
  rcases open_ints Tryd.underlying39 Tryd.underlying5 cellsY hf with ⟨hcs, hx⟩ | ⟨a, len, cap, zs, hcs, _, hl, hm, hz, hx, hcell, hwz⟩
  · simp [Value.cells] at hcs
    obtain ⟨rfl, rfl, rfl⟩ := hcs
    exact ⟨[], Or.inl ⟨rfl, rfl⟩, fun _ _ _ _ _ _ => by simp⟩
  · simp [Value.cells] at hcs
    obtain ⟨rfl, rfl, rfl⟩ := hcs
    simp only [if_pos] at hz
    have hb : ∀ z ∈ zs, 0 ≤ z ∧ z ≤ 255 := fun z hz' => by simpa [Lit.wf, IntKind.min, IntKind.max, IntKind.signed, IntKind.bits] using hwz z hz'
    have hlen : ((zs.take len1).map fun z => UInt8.ofNat z.toNat).length = len1 := by rw [List.length_map, List.length_take]; omega
    refine ⟨(zs.take len1).map fun z => UInt8.ofNat z.toNat, Or.inr ⟨a, cap1, by rw [hlen], fun j hj => ?_⟩, ?_⟩
    · rw [hlen] at hj
      have hjz : j < zs.length := by omega
      rw [hcell j hjz]
      have h1 : zs.getD j 0 = zs[j] := by simp [hjz]
      have h3 := hb zs[j] (List.getElem_mem hjz)
      rw [h1, U8_of _ h3.1 h3.2]
      simp
    · intro ts ds j hall hts hds
      have hd : d = .slice (lits .u8 (zs.take len1)) (lits .u8 (zs.drop len1)) := congrArg Prod.fst hx
      rw [hd] at hds
      have := sized_slice hall (j := j) hts hds Tryd.underlying39
      rw [bytesY] at this
      simp only [lits, List.length_map, List.length_take, List.length_drop, reachBytes] at this
      rw [hlen]
      omega
end Go.Proofs.YtlilgfcacoooaaaDoor
