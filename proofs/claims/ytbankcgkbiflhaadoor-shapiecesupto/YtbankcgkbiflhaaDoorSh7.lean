/- sha's Sum of bytes, walked. -/
import Derived.Test.YtbankcgkbiflhaaDoorSh6
namespace Go.Proofs.YtbankcgkbiflhaaDoor
open Go.RowKit
set_option linter.unusedVariables false

set_option maxHeartbeats 1000000 in
set_option maxRecDepth 100000 in
theorem shaSum_any (v : Value) (l : List UInt8) (w : World) (hb : Byt w v l) (hT : Tab w) (hl : l.length ≤ 140737488355328) (hc : ∀ a n c, v = .slice a n c → c ≤ 9223372036854775807) : Calls Tryd.prog 11 #[v] w fun e w' => e = .returned (.agg ((shaL l).map U8).toArray) ∧ Same w w' := by
  obtain ⟨a, cap, rfl, h2, h0, h3⟩ := hb
  have hcap := hc _ _ _ rfl
  have Hb := hidden h3
  have HT := hidden hT
  have Hlen : Hid ((shaL l).length = 32) := hidden (out_len _)
  have Hone : Hid (((shaL l).map U8).toArray.all (·.oneCell') = true) := hidden (by rw [← row32_full _ Hlen.out]; exact row32_one _ _)
  have HWr : Hid (∀ G W, HW W G [] → Tab W → w.heap.size ≤ G → Same w W → Calls Tryd.prog 23 #[.pointer (some ⟨G, 0, none⟩), .slice a l.length cap] W fun e w' => e = .returned (.tuple #[]) ∧ HW w' G l ∧ Kept (fun k => k = G) W w') := hidden (fun G W h1 h4 hG k => by
    by_cases e : 0 < l.length
    · obtain ⟨b, off, rfl, h5⟩ := h3 e
      have hb' : b < w.heap.size := World.block_lt_of_cell? w ⟨b, off + 0, none⟩ (h5 0 _ (List.getElem?_eq_getElem e))
      have := write_any G [] l b off cap W h1 h4 (by have := hT.lt; omega) (by omega) h2 hcap (by simp; omega) (fun j x hx => k.cell (p := ⟨b, off + j, none⟩) (fun h => h) (h5 j x hx))
      simpa using this
    · have e0 : l = [] := List.eq_nil_of_length_eq_zero (by omega)
      subst e0
      exact (write0_any G a cap W).mono fun e w' ⟨x, y⟩ => ⟨x, y ▸ h1, y ▸ Kept.refl _ _⟩)
  have HSm := hidden (fun G W (h : HW W G l) t => sum_any h t (by omega))
  clear hc h0 h3 hT
  obtain ⟨S, hS⟩ : ∃ S, S = ((shaL l).map U8).toArray := ⟨_, rfl⟩
  have HSz : Hid (S.size = 32) := hidden (by rw [hS]; simp [Hlen.out])
  rw [← hS] at Hone HSm ⊢
  clear hS
  obtain ⟨r, hr⟩ : ∃ r, w.heap.size = r := ⟨_, rfl⟩
  have Hr0 : Hid (∀ X, (w.alloc X).heap[r]? = some X) := hidden (fun X => by rw [← hr]; exact blk_new w X)
  go_enter Tryd.func11, Tryd.ntmps11
  go_wp2_with (first
    | (go_at_call 21; refine (new_any _).mono ?_; rintro e w1 ⟨G, rfl, hG, hh, k1⟩; have HR1 := hidden (blk_kept k1 (fun h => h) (Hr0.out _)); have HK1 := hidden (Kept.trans (same_alloc w _) k1); have HH1 := hidden hh; have hG2 : r + 1 ≤ G := (by rw [← hr]; simpa using hG); clear hh k1 hG)
    | (go_at_call 23; refine (HWr.out G _ HH1.out (HT.out.same HK1.out) (by omega) HK1.out).mono ?_; rintro e w2 ⟨rfl, hh2, k2⟩; have HR2 := hidden (blk_kept k2 (show ¬ r = G by omega) HR1.out); have HK2 := hidden (HK1.out.trans' k2 (fun i hi (e : i = G) => by omega)); have HH2 := hidden hh2; clear hh2 k2)
    | (go_at_call 24; refine (HSm.out G _ HH2.out (HT.out.same HK2.out)).mono ?_; rintro e w3 ⟨rfl, k3⟩; have HR3 := hidden (blk_kept k3 (fun h => h) HR2.out); have HK3 := hidden (Kept.trans HK2.out k3); clear k3)
    | (refine wl_store 24 _ _ rfl rfl rfl _ rfl _ rfl (st_row HR3.out 32 i24 (by rfl) HSz.out Hone.out) ?_))
  exact bodyPost_ret (res_row Tryd.results11 rfl (lv_row (setRow_heap w3 r _ S _ _ HR3.out) (P := Tryd.prog) (ty := 24) Tryd.underlying24 rfl 32 i24 HSz.out)) rfl ⟨rfl, HK3.out.setRow (Or.inl (by omega)) _⟩
end Go.Proofs.YtbankcgkbiflhaaDoor
