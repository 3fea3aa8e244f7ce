/- path: Clean of both sides. -/
import Derived.Test.YtabpjegigpmfmaaDoorPaJ
import Derived.Test.YtabpjegigpmfmaaDoorPaS
namespace Go.Proofs.YtabpjegigpmfmaaDoor
open Go.RowKit
set_option linter.unusedVariables false
set_option linter.unusedSimpArgs false
theorem own_head {w : World} {B n cap : Nat} {a : Option Addr} {xs : List Value} (h : w.ownsRow B 9 1 (.slice a n cap) n xs) {j : Nat} (hj : j ≤ n) (y : Int) (hy : y = (j : Int)) :
    (∀ W, (Instr.sliceAt 22 (.slice a n cap) none (some (.int .i64 y)) none).run Tryd.prog W = .ok (.slice a j cap) W) ∧ w.ownsRow B 9 1 (.slice a j cap) j (xs.take j) := by
  have hel : Tryd.prog.elem 22 = 9 := by kernel_rfl
  obtain ⟨i0, hi0, hz0, hz1, hz2⟩ := info_parts infoS
  have hsz : ∀ W, (sizeOf (Tryd.prog.elem 22)).run Tryd.prog W = .ok 1 W := fun W => by
    rw [hel]
    simp [sizeOf, typeInfo, hi0, hz1]
  have e2 := own_room h
  subst hy
  constructor
  · intro W
    rw [run_sliceAt_slice (h := Tryd.underlying22), run_slice_h (ht := Tryd.underlying22) (h0 := by omega) (h2 := by omega), hsz]
    have : (if cap = 0 then a else a.map (·.add (0 * 1))) = a := by
      rcases h.2 with ⟨h1, _⟩ | ⟨g, c', cur, h1, _⟩
      · simp only [Value.slice.injEq] at h1
        rw [h1.1]
        simp
      · simp only [Value.slice.injEq] at h1
        rw [h1.1]
        simp [add_none]
    simp [sliced]
    simpa using this
  · refine ⟨by rw [List.length_take, h.1]; omega, ?_⟩
    rcases h.2 with ⟨h1, h2⟩ | ⟨g, c', cur, h1, hb, hg, hn, hc, hs, ht⟩
    · simp only [Value.slice.injEq] at h1
      obtain ⟨rfl, rfl, rfl⟩ := h1
      obtain rfl : j = 0 := by omega
      exact .inl ⟨rfl, rfl⟩
    · simp only [Value.slice.injEq] at h1
      obtain ⟨rfl, -, rfl⟩ := h1
      refine .inr ⟨g, cap, cur, rfl, hb, hg, by omega, hc, hs, ?_⟩
      rw [← ht, List.take_take]
      congr 1
      omega
theorem ts_take (l : List (List UInt8)) (j : Nat) : (TS (l.map BA)).take j = TS ((l.take j).map BA) := by unfold TS; rw [List.map_take, List.map_take]
/-- A path without dots. -/
def clnS (P : List UInt8) : List UInt8 := if splE P = 0 then joinP (cleanL (pc [] P)) else []
set_option maxHeartbeats 2000000 in
set_option maxRecDepth 100000 in
theorem clean_any (p : ByteArray) (hp : p.size ≤ 140737488355328) (w : World) : Calls Tryd.prog 23 #[.string p] w fun e w' => e = .returned (.tuple #[.string (BA (clnS p.data.toList)), .int .i64 (splE p.data.toList)]) ∧ Same w w' := by
  obtain ⟨i0, hi0, hz0, hz1, hz2⟩ := info_parts infoS
  have HSp := hidden (split_any p hp)
  obtain ⟨P, hP⟩ : ∃ P, P = p.data.toList := ⟨_, rfl⟩
  rw [← hP] at HSp ⊢
  clear hP
  unfold clnS
  by_cases h0 : splE P = 0
  · have hgood := split_good h0
    have h512 := (splE_zero.1 h0).2.1
    have hsl : splL P = pc [] P := by unfold splL; rw [if_pos h0]
    obtain ⟨L, hL⟩ : ∃ L, L = pc [] P := ⟨_, rfl⟩
    rw [if_pos h0, h0]
    rw [← hL] at hgood hsl ⊢
    have hw : wsum L ≤ 512 := by have := hgood.2; omega
    have hll := len_wsum L
    have HSp2 : Hid (∀ W, Calls Tryd.prog 10 #[.string p] W fun e w' => ∃ v, e = .returned (.tuple #[v, .int .i64 0]) ∧ OwnT W.heap.size w' v (L.map BA) ∧ Same W w') := hidden (fun W => (HSp.out W).mono fun e w' ⟨u, he, ⟨v, hu, ho⟩, k⟩ => ⟨v, by rw [he, hu, h0], by rw [hsl] at ho; exact ho, k⟩)
    have HCW := hidden (show wsum (cleanL L) ≤ 512 from Nat.le_trans (clean_good hgood.1).2.2 hw)
    obtain ⟨n, hn⟩ : ∃ n, n = L.length := ⟨_, rfl⟩
    have hn5 : n ≤ 512 := by omega
    have HNL := hidden hn
    clear HSp hgood h512 hsl hL hw hll hn h0
    go_enter Tryd.func23, Tryd.ntmps23
    go_wp2_with (go_at_call 10; refine (HSp2.out _).mono ?_; rintro e w1 ⟨v, rfl, ho, k1⟩; have HK := hidden k1; have HO := hidden ho.row; obtain ⟨va, vc, rfl⟩ := ho.form; rw [List.length_map, ← HNL.out] at HO ⊢; clear k1 ho)
    go_loopw [6, 19] (fun lv iv wr => ∃ (k mm c : Nat) (a : Option Addr), k ≤ n ∧ iv = .int .i64 k ∧ lv = .slice a mm c ∧ mm ≤ k ∧ mm = (cleanL (L.take k)).length ∧ wr.ownsRow w1.heap.size 9 1 (.slice a mm c) mm (TS ((cleanL (L.take k)).map BA)) ∧ Same w1 wr) (fun _ iv _ => n - (intOf iv).toNat)
    case atStart => exact ⟨0, 0, 0, none, Nat.zero_le _, rfl, rfl, Nat.le_refl _, rfl, (OwnT.nil _ _).own, Kept.refl _ _⟩
    case round =>
      obtain ⟨k, mm, c, a, hk, rfl, rfl, hmk, hml, hO, hS⟩ := hrel
      have HML := hidden hml
      have HOw := hidden hO
      have HS := hidden hS
      clear hml hO hS
      by_cases h1 : k < n
      · have hkl : k < L.length := by rw [← HNL.out]; exact h1
        obtain ⟨bk, off, rfl, hc⟩ := (HO.out.same HS.out).text (j := k) (by rw [List.length_map]; exact hkl)
        rw [List.getElem_map] at hc
        have HX := hidden (show cleanL (L.take (k + 1)) = cleanS (cleanL (L.take k)) L[k] by rw [List.take_succ_eq_append_getElem hkl, cleanL_snoc])
        obtain ⟨x, hx⟩ : ∃ x, L[k] = x := ⟨_, rfl⟩
        rw [hx] at hc HX
        have q2 : (k : Int) < (n : Int) := by omega
        have q3 : (0 : Int) ≤ (k : Int) := Int.natCast_nonneg _
        clear hx
        obtain ⟨C, hC⟩ : ∃ C, C = cleanL (L.take k) := ⟨_, rfl⟩
        rw [← hC] at HML HOw HX
        clear hC
        by_cases h2 : x = [46]
        · subst h2
          have HX2 := hidden (show cleanL (L.take (k + 1)) = C by rw [HX.out]; rfl)
          have hc2 : wr.cell? ⟨bk, off + k, none⟩ = some (.string ⟨#[46]⟩) := hc
          clear hc
          go_wp2
          go_roundw
          case rel => exact ⟨k + 1, mm, c, a, by omega, by go_num, rfl, by omega, by rw [HX2.out]; exact HML.out, by rw [HX2.out]; exact HOw.out, HS.out⟩
          case measure => simp [intOf]; omega
        by_cases h3 : x = [46, 46]
        · subst h3
          have HX2 := hidden (show cleanL (L.take (k + 1)) = C.dropLast by rw [HX.out]; rfl)
          have hc2 : wr.cell? ⟨bk, off + k, none⟩ = some (.string ⟨#[46, 46]⟩) := hc
          clear hc
          obtain ⟨j, hj⟩ : ∃ j, j = mm - 1 := ⟨_, rfl⟩
          obtain ⟨xr, xo⟩ := own_head HOw.out (j := j) (by omega) (j : Int) rfl
          rw [ts_take] at xo
          have hdl : C.take j = C.dropLast := by rw [List.dropLast_eq_take, ← HML.out, hj]
          rw [hdl] at xo
          have XO := hidden xo
          have HJ := hidden hj
          have HLn := hidden (show j = C.dropLast.length by rw [List.length_dropLast, ← HML.out, hj])
          clear xo hdl
          have q5 : ∀ ts t W, (Builtin.max_ ts t #[.int .i64 ((mm : Int) - 1), .int .i64 0]).run Tryd.prog W = .ok (.int .i64 (j : Int)) W := fun ts t W => by rw [run_max_int2]; congr 2; split <;> omega
          clear hj
          go_wp2
          go_roundw
          case rel => exact ⟨k + 1, j, c, a, by omega, by go_num, rfl, by have := HJ.out; omega, by rw [HX2.out]; exact HLn.out, by rw [HX2.out]; exact XO.out, HS.out⟩
          case measure => simp [intOf]; omega
        · have HX2 := hidden (show cleanL (L.take (k + 1)) = C ++ [x] by rw [HX.out]; unfold cleanS; rw [if_neg h2, if_neg h3])
          obtain ⟨y1, z1⟩ := str_ne (p := BA x) (l := [46]) (by rw [BA_data]; exact h2)
          obtain ⟨y2, z2⟩ := str_ne (p := BA x) (l := [46, 46]) (by rw [BA_data]; exact h3)
          obtain ⟨y, hy⟩ : ∃ y, y = BA x := ⟨_, rfl⟩
          rw [← hy] at hc y1 z1 y2 z2
          have HY := hidden hy
          clear hy h2 h3
          go_wp2_with (at_builtin; go_must (refine wpList_append_any (by rfl) _ _ 22 (by rfl) w1.heap.size 9 i0 _ 1 16 Tryd.underlying22 hi0 hz0 hz1 hz2 rfl (by decide) _ _ _ _ (by rfl) (HOw.out.alloc _) (some ⟨wr.heap.size, 0, none⟩) 1 1 (TS [y]) (by rfl) (by rfl) (lies_of (World.news_of_block (heap_alloc_new wr _))) (TS_one _) (by unfold maxLen; omega) (by omega) (by simp; have := HS.out.size; omega) ?_; intro a3 c3 w3 hown hgrow; have R3 := hidden (same_grown (m := 0) (HS.out.alloc _) (HOw.out.alloc _) hgrow); have O3 := hidden hown; clear hown hgrow))
          go_roundw
          case rel => exact ⟨k + 1, mm + 1, c3, a3, by omega, by go_num, rfl, by omega, by rw [HX2.out, HML.out]; simp, by rw [HX2.out]; have h := O3.out; rw [HY.out] at h; simpa [TS] using h, R3.out⟩
          case measure => simp [intOf]; omega
      · obtain rfl : k = n := by omega
        have q2 : ¬ (k : Int) < (k : Int) := by omega
        have hrow := Row.own HOw.out
        rw [List.take_of_length_le (by rw [HNL.out]; exact Nat.le_refl _)] at hrow
        have HJn := hidden (joinA_any (cleanL L) a mm c wr hrow (by have := HCW.out; omega))
        obtain ⟨z, hz⟩ : ∃ z, z = BA (joinP (cleanL L)) := ⟨_, rfl⟩
        rw [← hz] at HJn
        have HZ := hidden hz
        clear hrow hz
        go_wp2_with (go_at_call 21; refine (HJn.out).mono ?_; rintro e w2 ⟨rfl, k2⟩; have HK2 := hidden k2; clear k2)
        go_returns
        exact ⟨by rw [← HZ.out]; rfl, HK.out.trans (HS.out.trans HK2.out)⟩
  · rw [if_neg h0]
    have q0 : splE P ≠ 0 := h0
    have HSp2 : Hid (∀ W, Calls Tryd.prog 10 #[.string p] W fun e w' => ∃ v, e = .returned (.tuple #[v, .int .i64 (splE P)]) ∧ OwnT W.heap.size w' v ((splL P).map BA) ∧ Same W w') := hidden (fun W => (HSp.out W).mono fun e w' ⟨u, he, ⟨v, hu, ho⟩, k⟩ => ⟨v, by rw [he, hu], ho, k⟩)
    generalize splE P = z at *
    clear HSp
    go_enter Tryd.func23, Tryd.ntmps23
    go_wp2_with (go_at_call 10; refine (HSp2.out _).mono ?_; rintro e w1 ⟨v, rfl, ho, k1⟩; have HK := hidden k1; obtain ⟨va, vc, rfl⟩ := ho.form; clear k1 ho)
    go_returns
    exact ⟨rfl, HK.out⟩
set_option maxHeartbeats 2000000 in
set_option maxRecDepth 100000 in
theorem cleanD_any (p : ByteArray) (hp : p.size ≤ 140737488355328) (w : World) : Calls Tryd.prog 24 #[.string p] w fun e w' => e = .returned (.tuple #[.string (BA (clnS p.data.toList)), .int .i64 (splE p.data.toList)]) ∧ Same w w' := by
  obtain ⟨i0, hi0, hz0, hz1, hz2⟩ := info_parts infoS
  have HSp := hidden (splitD_any p hp)
  obtain ⟨P, hP⟩ : ∃ P, P = p.data.toList := ⟨_, rfl⟩
  rw [← hP] at HSp ⊢
  clear hP
  unfold clnS
  by_cases h0 : splE P = 0
  · have hgood := split_good h0
    have h512 := (splE_zero.1 h0).2.1
    have hsl : splL P = pc [] P := by unfold splL; rw [if_pos h0]
    obtain ⟨L, hL⟩ : ∃ L, L = pc [] P := ⟨_, rfl⟩
    rw [if_pos h0, h0]
    rw [← hL] at hgood hsl ⊢
    have hw : wsum L ≤ 512 := by have := hgood.2; omega
    have hll := len_wsum L
    have HSp2 : Hid (∀ W, Calls Tryd.prog 11 #[.string p] W fun e w' => ∃ v, e = .returned (.tuple #[v, .int .i64 0]) ∧ OwnT W.heap.size w' v (L.map BA) ∧ Same W w') := hidden (fun W => (HSp.out W).mono fun e w' ⟨u, he, ⟨v, hu, ho⟩, k⟩ => ⟨v, by rw [he, hu, h0], by rw [hsl] at ho; exact ho, k⟩)
    have HCW := hidden (show wsum (cleanL L) ≤ 512 from Nat.le_trans (clean_good hgood.1).2.2 hw)
    obtain ⟨n, hn⟩ : ∃ n, n = L.length := ⟨_, rfl⟩
    have hn5 : n ≤ 512 := by omega
    have HNL := hidden hn
    clear HSp hgood h512 hsl hL hw hll hn h0
    go_enter Tryd.func24, Tryd.ntmps24
    go_wp2_with (go_at_call 11; refine (HSp2.out _).mono ?_; rintro e w1 ⟨v, rfl, ho, k1⟩; have HK := hidden k1; have HO := hidden ho.row; obtain ⟨va, vc, rfl⟩ := ho.form; rw [List.length_map, ← HNL.out] at HO ⊢; clear k1 ho)
    go_loopw [6, 19] (fun lv iv wr => ∃ (k mm c : Nat) (a : Option Addr), k ≤ n ∧ iv = .int .i64 k ∧ lv = .slice a mm c ∧ mm ≤ k ∧ mm = (cleanL (L.take k)).length ∧ wr.ownsRow w1.heap.size 9 1 (.slice a mm c) mm (TS ((cleanL (L.take k)).map BA)) ∧ Same w1 wr) (fun _ iv _ => n - (intOf iv).toNat)
    case atStart => exact ⟨0, 0, 0, none, Nat.zero_le _, rfl, rfl, Nat.le_refl _, rfl, (OwnT.nil _ _).own, Kept.refl _ _⟩
    case round =>
      obtain ⟨k, mm, c, a, hk, rfl, rfl, hmk, hml, hO, hS⟩ := hrel
      have HML := hidden hml
      have HOw := hidden hO
      have HS := hidden hS
      clear hml hO hS
      by_cases h1 : k < n
      · have hkl : k < L.length := by rw [← HNL.out]; exact h1
        obtain ⟨bk, off, rfl, hc⟩ := (HO.out.same HS.out).text (j := k) (by rw [List.length_map]; exact hkl)
        rw [List.getElem_map] at hc
        have HX := hidden (show cleanL (L.take (k + 1)) = cleanS (cleanL (L.take k)) L[k] by rw [List.take_succ_eq_append_getElem hkl, cleanL_snoc])
        obtain ⟨x, hx⟩ : ∃ x, L[k] = x := ⟨_, rfl⟩
        rw [hx] at hc HX
        have q2 : (k : Int) < (n : Int) := by omega
        have q3 : (0 : Int) ≤ (k : Int) := Int.natCast_nonneg _
        clear hx
        obtain ⟨C, hC⟩ : ∃ C, C = cleanL (L.take k) := ⟨_, rfl⟩
        rw [← hC] at HML HOw HX
        clear hC
        by_cases h2 : x = [46]
        · subst h2
          have HX2 := hidden (show cleanL (L.take (k + 1)) = C by rw [HX.out]; rfl)
          have hc2 : wr.cell? ⟨bk, off + k, none⟩ = some (.string ⟨#[46]⟩) := hc
          clear hc
          go_wp2
          go_roundw
          case rel => exact ⟨k + 1, mm, c, a, by omega, by go_num, rfl, by omega, by rw [HX2.out]; exact HML.out, by rw [HX2.out]; exact HOw.out, HS.out⟩
          case measure => simp [intOf]; omega
        by_cases h3 : x = [46, 46]
        · subst h3
          have HX2 := hidden (show cleanL (L.take (k + 1)) = C.dropLast by rw [HX.out]; rfl)
          have hc2 : wr.cell? ⟨bk, off + k, none⟩ = some (.string ⟨#[46, 46]⟩) := hc
          clear hc
          obtain ⟨j, hj⟩ : ∃ j, j = mm - 1 := ⟨_, rfl⟩
          obtain ⟨xr, xo⟩ := own_head HOw.out (j := j) (by omega) (j : Int) rfl
          rw [ts_take] at xo
          have hdl : C.take j = C.dropLast := by rw [List.dropLast_eq_take, ← HML.out, hj]
          rw [hdl] at xo
          have XO := hidden xo
          have HJ := hidden hj
          have HLn := hidden (show j = C.dropLast.length by rw [List.length_dropLast, ← HML.out, hj])
          clear xo hdl
          by_cases h4 : mm = 0
          · have q4 : ¬ (0 : Int) < (mm : Int) := by omega
            have hC0 : C.dropLast = C := by
              have : C = [] := List.length_eq_zero_iff.1 (by rw [← HML.out]; exact h4)
              rw [this]
              rfl
            have HC0 := hidden hC0
            clear hC0 xr hj h4
            go_wp2
            go_roundw
            case rel => exact ⟨k + 1, mm, c, a, by omega, by go_num, rfl, by omega, by rw [HX2.out, HC0.out]; exact HML.out, by rw [HX2.out, HC0.out]; exact HOw.out, HS.out⟩
            case measure => simp [intOf]; omega
          · have q4 : (0 : Int) < (mm : Int) := by omega
            have q5 : (mm : Int) - 1 = (j : Int) := by omega
            have q6 : IntKind.i64.wrap (j : Int) = (j : Int) := by rw [IntKind.wrap_i64]; omega
            clear hj
            go_wp2
            go_roundw
            case rel => exact ⟨k + 1, j, c, a, by omega, by go_num, rfl, by have := HJ.out; omega, by rw [HX2.out]; exact HLn.out, by rw [HX2.out]; exact XO.out, HS.out⟩
            case measure => simp [intOf]; omega
        · have HX2 := hidden (show cleanL (L.take (k + 1)) = C ++ [x] by rw [HX.out]; unfold cleanS; rw [if_neg h2, if_neg h3])
          obtain ⟨y1, z1⟩ := str_ne (p := BA x) (l := [46]) (by rw [BA_data]; exact h2)
          obtain ⟨y2, z2⟩ := str_ne (p := BA x) (l := [46, 46]) (by rw [BA_data]; exact h3)
          obtain ⟨y, hy⟩ : ∃ y, y = BA x := ⟨_, rfl⟩
          rw [← hy] at hc y1 z1 y2 z2
          have HY := hidden hy
          clear hy h2 h3
          go_wp2_with (at_builtin; go_must (refine wpList_append_any (by rfl) _ _ 22 (by rfl) w1.heap.size 9 i0 _ 1 16 Tryd.underlying22 hi0 hz0 hz1 hz2 rfl (by decide) _ _ _ _ (by rfl) (HOw.out.alloc _) (some ⟨wr.heap.size, 0, none⟩) 1 1 (TS [y]) (by rfl) (by rfl) (lies_of (World.news_of_block (heap_alloc_new wr _))) (TS_one _) (by unfold maxLen; omega) (by omega) (by simp; have := HS.out.size; omega) ?_; intro a3 c3 w3 hown hgrow; have R3 := hidden (same_grown (m := 0) (HS.out.alloc _) (HOw.out.alloc _) hgrow); have O3 := hidden hown; clear hown hgrow))
          go_roundw
          case rel => exact ⟨k + 1, mm + 1, c3, a3, by omega, by go_num, rfl, by omega, by rw [HX2.out, HML.out]; simp, by rw [HX2.out]; have h := O3.out; rw [HY.out] at h; simpa [TS] using h, R3.out⟩
          case measure => simp [intOf]; omega
      · obtain rfl : k = n := by omega
        have q2 : ¬ (k : Int) < (k : Int) := by omega
        have hrow := Row.own HOw.out
        rw [List.take_of_length_le (by rw [HNL.out]; exact Nat.le_refl _)] at hrow
        have HJn := hidden (joinD_any (cleanL L) a mm c wr hrow (by have := HCW.out; omega))
        obtain ⟨z, hz⟩ : ∃ z, z = BA (joinP (cleanL L)) := ⟨_, rfl⟩
        rw [← hz] at HJn
        have HZ := hidden hz
        clear hrow hz
        go_wp2_with (go_at_call 22; refine (HJn.out).mono ?_; rintro e w2 ⟨rfl, k2⟩; have HK2 := hidden k2; clear k2)
        go_returns
        exact ⟨by rw [← HZ.out]; rfl, HK2.out ▸ HK.out.trans HS.out⟩
  · rw [if_neg h0]
    have q0 : splE P ≠ 0 := h0
    have HSp2 : Hid (∀ W, Calls Tryd.prog 11 #[.string p] W fun e w' => ∃ v, e = .returned (.tuple #[v, .int .i64 (splE P)]) ∧ OwnT W.heap.size w' v ((splL P).map BA) ∧ Same W w') := hidden (fun W => (HSp.out W).mono fun e w' ⟨u, he, ⟨v, hu, ho⟩, k⟩ => ⟨v, by rw [he, hu], ho, k⟩)
    generalize splE P = z at *
    clear HSp
    go_enter Tryd.func24, Tryd.ntmps24
    go_wp2_with (go_at_call 11; refine (HSp2.out _).mono ?_; rintro e w1 ⟨v, rfl, ho, k1⟩; have HK := hidden k1; obtain ⟨va, vc, rfl⟩ := ho.form; clear k1 ho)
    go_returns
    exact ⟨rfl, HK.out⟩
end Go.Proofs.YtabpjegigpmfmaaDoor
