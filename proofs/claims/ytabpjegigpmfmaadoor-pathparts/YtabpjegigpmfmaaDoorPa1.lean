/- path: pieces, of the program and of the document, walked. -/
import Derived.Test.YtabpjegigpmfmaaDoorPa0
import Derived.Test.YtabpjegigpmfmaaDoorPaP
import Derived.WalkMore
namespace Go.Proofs.YtabpjegigpmfmaaDoor
open Go.RowKit
set_option linter.unusedVariables false
set_option linter.unusedSimpArgs false
theorem str_slice (s : ByteArray) (W : World) (i j : Nat) (h : i ≤ j) (hj : j ≤ s.size) : (Instr.sliceAt 9 (.string s) (some (.int .i64 (i : Int))) (some (.int .i64 (j : Int))) none).run Tryd.prog W = .ok (.string (BA ((s.data.toList.take j).drop i))) W := by
  rw [run_sliceAt_string (h := Tryd.underlying9), run_slice_string (h := Tryd.underlying9) (h0 := by omega) (h1 := by omega) (h2 := by omega)]
  have e : s.extract i j = BA ((s.data.toList.take j).drop i) := by
    unfold BA
    apply ByteArray.ext
    rw [ByteArray.data_extract]
    apply Array.ext'
    simp [List.drop_take]
  simp only [Int.toNat_natCast]
  rw [e]
theorem str_at (s : ByteArray) (W : World) (j : Nat) (b : UInt8) (h : s.data.toList[j]? = some b) : (Instr.index 9 (.string s) (.int .i64 (j : Int))).run Tryd.prog W = .ok (.int .u8 (b.toNat : Int)) W := by
  have hj : j < s.size := by rw [← size_list]; exact (List.getElem?_eq_some_iff.1 h).1
  rw [run_index_string (h := Tryd.underlying9), dif_pos (by omega)]
  have : s[j]'hj = b := by
    have := (List.getElem?_eq_some_iff.1 h).2
    rw [← this]
    rfl
  rw [← this]
  rfl
/-- Texts in a row of the call's own. -/
structure OwnT (B : Nat) (w : World) (v : Value) (l : List ByteArray) : Prop where
  own : w.ownsRow B 9 1 v l.length (TS l)
theorem OwnT.form {B : Nat} {w : World} {v : Value} {l : List ByteArray} (h : OwnT B w v l) : ∃ a c, v = .slice a l.length c := own_form h.own
theorem OwnT.row {B : Nat} {w : World} {v : Value} {l : List ByteArray} (h : OwnT B w v l) : Row w v (TS l) := Row.own h.own
theorem OwnT.same {B : Nat} {w w' : World} {v : Value} {l : List ByteArray} (h : OwnT B w v l) (k : Same w w') : OwnT B w' v l := ⟨own_kept h.own k (fun _ _ h => h)⟩
theorem OwnT.nil (B : Nat) (w : World) : OwnT B w (.slice none 0 0) [] := ⟨rfl, Or.inl ⟨rfl, rfl⟩⟩
theorem OwnT.mono {B C : Nat} {w : World} {v : Value} {l : List ByteArray} (h : OwnT B w v l) (hc : C ≤ B) : OwnT C w v l := ⟨own_mono h.own hc⟩
/-- What is left of the pieces. -/
def left (P : List UInt8) (k fr : Nat) : List (List UInt8) := if k ≤ P.length then pc ((P.take k).drop fr) (P.drop k) else []
theorem left_go {P : List UInt8} {k fr : Nat} {b : UInt8} (h : P[k]? = some b) (hb : b ≠ 47) (hf : fr ≤ k) : left P k fr = left P (k + 1) fr := by
  have hk := (List.getElem?_eq_some_iff.1 h).1
  have hg := (List.getElem?_eq_some_iff.1 h).2
  unfold left
  rw [if_pos (by omega), if_pos (by omega), List.drop_eq_getElem_cons hk, hg, pc, if_neg hb, List.take_succ_eq_append_getElem hk, hg, List.drop_append_of_le_length (by rw [List.length_take]; omega)]
theorem left_cut {P : List UInt8} {k fr : Nat} (hk : k ≤ P.length) (h : k = P.length ∨ P[k]? = some 47) : left P k fr = lift ((P.take k).drop fr) ++ left P (k + 1) (k + 1) := by
  rcases h with h | h
  · subst h
    unfold left
    rw [if_pos hk, if_neg (by omega)]
    simp [pc]
  · have hk := (List.getElem?_eq_some_iff.1 h).1
    have hg := (List.getElem?_eq_some_iff.1 h).2
    unfold left
    rw [if_pos (by omega), if_pos (by omega), List.drop_eq_getElem_cons hk, hg, pc, if_pos rfl]
    congr 2
    rw [List.drop_of_length_le (by rw [List.length_take]; omega)]
theorem left_zero (P : List UInt8) : left P 0 0 = pc [] P := by simp [left]
theorem left_end (P : List UInt8) (k fr : Nat) (h : P.length < k) : left P k fr = [] := by unfold left; rw [if_neg (by omega)]
theorem mid_len {P : List UInt8} {k fr : Nat} (hk : k ≤ P.length) : ((P.take k).drop fr).length = k - fr := by rw [List.length_drop, List.length_take]; omega
/-- What pieces tells. -/
structure PcR (B : Nat) (w : World) (u : Value) (P : List UInt8) : Prop where
  ex : ∃ v, u = .tuple #[v, .bool (fits P)] ∧ OwnT B w v (if fits P then (pc [] P).map BA else [])
set_option maxHeartbeats 1000000 in
set_option maxRecDepth 100000 in
theorem pieces_any (p : ByteArray) (hp : p.size ≤ 1099511627776) (w : World) : Calls Tryd.prog 28 #[.string p] w fun e w' => ∃ u, e = .returned u ∧ PcR w.heap.size w' u p.data.toList ∧ Same w w' := by
  obtain ⟨i0, hi0, hz0, hz1, hz2⟩ := info_parts infoS
  have hsl : p.data.toList.length = p.size := size_list p
  have HAt := hidden (str_at p)
  have HSl := hidden (str_slice p)
  obtain ⟨P, hP⟩ : ∃ P, P = p.data.toList := ⟨_, rfl⟩
  rw [← hP] at hsl HAt HSl ⊢
  obtain ⟨m, hm⟩ : ∃ m, m = p.size := ⟨_, rfl⟩
  rw [← hm] at hsl HSl hp
  have HLl := hidden hsl
  clear hP hsl
  have hms : (p.size : Int) = (m : Int) := by omega
  clear hm
  go_enter Tryd.func28, Tryd.ntmps28
  go_wp2
  go_step3
  go_wp2
  go_step3
  go_wp2
  go_loopw [2, 3, 4, 9] (fun v o f i wr => ∃ (k fr c n : Nat) (a : Option Addr) (done : List (List UInt8)), k ≤ m + 1 ∧ fr ≤ k ∧ v = .slice a n c ∧ n = done.length ∧ o = .bool true ∧ f = .int .i64 fr ∧ i = .int .i64 k ∧ n ≤ k ∧ pc [] P = done ++ left P k fr ∧ (∀ x ∈ done, x.length ≤ 32) ∧ wr.ownsRow w.heap.size 9 1 (.slice a n c) n (TS (done.map BA)) ∧ Same w wr) (fun _ _ _ i _ => m + 1 - (intOf i).toNat)
  case atStart => exact ⟨0, 0, 0, 0, none, [], by omega, Nat.le_refl _, rfl, rfl, rfl, rfl, rfl, Nat.le_refl _, by rw [left_zero]; rfl, (fun x hx => by cases hx), (OwnT.nil _ _).own, Kept.refl _ _⟩
  case round =>
    obtain ⟨k, fr, c, n, a, done, hk, hf, rfl, hn, rfl, rfl, rfl, hnk, hpc, hd, hO, hS⟩ := hrel
    have HN := hidden hn
    have HPc := hidden hpc
    have HD := hidden hd
    have HO := hidden hO
    have HS := hidden hS
    clear hn hpc hd hO hS
    by_cases h1 : k = m + 1
    · subst h1
      go_wp2
      try rw [Exit.noGoto_ret]
      go_returns
      have hx : pc [] P = done := by rw [HPc.out, left_end _ _ _ (by rw [HLl.out]; omega), List.append_nil]
      have hfit : fits P = true := by
        unfold fits
        rw [hx]
        exact List.all_eq_true.2 fun x hx => by simpa using HD.out x hx
      refine ⟨_, rfl, ⟨.slice a n c, by rw [hfit]; rfl, ?_⟩, HS.out⟩
      rw [hfit, if_pos rfl, hx]
      refine ⟨?_⟩
      rw [List.length_map, ← HN.out]
      exact HO.out
    · have hkm : k ≤ m := by omega
      have q1 : (k : Int) < (m : Int) + 1 := by omega
      by_cases h2 : k < m ∧ P[k]? ≠ some 47
      · obtain ⟨b, hb⟩ : ∃ b, P[k]? = some b := ⟨_, List.getElem?_eq_getElem (by rw [HLl.out]; exact h2.1)⟩
        have hb47 : b ≠ 47 := fun e => h2.2 (by rw [hb, e])
        have x1 := fun W => HAt.out W k b hb
        have q2 : (k : Int) < (m : Int) := by omega
        have q3 : ¬ (b.toNat : Int) = 47 := fun e => hb47 (UInt8.toNat_inj.1 (by simpa using Int.ofNat.inj e))
        have HB := hidden hb
        have HB47 := hidden hb47
        clear h2 hb hb47
        go_wp2
        go_roundw
        case rel => exact ⟨k + 1, fr, c, n, a, done, by omega, by omega, rfl, HN.out, rfl, rfl, by go_num, by omega, by rw [HPc.out, left_go HB.out HB47.out hf], HD.out, HO.out, HS.out⟩
        case measure => simp [intOf]; omega
      · have hcut : k = P.length ∨ P[k]? = some 47 := by
          by_cases e : k < m
          · exact .inr (Decidable.byContradiction fun h => h2 ⟨e, h⟩)
          · exact .inl (by rw [HLl.out]; omega)
        have HPc2 := hidden (show pc [] P = done ++ (lift ((P.take k).drop fr) ++ left P (k + 1) (k + 1)) by rw [HPc.out, left_cut (by rw [HLl.out]; exact hkm) hcut])
        have HML := hidden (show ((P.take k).drop fr).length = k - fr from mid_len (by rw [HLl.out]; exact hkm))
        have x2 := fun W => HSl.out W fr k hf hkm
        obtain ⟨X, hX⟩ : ∃ X, X = (P.take k).drop fr := ⟨_, rfl⟩
        rw [← hX] at HPc2 HML x2
        clear hX h2
        have q5 : (k : Int) - (fr : Int) = ((k - fr : Nat) : Int) := by omega
        obtain ⟨d, hd⟩ : ∃ d, d = k - fr := ⟨_, rfl⟩
        rw [← hd] at q5 HML
        have e5 : IntKind.i64.wrap (d : Int) = (d : Int) := by rw [IntKind.wrap_i64]; omega
        have HFit : Hid (32 < d → fits P = false) := hidden (fun h => by
          have hx : X ∈ pc [] P := by
            rw [HPc2.out, lift_ne (fun e => by have := HML.out; rw [e] at this; simp at this; omega)]
            simp
          cases hf : fits P
          · rfl
          · have := List.all_eq_true.1 hf X hx
            have h2 := HML.out
            simp at this
            omega)
        by_cases h0 : k < m
        · have q2 : (k : Int) < (m : Int) := by omega
          have hb : P[k]? = some 47 := by rcases hcut with e | e; (rw [HLl.out] at e; omega); exact e
          have x1 := fun W => HAt.out W k 47 hb
          have q3 : ((47 : UInt8).toNat : Int) = 47 := rfl
          rw [q3] at x1
          clear hb hcut q3
          by_cases h3 : 32 < d
          · have q6 : (32 : Int) < (d : Int) := by omega
            go_wp2
            try rw [Exit.noGoto_ret]
            go_returns
            exact ⟨_, rfl, ⟨.slice none 0 0, by rw [HFit.out h3]; rfl, by rw [HFit.out h3]; exact OwnT.nil _ _⟩, HS.out⟩
          · have q6 : ¬ (32 : Int) < (d : Int) := by omega
            by_cases h4 : fr < k
            · have q7 : (fr : Int) < (k : Int) := by omega
              go_wp2_with (at_builtin; go_must (refine wpList_append_any (by rfl) _ _ 22 (by rfl) w.heap.size 9 i0 _ 1 16 Tryd.underlying22 hi0 hz0 hz1 hz2 rfl (by decide) _ _ _ _ (by rfl) (HO.out.alloc _) (some ⟨wr.heap.size, 0, none⟩) 1 1 (TS [BA X]) (by rfl) (by rfl) (lies_of (World.news_of_block (heap_alloc_new wr _))) (TS_one _) (by unfold maxLen; omega) (by omega) (by simp; have := HS.out.size; omega) ?_; intro a3 c3 w3 hown hgrow; have R3 := hidden (same_grown (m := 0) (HS.out.alloc _) (HO.out.alloc _) hgrow); have O3 := hidden hown; clear hown hgrow))
              go_roundw
              case rel => exact ⟨k + 1, k + 1, c3, n + 1, a3, done ++ [X], by omega, Nat.le_refl _, rfl, by rw [HN.out]; simp, rfl, by go_num, by go_num, by omega, by rw [HPc2.out, lift_ne (fun e => by have := HML.out; rw [e] at this; simp at this; omega)]; simp, (fun x hx => by rcases List.mem_append.1 hx with h | h; (exact HD.out x h); (simp at h; rw [h, HML.out]; omega)), by have h := O3.out; simpa [TS] using h, R3.out⟩
              case measure => simp [intOf]; omega
            · have q7 : ¬ (fr : Int) < (k : Int) := by omega
              have hX0 : X = [] := List.length_eq_zero_iff.1 (by rw [HML.out]; omega)
              have HPc3 := hidden (show pc [] P = done ++ left P (k + 1) (k + 1) by rw [HPc2.out, hX0, lift_nil]; rfl)
              clear hX0
              go_wp2
              go_roundw
              case rel => exact ⟨k + 1, k + 1, c, n, a, done, by omega, Nat.le_refl _, rfl, HN.out, rfl, by go_num, by go_num, by omega, HPc3.out, HD.out, HO.out, HS.out⟩
              case measure => simp [intOf]; omega
        · have q2 : ¬ (k : Int) < (m : Int) := by omega
          clear hcut
          by_cases h3 : 32 < d
          · have q6 : (32 : Int) < (d : Int) := by omega
            go_wp2
            try rw [Exit.noGoto_ret]
            go_returns
            exact ⟨_, rfl, ⟨.slice none 0 0, by rw [HFit.out h3]; rfl, by rw [HFit.out h3]; exact OwnT.nil _ _⟩, HS.out⟩
          · have q6 : ¬ (32 : Int) < (d : Int) := by omega
            by_cases h4 : fr < k
            · have q7 : (fr : Int) < (k : Int) := by omega
              go_wp2_with (at_builtin; go_must (refine wpList_append_any (by rfl) _ _ 22 (by rfl) w.heap.size 9 i0 _ 1 16 Tryd.underlying22 hi0 hz0 hz1 hz2 rfl (by decide) _ _ _ _ (by rfl) (HO.out.alloc _) (some ⟨wr.heap.size, 0, none⟩) 1 1 (TS [BA X]) (by rfl) (by rfl) (lies_of (World.news_of_block (heap_alloc_new wr _))) (TS_one _) (by unfold maxLen; omega) (by omega) (by simp; have := HS.out.size; omega) ?_; intro a3 c3 w3 hown hgrow; have R3 := hidden (same_grown (m := 0) (HS.out.alloc _) (HO.out.alloc _) hgrow); have O3 := hidden hown; clear hown hgrow))
              go_roundw
              case rel => exact ⟨k + 1, k + 1, c3, n + 1, a3, done ++ [X], by omega, Nat.le_refl _, rfl, by rw [HN.out]; simp, rfl, by go_num, by go_num, by omega, by rw [HPc2.out, lift_ne (fun e => by have := HML.out; rw [e] at this; simp at this; omega)]; simp, (fun x hx => by rcases List.mem_append.1 hx with h | h; (exact HD.out x h); (simp at h; rw [h, HML.out]; omega)), by have h := O3.out; simpa [TS] using h, R3.out⟩
              case measure => simp [intOf]; omega
            · have q7 : ¬ (fr : Int) < (k : Int) := by omega
              have hX0 : X = [] := List.length_eq_zero_iff.1 (by rw [HML.out]; omega)
              have HPc3 := hidden (show pc [] P = done ++ left P (k + 1) (k + 1) by rw [HPc2.out, hX0, lift_nil]; rfl)
              clear hX0
              go_wp2
              go_roundw
              case rel => exact ⟨k + 1, k + 1, c, n, a, done, by omega, Nat.le_refl _, rfl, HN.out, rfl, by go_num, by go_num, by omega, HPc3.out, HD.out, HO.out, HS.out⟩
              case measure => simp [intOf]; omega
set_option maxHeartbeats 1000000 in
set_option maxRecDepth 100000 in
theorem piecesD_any (p : ByteArray) (hp : p.size ≤ 1099511627776) (w : World) : Calls Tryd.prog 30 #[.string p] w fun e w' => ∃ u, e = .returned u ∧ OwnT w.heap.size w' u ((pc [] p.data.toList).map BA) ∧ Same w w' := by
  obtain ⟨i0, hi0, hz0, hz1, hz2⟩ := info_parts infoS
  have hsl : p.data.toList.length = p.size := size_list p
  have HAt := hidden (str_at p)
  have HSl := hidden (str_slice p)
  obtain ⟨P, hP⟩ : ∃ P, P = p.data.toList := ⟨_, rfl⟩
  rw [← hP] at hsl HAt HSl ⊢
  obtain ⟨m, hm⟩ : ∃ m, m = p.size := ⟨_, rfl⟩
  rw [← hm] at hsl HSl hp
  have HLl := hidden hsl
  clear hP hsl
  have hms : (p.size : Int) = (m : Int) := by omega
  clear hm
  go_enter Tryd.func30, Tryd.ntmps30
  go_wp2
  go_loopw [3, 4, 5] (fun v f i wr => ∃ (k fr c n : Nat) (a : Option Addr) (done : List (List UInt8)), k ≤ m + 1 ∧ fr ≤ k ∧ v = .slice a n c ∧ n = done.length ∧ f = .int .i64 fr ∧ i = .int .i64 k ∧ n ≤ k ∧ pc [] P = done ++ left P k fr ∧ wr.ownsRow w.heap.size 9 1 (.slice a n c) n (TS (done.map BA)) ∧ Same w wr) (fun _ _ i _ => m + 1 - (intOf i).toNat)
  case atStart => exact ⟨0, 0, 0, 0, none, [], by omega, Nat.le_refl _, rfl, rfl, rfl, rfl, Nat.le_refl _, by rw [left_zero]; rfl, (OwnT.nil _ _).own, Kept.refl _ _⟩
  case round =>
    obtain ⟨k, fr, c, n, a, done, hk, hf, rfl, hn, rfl, rfl, hnk, hpc, hO, hS⟩ := hrel
    have HN := hidden hn
    have HPc := hidden hpc
    have HO := hidden hO
    have HS := hidden hS
    clear hn hpc hO hS
    by_cases h1 : k = m + 1
    · subst h1
      go_wp2
      go_returns
      have hx : pc [] P = done := by rw [HPc.out, left_end _ _ _ (by rw [HLl.out]; omega), List.append_nil]
      refine ⟨_, rfl, ?_, HS.out⟩
      rw [hx]
      refine ⟨?_⟩
      rw [List.length_map, ← HN.out]
      exact HO.out
    · have hkm : k ≤ m := by omega
      have q1 : (k : Int) ≤ (m : Int) := by omega
      by_cases h2 : k < m ∧ P[k]? ≠ some 47
      · obtain ⟨b, hb⟩ : ∃ b, P[k]? = some b := ⟨_, List.getElem?_eq_getElem (by rw [HLl.out]; exact h2.1)⟩
        have hb47 : b ≠ 47 := fun e => h2.2 (by rw [hb, e])
        have x1 := fun W => HAt.out W k b hb
        have q2 : (k : Int) < (m : Int) := by omega
        have q3 : ¬ (b.toNat : Int) = 47 := fun e => hb47 (UInt8.toNat_inj.1 (by simpa using Int.ofNat.inj e))
        have HB := hidden hb
        have HB47 := hidden hb47
        clear h2 hb hb47
        go_wp2
        go_roundw
        case rel => exact ⟨k + 1, fr, c, n, a, done, by omega, by omega, rfl, HN.out, rfl, by go_num, by omega, by rw [HPc.out, left_go HB.out HB47.out hf], HO.out, HS.out⟩
        case measure => simp [intOf]; omega
      · have hcut : k = P.length ∨ P[k]? = some 47 := by
          by_cases e : k < m
          · exact .inr (Decidable.byContradiction fun h => h2 ⟨e, h⟩)
          · exact .inl (by rw [HLl.out]; omega)
        have HPc2 := hidden (show pc [] P = done ++ (lift ((P.take k).drop fr) ++ left P (k + 1) (k + 1)) by rw [HPc.out, left_cut (by rw [HLl.out]; exact hkm) hcut])
        have HML := hidden (show ((P.take k).drop fr).length = k - fr from mid_len (by rw [HLl.out]; exact hkm))
        have x2 := fun W => HSl.out W fr k hf hkm
        obtain ⟨X, hX⟩ : ∃ X, X = (P.take k).drop fr := ⟨_, rfl⟩
        rw [← hX] at HPc2 HML x2
        clear hX h2
        have q5 : (k : Int) - (fr : Int) = ((k - fr : Nat) : Int) := by omega
        obtain ⟨d, hd⟩ : ∃ d, d = k - fr := ⟨_, rfl⟩
        rw [← hd] at q5 HML
        have e5 : IntKind.i64.wrap (d : Int) = (d : Int) := by rw [IntKind.wrap_i64]; omega
        by_cases h0 : k < m
        · have q2 : (k : Int) < (m : Int) := by omega
          have hb : P[k]? = some 47 := by rcases hcut with e | e; (rw [HLl.out] at e; omega); exact e
          have x1 := fun W => HAt.out W k 47 hb
          have q3 : ((47 : UInt8).toNat : Int) = 47 := rfl
          rw [q3] at x1
          clear hb hcut q3
          by_cases h4 : fr < k
          · have q7 : (fr : Int) < (k : Int) := by omega
            go_wp2_with (at_builtin; go_must (refine wpList_append_any (by rfl) _ _ 22 (by rfl) w.heap.size 9 i0 _ 1 16 Tryd.underlying22 hi0 hz0 hz1 hz2 rfl (by decide) _ _ _ _ (by rfl) (HO.out.alloc _) (some ⟨wr.heap.size, 0, none⟩) 1 1 (TS [BA X]) (by rfl) (by rfl) (lies_of (World.news_of_block (heap_alloc_new wr _))) (TS_one _) (by unfold maxLen; omega) (by omega) (by simp; have := HS.out.size; omega) ?_; intro a3 c3 w3 hown hgrow; have R3 := hidden (same_grown (m := 0) (HS.out.alloc _) (HO.out.alloc _) hgrow); have O3 := hidden hown; clear hown hgrow))
            go_roundw
            case rel => exact ⟨k + 1, k + 1, c3, n + 1, a3, done ++ [X], by omega, Nat.le_refl _, rfl, by rw [HN.out]; simp, by go_num, by go_num, by omega, by rw [HPc2.out, lift_ne (fun e => by have := HML.out; rw [e] at this; simp at this; omega)]; simp, by have h := O3.out; simpa [TS] using h, R3.out⟩
            case measure => simp [intOf]; omega
          · have q7 : ¬ (fr : Int) < (k : Int) := by omega
            have hX0 : X = [] := List.length_eq_zero_iff.1 (by rw [HML.out]; omega)
            have HPc3 := hidden (show pc [] P = done ++ left P (k + 1) (k + 1) by rw [HPc2.out, hX0, lift_nil]; rfl)
            clear hX0
            go_wp2
            go_roundw
            case rel => exact ⟨k + 1, k + 1, c, n, a, done, by omega, Nat.le_refl _, rfl, HN.out, by go_num, by go_num, by omega, HPc3.out, HO.out, HS.out⟩
            case measure => simp [intOf]; omega
        · have q2 : ¬ (k : Int) < (m : Int) := by omega
          clear hcut
          by_cases h4 : fr < k
          · have q7 : (fr : Int) < (k : Int) := by omega
            go_wp2_with (at_builtin; go_must (refine wpList_append_any (by rfl) _ _ 22 (by rfl) w.heap.size 9 i0 _ 1 16 Tryd.underlying22 hi0 hz0 hz1 hz2 rfl (by decide) _ _ _ _ (by rfl) (HO.out.alloc _) (some ⟨wr.heap.size, 0, none⟩) 1 1 (TS [BA X]) (by rfl) (by rfl) (lies_of (World.news_of_block (heap_alloc_new wr _))) (TS_one _) (by unfold maxLen; omega) (by omega) (by simp; have := HS.out.size; omega) ?_; intro a3 c3 w3 hown hgrow; have R3 := hidden (same_grown (m := 0) (HS.out.alloc _) (HO.out.alloc _) hgrow); have O3 := hidden hown; clear hown hgrow))
            go_roundw
            case rel => exact ⟨k + 1, k + 1, c3, n + 1, a3, done ++ [X], by omega, Nat.le_refl _, rfl, by rw [HN.out]; simp, by go_num, by go_num, by omega, by rw [HPc2.out, lift_ne (fun e => by have := HML.out; rw [e] at this; simp at this; omega)]; simp, by have h := O3.out; simpa [TS] using h, R3.out⟩
            case measure => simp [intOf]; omega
          · have q7 : ¬ (fr : Int) < (k : Int) := by omega
            have hX0 : X = [] := List.length_eq_zero_iff.1 (by rw [HML.out]; omega)
            have HPc3 := hidden (show pc [] P = done ++ left P (k + 1) (k + 1) by rw [HPc2.out, hX0, lift_nil]; rfl)
            clear hX0
            go_wp2
            go_roundw
            case rel => exact ⟨k + 1, k + 1, c, n, a, done, by omega, Nat.le_refl _, rfl, HN.out, by go_num, by go_num, by omega, HPc3.out, HO.out, HS.out⟩
            case measure => simp [intOf]; omega
end Go.Proofs.YtabpjegigpmfmaaDoor
