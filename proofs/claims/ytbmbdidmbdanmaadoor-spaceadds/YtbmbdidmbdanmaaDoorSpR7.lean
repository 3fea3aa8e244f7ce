/- The document's Take. -/
import Derived.Test.YtbmbdidmbdanmaaDoorSpR6
namespace Go.Proofs.YtbmbdidmbdanmaaDoor
open Go.RowKit Go.Shelf
set_option linter.unusedVariables false
set_option linter.unusedSimpArgs false
variable {zp : Spare}
theorem fit_at {L : List (Nat × Nat)} {n : Int} : ∀ {i : Nat} (h : i < L.length), (∀ j (hj : j < L.length), j < i → (L[j].2 : Int) < n) → n ≤ (L[i].2 : Int) → fitR L n = some L[i] := by
  intro i h h1 h2
  unfold fitR
  rw [List.find?_eq_some_iff_getElem]
  refine ⟨by simpa using h2, i, h, rfl, fun j hj => ?_⟩
  have := h1 j (by omega) hj
  simp
  omega
theorem fit_end {L : List (Nat × Nat)} {n : Int} (h : ∀ j (hj : j < L.length), (L[j].2 : Int) < n) : fitR L n = none := by
  unfold fitR
  rw [List.find?_eq_none]
  intro x hx
  obtain ⟨j, hj, rfl⟩ := List.mem_iff_getElem.1 hx
  have := h j hj
  simp
  omega
set_option maxHeartbeats 2000000 in
set_option maxRecDepth 100000 in
theorem rf_takeArg (q : Nat) (n : Int) (w : World) (hn : n < 1) :
    Calls Tryd.prog 32 #[.pointer (some ⟨q, 0, none⟩), .int .i64 n] w fun e w' => e = .returned (.tuple #[.int .i64 0, .int .i64 1]) ∧ Same w w' := by
  go_enter Tryd.func32, Tryd.ntmps32
  go_wp2
  go_returns
  exact ⟨rfl, Kept.refl _ _⟩
set_option maxHeartbeats 2000000 in
set_option maxRecDepth 100000 in
theorem rf_takeFull (q r first count : Nat) (u v : Nat → Bool) (res : Nat) (n : Int) (w : World) (h : RfAt zp q r first count u v res w) (hp : Pl first count u v res) (h1 : 1 ≤ n) (hn : leftZ count u v res < n) :
    Calls Tryd.prog 32 #[.pointer (some ⟨q, 0, none⟩), .int .i64 n] w fun e w' => e = .returned (.tuple #[.int .i64 0, .int .i64 2]) ∧ Same w w' := by
  have HL := hidden (rf_left q r first count u v res w h hp)
  have q0 : ¬ n < 1 := by omega
  generalize leftZ count u v res = L at *
  clear h hp
  go_enter Tryd.func32, Tryd.ntmps32
  go_wp2_with (go_at_call 26; refine HL.out.mono ?_; rintro e w2 ⟨rfl, nn, rfl⟩)
  go_returns
  exact ⟨rfl, (Kept.refl _ w).drewN _⟩
set_option maxHeartbeats 4000000 in
set_option maxRecDepth 100000 in
theorem rf_takeRun (q r first count m : Nat) (u v : Nat → Bool) (res : Nat) (w : World) (h : RfAt zp q r first count u v res w) (hp : Pl first count u v res) (h1 : 1 ≤ m) (hm4 : m ≤ 4096) (hn : ¬ leftZ count u v res < m) :
    Calls Tryd.prog 32 #[.pointer (some ⟨q, 0, none⟩), .int .i64 (m : Int)] w fun e w' =>
      (∀ a pm, fitR (rp (fun i => u i || v i) count) (m : Int) = some (a, pm) → e = .returned (.tuple #[.int .i64 ((first + a : Nat) : Int), .int .i64 0]) ∧ RfAt zp q r first count (fSet u a (a + m)) v res w' ∧ Kept (fun b => b = r) w w') ∧
      (fitR (rp (fun i => u i || v i) count) (m : Int) = none → e = .returned (.tuple #[.int .i64 0, .int .i64 2]) ∧ Same w w') := by
  have HL := hidden (rf_left q r first count u v res w h hp)
  have HH := hidden (fun W (k : Same w W) => h.kept k (fun h => h) (fun h => h))
  have HRu := hidden (fun W (k : Same w W) => rf_runs q r first count u v res W (h.kept k (fun h => h) (fun h => h)) hp.fits.2.1)
  have l3 := hp.fits
  have q0 : ¬ (m : Int) < 1 := by omega
  have HEn := hidden (rp_ends (fun i => u i || v i) count)
  have HFr := hidden (rp_free (fun i => u i || v i) count)
  have hwl := blk_lt h.row
  have hwq := blk_lt h.box
  obtain ⟨R, hR⟩ : ∃ R, R = rp (fun i => u i || v i) count := ⟨_, rfl⟩
  rw [← hR] at HRu HEn HFr ⊢
  have hRl : R.length ≤ 4096 := by rw [hR]; have := rp_len (fun i => u i || v i) count; omega
  generalize leftZ count u v res = L at *
  clear h hp hR
  go_enter Tryd.func32, Tryd.ntmps32
  go_wp2_with (first
    | (go_at_call 26; refine HL.out.mono ?_; rintro e w2 ⟨rfl, nn, rfl⟩; have K1 := hidden ((Kept.refl (fun _ => False) w).drewN nn))
    | (go_at_call 54; refine (HRu.out _ K1.out).mono ?_; rintro e w1 ⟨a0, N, c, rfl, hN, hO, k1⟩; have HN := hidden hN; have HO := hidden hO; have K2 := hidden (K1.out.trans k1); clear hN hO k1))
  have nl : N ≤ 4096 := by rw [HN.out]; exact hRl
  go_loopw [17] (fun x wr => ∃ i : Nat, i ≤ N ∧ x = .int .i64 i ∧ (∀ j (hj : j < R.length), j < i → (R[j].2 : Int) < (m : Int)) ∧ Same w1 wr) (fun x _ => N - (intOf x).toNat)
  case atStart => exact ⟨0, Nat.zero_le _, rfl, fun j _ h => by omega, Kept.refl _ _⟩
  case round =>
    obtain ⟨i, hi, rfl, hlow, hK⟩ := hrel
    have HLo := hidden hlow
    have HK := hidden hK
    clear hlow hK
    have w4 : IntKind.i64.wrap ((i : Int) + 1) = (i : Int) + 1 := by rw [IntKind.wrap_i64]; omega
    have y4 : (0 : Int) ≤ (i : Int) := Int.natCast_nonneg _
    by_cases hlt : i < N
    · have y5 : (i : Int) < (N : Int) := by omega
      have hiR : i < R.length := by rw [← HN.out]; exact hlt
      have O1 := own_kept HO.out HK.out (fun _ _ h => h)
      obtain ⟨g, rfl, hg⟩ := own_formR O1 (by omega)
      obtain ⟨x, hx⟩ : ∃ x, R[i] = x := ⟨_, rfl⟩
      obtain ⟨pa, pm⟩ := x
      have hmem : (pa, pm) ∈ R := by rw [← hx]; exact List.getElem_mem hiR
      have hen := (HEn.out _ hmem).1
      obtain ⟨lo, hlo⟩ : ∃ lo, lo = first + pa := ⟨_, rfl⟩
      have hf := flA_at first R i hiR
      rw [hx] at hf
      have cA : wr.cell? ⟨g, i * 2, none⟩ = some (.int .i64 (lo : Int)) := own_cellN O1 _ (by rw [hf.1, hlo]; simp)
      have cB : wr.cell? ⟨g, i * 2 + 1, none⟩ = some (.int .i64 (pm : Int)) := own_cellN O1 _ hf.2
      have HX := hidden hx
      have HLO := hidden hlo
      have hpa : pa + pm ≤ count := hen
      clear O1 hf hx hlo hen
      by_cases hge : m ≤ pm
      · have y6 : (m : Int) ≤ (pm : Int) := by omega
        have hfit : fitR R (m : Int) = some (pa, pm) := by rw [← HX.out]; exact fit_at hiR HLo.out (by rw [HX.out]; exact y6)
        have hno : allNo (fun i => u i || v i) pa m := fun j h3 h4 => HFr.out _ hmem j h3 (by show j < pa + pm; omega)
        have HSe := hidden (fun W (k : Same w W) => rf_set q r first count pa m (wh u v) res 1 W (HH.out W k).gen (by omega) l3.2.1)
        have HE := hidden (wh_set (zp := zp) (count := count) hno)
        rw [← HLO.out] at HSe
        have HFi := hidden hfit
        clear hfit hno
        go_wp2_with (go_at_call 55; refine (HSe.out _ ((K2.out.trans HK.out).trans (same_alloc _ _))).mono ?_; rintro e w3 ⟨rfl, r3, k3⟩; have R3 := hidden r3; have b3 := blk_kept k3 (by have := K2.out.size; have := HK.out.size; omega) (blk_new wr (.cells #[.int .i64 (lo : Int), .int .i64 (pm : Int)] 30)); have d0 : w3.cell? ⟨wr.heap.size, 0, none⟩ = some (.int .i64 (lo : Int)) := blk_cell b3; have K3 := hidden k3; clear r3 k3 b3)
        go_returns
        refine ⟨fun a pm' hfi => ?_, fun hfi => by rw [HFi.out] at hfi; cases hfi⟩
        rw [HFi.out] at hfi
        cases hfi
        refine ⟨by rw [HLO.out]; rfl, RfAt.of R3.out.box (by rw [← HE.out]; exact R3.out.row), ?_⟩
        exact (((K2.out.trans HK.out).trans (same_alloc _ _)).mono (fun _ _ h => h.elim)).trans K3.out
      · have y6 : ¬ (m : Int) ≤ (pm : Int) := by omega
        go_wp2
        go_roundw
        case rel =>
          refine ⟨i + 1, by omega, by go_num, fun j hj hji => ?_, HK.out.trans (same_alloc _ _)⟩
          by_cases e : j = i
          · subst e
            rw [HX.out]
            show (pm : Int) < m
            omega
          · exact HLo.out j hj (by omega)
        case measure => simp [intOf]; omega
    · have he : i = N := by omega
      subst he
      have y5 : ¬ (i : Int) < (i : Int) := by omega
      have hfit : fitR R (m : Int) = none := fit_end (fun j hj => HLo.out j hj (by rw [HN.out]; exact hj))
      have HFi := hidden hfit
      clear hfit
      go_wp2
      go_returns
      exact ⟨fun a pm hfi => (by rw [HFi.out] at hfi; cases hfi), fun _ => ⟨rfl, K2.out.trans HK.out⟩⟩
end Go.Proofs.YtbmbdidmbdanmaaDoor
