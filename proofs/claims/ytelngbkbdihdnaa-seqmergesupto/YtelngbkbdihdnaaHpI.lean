/- seq's heap of int, walked. (Made by mkq.py of hp.src.) -/
import Derived.Test.YtelngbkbdihdnaaQ1
namespace Go.Proofs.Ytelngbkbdihdnaa
open Go.RowKit
set_option linter.unusedVariables false
abbrev kI (x : Int) : Value := .int .i64 x
theorem kI_one (x : Int) : (kI x).oneCell' = true := rfl
theorem less_I (a b : Int) (w : World) : Calls Try.prog 43 #[kI a, kI b] w fun e w' => e = .returned (.bool (ltI a b)) ∧ w' = w := (less_int a b w).mono fun e w' h => ⟨h.1, h.2.symm⟩
abbrev lessV_I : Value := .func (.func 43) #[] #[]
set_option maxHeartbeats 4000000 in
set_option maxRecDepth 100000 in
theorem climb_I (b cap n : Nat) (L : List Int) (w : World) (hL : L.length = n) (h1 : 1 ≤ n) (hn : n ≤ 140737488355328) (hb : w.ownsRow 0 3 1 (.slice (some ⟨b, 0, none⟩) n cap) n (L.map kI)) (hU : Up ltI L (n - 1)) :
    Calls Try.prog 44 #[.slice (some ⟨b, 0, none⟩) n cap, lessV_I] w fun e w' => e = .returned (.tuple #[]) ∧ ∃ L', L'.Perm L ∧ IsHeap ltI L' ∧ w'.ownsRow 0 3 1 (.slice (some ⟨b, 0, none⟩) n cap) n (L'.map kI) ∧ Kept (fun k => k = b) w w' := by
  have HU := hidden hU
  have HB := hidden hb
  have HL := hidden hL
  clear hU hb hL
  go_enter Try.func44, Try.ntmps44
  go_wp2
  go_loopw [4] (fun iv wr => ∃ (i : Nat) (L' : List Int), i < n ∧ iv = .int .i64 i ∧ L'.length = n ∧ L'.Perm L ∧ Up ltI L' i ∧ wr.ownsRow 0 3 1 (.slice (some ⟨b, 0, none⟩) n cap) n (L'.map kI) ∧ Kept (fun k => k = b) w wr) (fun iv wr => (intOf iv).toNat)
  case atStart => exact ⟨n - 1, L, by omega, by first | rfl | (congr 1; omega), HL.out, List.Perm.refl _, HU.out, HB.out, Kept.refl _ _⟩
  case round =>
    obtain ⟨i, L', hi, rfl, hl, hP, hU, hb, hK⟩ := hrel
    have HP := hidden hP
    have HUi := hidden hU
    have HBi := hidden hb
    have HK := hidden hK
    have HLi := hidden hl
    by_cases h0 : 0 < i
    · obtain ⟨p, hp⟩ : ∃ p : Nat, p = (i - 1) / 2 := ⟨_, rfl⟩
      have hpi : ((i : Int) - 1) / 2 = (p : Int) := by omega
      have hpl : p < L'.length := by omega
      have hil : i < L'.length := by omega
      have c1 := (own_cell hb (i := i) (kI L'[i]) (by rw [List.getElem?_map, List.getElem?_eq_getElem hil]; rfl))
      have c2 := (own_cell hb (i := p) (kI L'[p]) (by rw [List.getElem?_map, List.getElem?_eq_getElem hpl]; rfl))
      obtain ⟨x, hx⟩ : ∃ x, L'[i] = x := ⟨_, rfl⟩
      obtain ⟨y, hy⟩ : ∃ y, L'[p] = y := ⟨_, rfl⟩
      rw [hx] at c1
      rw [hy] at c2
      have HX := hidden hx
      have HY := hidden hy
      have HPP := hidden hp
      have q0 : (0 : Int) < (i : Int) := by omega
      have q1 : (p : Int) < (n : Int) := by omega
      have q2 : (i : Int) < (n : Int) := by omega
      have q3 : (0 : Int) ≤ (p : Int) := Int.natCast_nonneg _
      clear hP hU hb hK hl hx hy hp
      obtain ⟨c1, c1f⟩ := c1
      obtain ⟨c2, c2f⟩ := c2
      cases hlt : ltI x y
      · have hle := hidden (fun w => less_I x y w)
        rw [hlt] at hle
        go_wp2
        simp only [hpi]
        go_quiet ((go_at_call 43; exact Calls.quiet_of_same (hle.out _)))
        go_wp2
        go_returns
        exact ⟨rfl, L', HP.out, up_done HUi.out (Or.inr ⟨hil, h0, by simp only [← HPP.out, HX.out, HY.out]; exact hlt⟩), own_kept HBi.out ((Kept.refl (fun _ => False) wr).drewN _) (fun _ _ h => h), HK.out.drewN _⟩
      · have hle := hidden (fun w => less_I x y w)
        rw [hlt] at hle
        go_wp2
        simp only [hpi]
        go_quiet ((go_at_call 43; exact Calls.quiet_of_same (hle.out _)))
        go_wp2
        go_region
        go_wp2
        go_roundw
        case rel =>
          refine ⟨p, swp L' i p hil hpl, by omega, by first | rfl | (rw [hpi]), by rw [swp_len]; exact HLi.out, (swp_perm _ _ _ _ _).trans HP.out, up_swap ordI HUi.out hil h0 HPP.out (by rw [HX.out, HY.out]; exact hlt), ?_, ?_⟩
          · have z := own_set (i := p) (own_set (i := i) (own_kept HBi.out (((Kept.refl (fun _ => False) wr).drewN nq).drew) (fun _ _ h => h)) hi (kI y)) (by omega) (kI x)
            have e : (swp L' i p hil hpl).map kI = ((L'.map kI).set i (kI y)).set p (kI x) := by rw [swp, List.map_set, List.map_set, HX.out, HY.out]
            rw [e]
            exact z
          · exact (((HK.out.drewN nq).drew).setCell (p := ⟨b, i, none⟩) rfl _).setCell (p := ⟨b, p, none⟩) rfl _
        case measure => simp [intOf]; omega
    · obtain rfl : i = 0 := by omega
      clear hP hU hb hK hl
      go_wp2
      go_returns
      exact ⟨rfl, L', HP.out, up_done HUi.out (Or.inl rfl), HBi.out, HK.out⟩
set_option maxHeartbeats 4000000 in
set_option maxRecDepth 100000 in
theorem sink_I (b cap n : Nat) (L : List Int) (w : World) (hL : L.length = n) (hn : n ≤ 140737488355328) (hb : w.ownsRow 0 3 1 (.slice (some ⟨b, 0, none⟩) n cap) n (L.map kI)) (hD : Down ltI L 0) :
    Calls Try.prog 75 #[.slice (some ⟨b, 0, none⟩) n cap, lessV_I] w fun e w' => e = .returned (.tuple #[]) ∧ ∃ L', L'.Perm L ∧ IsHeap ltI L' ∧ w'.ownsRow 0 3 1 (.slice (some ⟨b, 0, none⟩) n cap) n (L'.map kI) ∧ Kept (fun k => k = b) w w' := by
  have HD := hidden hD
  have HB := hidden hb
  have HL := hidden hL
  clear hD hb hL
  go_enter Try.func75, Try.ntmps75
  go_wp2
  go_loopw [4] (fun iv wr => ∃ (i : Nat) (L' : List Int), (i = 0 ∨ i < n) ∧ iv = .int .i64 i ∧ L'.length = n ∧ L'.Perm L ∧ Down ltI L' i ∧ wr.ownsRow 0 3 1 (.slice (some ⟨b, 0, none⟩) n cap) n (L'.map kI) ∧ Kept (fun k => k = b) w wr) (fun iv wr => n - (intOf iv).toNat)
  case atStart => exact ⟨0, L, Or.inl rfl, rfl, HL.out, List.Perm.refl _, HD.out, HB.out, Kept.refl _ _⟩
  case round =>
    obtain ⟨i, L', hi, rfl, hl, hP, hD, hb, hK⟩ := hrel
    have HP := hidden hP
    have HDi := hidden hD
    have HBi := hidden hb
    have HK := hidden hK
    have HLi := hidden hl
    have hi1 : i ≤ 140737488355328 := by omega
    obtain ⟨c, hc⟩ : ∃ c : Nat, c = 2 * i + 1 := ⟨_, rfl⟩
    have hci : 2 * (i : Int) + 1 = (c : Int) := by omega
    have HC := hidden hc
    by_cases h0 : c < n
    · have hil : i < L'.length := by omega
      have hcl : c < L'.length := by omega
      obtain ⟨c1, c1f⟩ := (own_cell hb (i := i) (kI L'[i]) (by rw [List.getElem?_map, List.getElem?_eq_getElem hil]; rfl))
      obtain ⟨c2, c2f⟩ := (own_cell hb (i := c) (kI L'[c]) (by rw [List.getElem?_map, List.getElem?_eq_getElem hcl]; rfl))
      obtain ⟨x, hx⟩ : ∃ x, L'[i] = x := ⟨_, rfl⟩
      obtain ⟨y, hy⟩ : ∃ y, L'[c] = y := ⟨_, rfl⟩
      rw [hx] at c1
      rw [hy] at c2
      have HX := hidden hx
      have HY := hidden hy
      have q0 : (c : Int) < (n : Int) := by omega
      have q1 : (0 : Int) ≤ (c : Int) := Int.natCast_nonneg _
      have q2 : (0 : Int) ≤ (i : Int) := Int.natCast_nonneg _
      have q3 : (i : Int) < (n : Int) := by omega
      have q4 : decide ((c : Int) < (n : Int)) = true := by simpa using q0
      clear hP hD hK hl hx hy hc
      by_cases h2 : c + 1 < n
      · have hdl : c + 1 < L'.length := by have := HLi.out; omega
        obtain ⟨c3, c3f⟩ := (own_cell hb (i := c + 1) (kI L'[c + 1]) (by rw [List.getElem?_map, List.getElem?_eq_getElem hdl]; rfl))
        obtain ⟨z, hz⟩ : ∃ z, L'[c + 1] = z := ⟨_, rfl⟩
        rw [hz] at c3
        have HZ := hidden hz
        have q5 : ((c : Int) + 1 < (n : Int)) := by omega
        have q6 : decide ((c : Int) + 1 < (n : Int)) = true := by simpa using q5
        have hl2 := hidden (fun w => less_I z y w)
        clear hb hz
        cases hzy : ltI z y
        · rw [hzy] at hl2
          have HMIN : Hid (∀ j (hj : j < L'.length), 0 < j → (j - 1) / 2 = i → ltI L'[j] y = false) := fun j hj j0 hji => by
            have := HC.out
            have h5 : j = c ∨ j = c + 1 := by omega
            rcases h5 with rfl | rfl
            · rw [HY.out]; exact ordI.rf _
            · rw [HZ.out]; exact hzy
          cases hlt : ltI y x
          · have hle := hidden (fun w => less_I y x w)
            rw [hlt] at hle
            go_wp2
            go_quiet ((go_at_call 43; exact Calls.quiet_of_same (hl2.out _)))
            go_wp2
            obtain ⟨w9, hw9, hk9⟩ : ∃ W, W = wr.drewN nq ∧ Same wr W := ⟨_, rfl, (Kept.refl _ wr).drewN nq⟩
            rw [← hw9]
            have HB9 := hidden (own_kept HBi.out hk9 (fun _ _ h => h))
            have HK9 := hidden (HK.out.trans' hk9 (fun _ _ h => h.elim))
            have e1 := Kept.cell hk9 (fun h => h) c1
            have e2 := Kept.cell hk9 (fun h => h) c2
            have e3 := Kept.cell hk9 (fun h => h) c3
            have e1f : ∀ j, w9.frozen? ⟨b, j, none⟩ = false := fun j => own_free HB9.out
            clear hw9 hk9 c1 c2 c1f c2f c3 c3f
            go_quiet ((go_at_call 43; exact Calls.quiet_of_same (hle.out _)))
            go_wp2
            go_returns
            refine ⟨rfl, L', HP.out, down_done HDi.out (fun j hj j0 hji => ?_), own_kept HB9.out ((Kept.refl (fun _ => False) w9).drewN _) (fun _ _ h => h), HK9.out.drewN _⟩
            rw [HX.out]
            exact ordI.tr _ _ _ hlt (HMIN.out j hj j0 hji)
          · have hle := hidden (fun w => less_I y x w)
            rw [hlt] at hle
            go_wp2
            go_quiet ((go_at_call 43; exact Calls.quiet_of_same (hl2.out _)))
            go_wp2
            obtain ⟨w9, hw9, hk9⟩ : ∃ W, W = wr.drewN nq ∧ Same wr W := ⟨_, rfl, (Kept.refl _ wr).drewN nq⟩
            rw [← hw9]
            have HB9 := hidden (own_kept HBi.out hk9 (fun _ _ h => h))
            have HK9 := hidden (HK.out.trans' hk9 (fun _ _ h => h.elim))
            have e1 := Kept.cell hk9 (fun h => h) c1
            have e2 := Kept.cell hk9 (fun h => h) c2
            have e3 := Kept.cell hk9 (fun h => h) c3
            have e1f : ∀ j, w9.frozen? ⟨b, j, none⟩ = false := fun j => own_free HB9.out
            clear hw9 hk9 c1 c2 c1f c2f c3 c3f
            go_quiet ((go_at_call 43; exact Calls.quiet_of_same (hle.out _)))
            go_wp2
            go_region
            go_wp2
            go_roundw
            case rel =>
              refine ⟨c, swp L' i (c) hil (by omega), Or.inr (by omega), by first | rfl | go_num, by rw [swp_len]; exact HLi.out, (swp_perm _ _ _ _ _).trans HP.out, down_swap ordI HDi.out (by omega) (by have := HC.out; omega) (by omega) (fun j hj j0 hji => by rw [HY.out]; exact HMIN.out j hj j0 hji) (by rw [HY.out, HX.out]; exact hlt), ?_, ?_⟩
              · have e : (swp L' i (c) hil (by omega)).map kI = ((L'.map kI).set i (kI y)).set (c) (kI x) := by rw [swp, List.map_set, List.map_set, HX.out, HY.out]
                rw [e]
                exact own_set (i := c) (own_set (i := i) (own_kept HB9.out (((Kept.refl (fun _ => False) w9).drewN _).drew) (fun _ _ h => h)) (by omega) (kI y)) (by omega) (kI x)
              · exact (((HK9.out.drewN _).drew).setCell (p := ⟨b, i, none⟩) rfl _).setCell (p := ⟨b, c, none⟩) rfl _
            case measure => simp [intOf]; have := HC.out; omega
        · rw [hzy] at hl2
          have HMIN : Hid (∀ j (hj : j < L'.length), 0 < j → (j - 1) / 2 = i → ltI L'[j] z = false) := fun j hj j0 hji => by
            have := HC.out
            have h5 : j = c ∨ j = c + 1 := by omega
            rcases h5 with rfl | rfl
            · rw [HY.out]; exact ordI.as _ _ hzy
            · rw [HZ.out]; exact ordI.rf _
          cases hlt : ltI z x
          · have hle := hidden (fun w => less_I z x w)
            rw [hlt] at hle
            go_wp2
            go_quiet ((go_at_call 43; exact Calls.quiet_of_same (hl2.out _)))
            go_wp2
            obtain ⟨w9, hw9, hk9⟩ : ∃ W, W = wr.drewN nq ∧ Same wr W := ⟨_, rfl, (Kept.refl _ wr).drewN nq⟩
            rw [← hw9]
            have HB9 := hidden (own_kept HBi.out hk9 (fun _ _ h => h))
            have HK9 := hidden (HK.out.trans' hk9 (fun _ _ h => h.elim))
            have e1 := Kept.cell hk9 (fun h => h) c1
            have e2 := Kept.cell hk9 (fun h => h) c2
            have e3 := Kept.cell hk9 (fun h => h) c3
            have e1f : ∀ j, w9.frozen? ⟨b, j, none⟩ = false := fun j => own_free HB9.out
            clear hw9 hk9 c1 c2 c1f c2f c3 c3f
            go_quiet ((go_at_call 43; exact Calls.quiet_of_same (hle.out _)))
            go_wp2
            go_returns
            refine ⟨rfl, L', HP.out, down_done HDi.out (fun j hj j0 hji => ?_), own_kept HB9.out ((Kept.refl (fun _ => False) w9).drewN _) (fun _ _ h => h), HK9.out.drewN _⟩
            rw [HX.out]
            exact ordI.tr _ _ _ hlt (HMIN.out j hj j0 hji)
          · have hle := hidden (fun w => less_I z x w)
            rw [hlt] at hle
            go_wp2
            go_quiet ((go_at_call 43; exact Calls.quiet_of_same (hl2.out _)))
            go_wp2
            obtain ⟨w9, hw9, hk9⟩ : ∃ W, W = wr.drewN nq ∧ Same wr W := ⟨_, rfl, (Kept.refl _ wr).drewN nq⟩
            rw [← hw9]
            have HB9 := hidden (own_kept HBi.out hk9 (fun _ _ h => h))
            have HK9 := hidden (HK.out.trans' hk9 (fun _ _ h => h.elim))
            have e1 := Kept.cell hk9 (fun h => h) c1
            have e2 := Kept.cell hk9 (fun h => h) c2
            have e3 := Kept.cell hk9 (fun h => h) c3
            have e1f : ∀ j, w9.frozen? ⟨b, j, none⟩ = false := fun j => own_free HB9.out
            clear hw9 hk9 c1 c2 c1f c2f c3 c3f
            go_quiet ((go_at_call 43; exact Calls.quiet_of_same (hle.out _)))
            go_wp2
            go_region
            go_wp2
            go_roundw
            case rel =>
              refine ⟨c + 1, swp L' i (c + 1) hil (by omega), Or.inr (by omega), by first | rfl | go_num, by rw [swp_len]; exact HLi.out, (swp_perm _ _ _ _ _).trans HP.out, down_swap ordI HDi.out (by omega) (by have := HC.out; omega) (by omega) (fun j hj j0 hji => by rw [HZ.out]; exact HMIN.out j hj j0 hji) (by rw [HZ.out, HX.out]; exact hlt), ?_, ?_⟩
              · have e : (swp L' i (c + 1) hil (by omega)).map kI = ((L'.map kI).set i (kI z)).set (c + 1) (kI x) := by rw [swp, List.map_set, List.map_set, HX.out, HZ.out]
                rw [e]
                exact own_set (i := c + 1) (own_set (i := i) (own_kept HB9.out (((Kept.refl (fun _ => False) w9).drewN _).drew) (fun _ _ h => h)) (by omega) (kI z)) (by omega) (kI x)
              · exact (((HK9.out.drewN _).drew).setCell (p := ⟨b, i, none⟩) rfl _).setCell (p := ⟨b, c + 1, none⟩) rfl _
            case measure => simp [intOf]; have := HC.out; omega
      · have q5 : ¬ ((c : Int) + 1 < (n : Int)) := by omega
        have q6 : decide ((c : Int) + 1 < (n : Int)) = false := by simpa using q5
        clear hb
        have HMIN : Hid (∀ j (hj : j < L'.length), 0 < j → (j - 1) / 2 = i → ltI L'[j] y = false) := fun j hj j0 hji => by
          have := HC.out
          have := HLi.out
          obtain rfl : j = c := by omega
          rw [HY.out]; exact ordI.rf _
        cases hlt : ltI y x
        · have hle := hidden (fun w => less_I y x w)
          rw [hlt] at hle
          go_wp2
          go_quiet (fail)
          go_wp2
          obtain ⟨w9, hw9, hk9⟩ : ∃ W, W = wr.drewN nq ∧ Same wr W := ⟨_, rfl, (Kept.refl _ wr).drewN nq⟩
          rw [← hw9]
          have HB9 := hidden (own_kept HBi.out hk9 (fun _ _ h => h))
          have HK9 := hidden (HK.out.trans' hk9 (fun _ _ h => h.elim))
          have e1 := Kept.cell hk9 (fun h => h) c1
          have e2 := Kept.cell hk9 (fun h => h) c2
          skip
          have e1f : ∀ j, w9.frozen? ⟨b, j, none⟩ = false := fun j => own_free HB9.out
          clear hw9 hk9 c1 c2 c1f c2f
          go_quiet ((go_at_call 43; exact Calls.quiet_of_same (hle.out _)))
          go_wp2
          go_returns
          refine ⟨rfl, L', HP.out, down_done HDi.out (fun j hj j0 hji => ?_), own_kept HB9.out ((Kept.refl (fun _ => False) w9).drewN _) (fun _ _ h => h), HK9.out.drewN _⟩
          rw [HX.out]
          exact ordI.tr _ _ _ hlt (HMIN.out j hj j0 hji)
        · have hle := hidden (fun w => less_I y x w)
          rw [hlt] at hle
          go_wp2
          go_quiet (fail)
          go_wp2
          obtain ⟨w9, hw9, hk9⟩ : ∃ W, W = wr.drewN nq ∧ Same wr W := ⟨_, rfl, (Kept.refl _ wr).drewN nq⟩
          rw [← hw9]
          have HB9 := hidden (own_kept HBi.out hk9 (fun _ _ h => h))
          have HK9 := hidden (HK.out.trans' hk9 (fun _ _ h => h.elim))
          have e1 := Kept.cell hk9 (fun h => h) c1
          have e2 := Kept.cell hk9 (fun h => h) c2
          skip
          have e1f : ∀ j, w9.frozen? ⟨b, j, none⟩ = false := fun j => own_free HB9.out
          clear hw9 hk9 c1 c2 c1f c2f
          go_quiet ((go_at_call 43; exact Calls.quiet_of_same (hle.out _)))
          go_wp2
          go_region
          go_wp2
          go_roundw
          case rel =>
            refine ⟨c, swp L' i (c) hil (by omega), Or.inr (by omega), by first | rfl | go_num, by rw [swp_len]; exact HLi.out, (swp_perm _ _ _ _ _).trans HP.out, down_swap ordI HDi.out (by omega) (by have := HC.out; omega) (by omega) (fun j hj j0 hji => by rw [HY.out]; exact HMIN.out j hj j0 hji) (by rw [HY.out, HX.out]; exact hlt), ?_, ?_⟩
            · have e : (swp L' i (c) hil (by omega)).map kI = ((L'.map kI).set i (kI y)).set (c) (kI x) := by rw [swp, List.map_set, List.map_set, HX.out, HY.out]
              rw [e]
              exact own_set (i := c) (own_set (i := i) (own_kept HB9.out (((Kept.refl (fun _ => False) w9).drewN _).drew) (fun _ _ h => h)) (by omega) (kI y)) (by omega) (kI x)
            · exact (((HK9.out.drewN _).drew).setCell (p := ⟨b, i, none⟩) rfl _).setCell (p := ⟨b, c, none⟩) rfl _
          case measure => simp [intOf]; have := HC.out; omega
    · have q0 : ¬ (c : Int) < (n : Int) := by omega
      clear hP hD hK hl hc hb
      go_wp2
      go_returns
      exact ⟨rfl, L', HP.out, down_done HDi.out (fun j hj j0 hji => by have := HC.out; have := HLi.out; omega), HBi.out, HK.out⟩
end Go.Proofs.Ytelngbkbdihdnaa
