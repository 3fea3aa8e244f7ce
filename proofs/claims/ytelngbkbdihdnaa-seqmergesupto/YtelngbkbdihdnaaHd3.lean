/- seq's heap of heads: sink. (Made by mkh.py.) -/
import Derived.Test.YtelngbkbdihdnaaHd2
namespace Go.Proofs.Ytelngbkbdihdnaa
open Go.RowKit
set_option linter.unusedVariables false
set_option maxHeartbeats 2000000 in
set_option maxRecDepth 100000 in
theorem sink_H (b cap n : Nat) (L : List Hd) (w : World) (hL : L.length = n) (hn : n ≤ 1073741824) (hb : w.ownsRow 0 103 2 (.slice (some ⟨b, 0, none⟩) n cap) n (flH L)) (hA : ∀ x ∈ L, HdOk b w x) (hD : Down ltH L 0) :
    Calls Try.prog 65 #[.slice (some ⟨b, 0, none⟩) n cap, befV] w fun e w' => e = .returned (.tuple #[]) ∧ ∃ L', L'.Perm L ∧ IsHeap ltH L' ∧ w'.ownsRow 0 103 2 (.slice (some ⟨b, 0, none⟩) n cap) n (flH L') ∧ Kept (fun k => k = b) w w' := by
  have HD := hidden hD
  have HB := hidden hb
  have HL := hidden hL
  have HA : Hid (∀ W, Kept (fun k => k = b) w W → ∀ x ∈ L, HdOk b W x) := fun W kk x hx => (hA x hx).kept kk
  have HBE : Hid (∀ x ∈ L, ∀ y ∈ L, ∀ W, Kept (fun k => k = b) w W → Calls Try.prog 63 #[kH x, kH y] W fun e w' => e = .returned (.bool (ltH x y)) ∧ Same W w') := fun x hxm y hym W kk => before_any x y W (HA.out W kk x hxm).at_ (HA.out W kk y hym).at_ (HA.out W kk x hxm).pl (HA.out W kk y hym).pl
  clear hD hb hL hA
  go_enter Try.func65, Try.ntmps65
  go_wp2
  go_loopw [4] (fun iv wr => ∃ (i : Nat) (L' : List Hd), (i = 0 ∨ i < n) ∧ iv = .int .i64 i ∧ L'.length = n ∧ L'.Perm L ∧ Down ltH L' i ∧ wr.ownsRow 0 103 2 (.slice (some ⟨b, 0, none⟩) n cap) n (flH L') ∧ Kept (fun k => k = b) w wr) (fun iv wr => n - (intOf iv).toNat)
  case atStart => exact ⟨0, L, Or.inl rfl, rfl, HL.out, List.Perm.refl _, HD.out, HB.out, Kept.refl _ _⟩
  case round =>
    obtain ⟨i, L', hi, rfl, hl, hP, hD, hb, hK⟩ := hrel
    have HP := hidden hP
    have HDi := hidden hD
    have HBi := hidden hb
    have HK := hidden hK
    have HLi := hidden hl
    have hi1 : i ≤ 1073741824 := by omega
    obtain ⟨c, hc⟩ : ∃ c : Nat, c = 2 * i + 1 := ⟨_, rfl⟩
    have hci : 2 * (i : Int) + 1 = (c : Int) := by omega
    have HC := hidden hc
    by_cases h0 : c < n
    · have hil : i < L'.length := by omega
      have hcl : c < L'.length := by omega
      obtain ⟨ax0, ax1, af⟩ := hown_cell hb hil
      obtain ⟨ay0, ay1, -⟩ := hown_cell hb hcl
      obtain ⟨x, hx⟩ : ∃ x, L'[i] = x := ⟨_, rfl⟩
      obtain ⟨y, hy⟩ : ∃ y, L'[c] = y := ⟨_, rfl⟩
      rw [hx] at ax0 ax1
      rw [hy] at ay0 ay1
      have hxm : x ∈ L := hP.mem_iff.1 (hx ▸ List.getElem_mem hil)
      have hym : y ∈ L := hP.mem_iff.1 (hy ▸ List.getElem_mem hcl)
      obtain ⟨b1, o1, n1, z1, hv1, -, -⟩ := (HA.out w (Kept.refl _ _) x hxm).at_
      obtain ⟨b2, o2, n2, z2, hv2, -, -⟩ := (HA.out w (Kept.refl _ _) y hym).at_
      have HX := hidden hx
      have HY := hidden hy
      have HXM := hidden hxm
      have HYM := hidden hym
      have q0 : (c : Int) < (n : Int) := by omega
      have q1 : (0 : Int) ≤ (c : Int) := Int.natCast_nonneg _
      have q2 : (0 : Int) ≤ (i : Int) := Int.natCast_nonneg _
      have q3 : (i : Int) < (n : Int) := by omega
      have q4 : decide ((c : Int) < (n : Int)) = true := by simpa using q0
      clear hD hK hl hx hy hc hxm hym
      obtain ⟨xv, xk, xp⟩ := x
      obtain ⟨yv, yk, yp⟩ := y
      dsimp only at ax0 ax1 ay0 ay1 hv1 hv2
      subst hv1 hv2
      by_cases h2 : c + 1 < n
      · obtain ⟨d, hd⟩ : ∃ d : Nat, d = c + 1 := ⟨_, rfl⟩
        have hdi : (c : Int) + 1 = (d : Int) := by omega
        have HDD := hidden hd
        have hdl : d < L'.length := by have := HLi.out; omega
        obtain ⟨az0, az1, -⟩ := hown_cell hb hdl
        obtain ⟨z, hz⟩ : ∃ z, L'[d] = z := ⟨_, rfl⟩
        rw [hz] at az0 az1
        have hzm : z ∈ L := hP.mem_iff.1 (hz ▸ List.getElem_mem hdl)
        obtain ⟨b3, o3, n3, z3, hv3, -, -⟩ := (HA.out w (Kept.refl _ _) z hzm).at_
        have HZ := hidden hz
        have HZM := hidden hzm
        have q5 : (d : Int) < (n : Int) := by omega
        have q6 : decide ((d : Int) < (n : Int)) = true := by simpa using q5
        have q7 : (0 : Int) ≤ (d : Int) := Int.natCast_nonneg _
        have hwd : IntKind.i64.wrap (d : Int) = (d : Int) := by rw [IntKind.wrap_i64]; omega
        clear hb hz hzm hP hd h2
        obtain ⟨zv, zk, zp⟩ := z
        dsimp only at az0 az1 hv3
        subst hv3
        have hl2 := hidden (HBE.out _ HZM.out _ HYM.out)
        dsimp only [kH] at hl2
        generalize hzy : ltH ⟨.slice (some ⟨b3, o3, none⟩) n3 z3, zk, zp⟩ ⟨.slice (some ⟨b2, o2, none⟩) n2 z2, yk, yp⟩ = bo at hl2
        have HZY := hidden hzy
        clear hzy
        cases bo
        · have HMIN : Hid (∀ j (hj : j < L'.length), 0 < j → (j - 1) / 2 = i → ltH L'[j] ⟨.slice (some ⟨b2, o2, none⟩) n2 z2, yk, yp⟩ = false) := fun j hj j0 hji => by
            have := HC.out
            have := HDD.out
            have h5 : j = c ∨ j = d := by omega
            rcases h5 with rfl | rfl
            · rw [HY.out]; exact ordH.rf _
            · rw [HZ.out]; exact HZY.out
          have hle := hidden (HBE.out _ HYM.out _ HXM.out)
          dsimp only [kH] at hle
          generalize hlt : ltH ⟨.slice (some ⟨b2, o2, none⟩) n2 z2, yk, yp⟩ ⟨.slice (some ⟨b1, o1, none⟩) n1 z1, xk, xp⟩ = bp at hle
          have HLT := hidden hlt
          clear hlt
          cases bp
          · go_wp2
            go_region_held3 (fun w' => w'.cell? ⟨b, d * 2, none⟩ = some (.slice (some ⟨b3, o3, none⟩) n3 z3) ∧ w'.cell? ⟨b, d * 2 + 1, none⟩ = some (.int .i64 (zp : Int)) ∧ w'.cell? ⟨b, c * 2, none⟩ = some (.slice (some ⟨b2, o2, none⟩) n2 z2) ∧ w'.cell? ⟨b, c * 2 + 1, none⟩ = some (.int .i64 (yp : Int))) (go_keep) (first
              | (go_at_call 63; go_must (refine (hl2.out _ (HK.out.drew)).mono ?_; rintro e w9 ⟨rfl, k3⟩; have hk9 : Same wr w9 := ((Kept.refl (fun _ => False) wr).drew).trans k3; have gz0 : w9.cell? ⟨b, d * 2, none⟩ = some (.slice (some ⟨b3, o3, none⟩) n3 z3) := Kept.cell hk9 (fun h => h) az0; have gz1 : w9.cell? ⟨b, d * 2 + 1, none⟩ = some (.int .i64 (zp : Int)) := Kept.cell hk9 (fun h => h) az1; have gy0 : w9.cell? ⟨b, c * 2, none⟩ = some (.slice (some ⟨b2, o2, none⟩) n2 z2) := Kept.cell hk9 (fun h => h) ay0; have gy1 : w9.cell? ⟨b, c * 2 + 1, none⟩ = some (.int .i64 (yp : Int)) := Kept.cell hk9 (fun h => h) ay1; clear k3)))
            go_wp2
            clear gz0 gz1 gy0 gy1
            have HB9 := hidden (own_kept HBi.out hk9 (fun _ _ h => h))
            have HK9 := hidden (HK.out.trans' hk9 (fun _ _ h => h.elim))
            have ex0 : w9.cell? ⟨b, i * 2, none⟩ = some (.slice (some ⟨b1, o1, none⟩) n1 z1) := Kept.cell hk9 (fun h => h) ax0
            have ex1 : w9.cell? ⟨b, i * 2 + 1, none⟩ = some (.int .i64 (xp : Int)) := Kept.cell hk9 (fun h => h) ax1
            have ey0 : w9.cell? ⟨b, c * 2, none⟩ = some (.slice (some ⟨b2, o2, none⟩) n2 z2) := Kept.cell hk9 (fun h => h) ay0
            have ey1 : w9.cell? ⟨b, c * 2 + 1, none⟩ = some (.int .i64 (yp : Int)) := Kept.cell hk9 (fun h => h) ay1
            have ez0 : w9.cell? ⟨b, d * 2, none⟩ = some (.slice (some ⟨b3, o3, none⟩) n3 z3) := Kept.cell hk9 (fun h => h) az0
            have ez1 : w9.cell? ⟨b, d * 2 + 1, none⟩ = some (.int .i64 (zp : Int)) := Kept.cell hk9 (fun h => h) az1
            clear hk9 af ax0 ax1 ay0 ay1 az0 az1
            go_region_held3 (fun w' => w'.cell? ⟨b, c * 2, none⟩ = some (.slice (some ⟨b2, o2, none⟩) n2 z2) ∧ w'.cell? ⟨b, c * 2 + 1, none⟩ = some (.int .i64 (yp : Int)) ∧ w'.cell? ⟨b, i * 2, none⟩ = some (.slice (some ⟨b1, o1, none⟩) n1 z1) ∧ w'.cell? ⟨b, i * 2 + 1, none⟩ = some (.int .i64 (xp : Int))) (go_keep) (first
              | (go_at_call 63; go_must (refine (hle.out _ (HK9.out.drew)).mono ?_; rintro e w3 ⟨rfl, k3⟩; have k4 : Same w9 w3 := ((Kept.refl (fun _ => False) w9).drew).trans k3; have gy0 : w3.cell? ⟨b, c * 2, none⟩ = some (.slice (some ⟨b2, o2, none⟩) n2 z2) := Kept.cell k4 (fun h => h) ey0; have gy1 : w3.cell? ⟨b, c * 2 + 1, none⟩ = some (.int .i64 (yp : Int)) := Kept.cell k4 (fun h => h) ey1; have gx0 : w3.cell? ⟨b, i * 2, none⟩ = some (.slice (some ⟨b1, o1, none⟩) n1 z1) := Kept.cell k4 (fun h => h) ex0; have gx1 : w3.cell? ⟨b, i * 2 + 1, none⟩ = some (.int .i64 (xp : Int)) := Kept.cell k4 (fun h => h) ex1; have K4 := hidden k4; clear k3 k4)))
            go_wp2
            go_returns
            refine ⟨rfl, L', HP.out, down_done HDi.out (fun j hj j0 hji => ?_), own_kept HB9.out K4.out (fun _ _ h => h), HK9.out.trans' K4.out (fun _ _ h => h.elim)⟩
            rw [HX.out]
            exact ordH.tr _ _ _ HLT.out (HMIN.out j hj j0 hji)
          · go_wp2
            go_region_held3 (fun w' => w'.cell? ⟨b, d * 2, none⟩ = some (.slice (some ⟨b3, o3, none⟩) n3 z3) ∧ w'.cell? ⟨b, d * 2 + 1, none⟩ = some (.int .i64 (zp : Int)) ∧ w'.cell? ⟨b, c * 2, none⟩ = some (.slice (some ⟨b2, o2, none⟩) n2 z2) ∧ w'.cell? ⟨b, c * 2 + 1, none⟩ = some (.int .i64 (yp : Int))) (go_keep) (first
              | (go_at_call 63; go_must (refine (hl2.out _ (HK.out.drew)).mono ?_; rintro e w9 ⟨rfl, k3⟩; have hk9 : Same wr w9 := ((Kept.refl (fun _ => False) wr).drew).trans k3; have gz0 : w9.cell? ⟨b, d * 2, none⟩ = some (.slice (some ⟨b3, o3, none⟩) n3 z3) := Kept.cell hk9 (fun h => h) az0; have gz1 : w9.cell? ⟨b, d * 2 + 1, none⟩ = some (.int .i64 (zp : Int)) := Kept.cell hk9 (fun h => h) az1; have gy0 : w9.cell? ⟨b, c * 2, none⟩ = some (.slice (some ⟨b2, o2, none⟩) n2 z2) := Kept.cell hk9 (fun h => h) ay0; have gy1 : w9.cell? ⟨b, c * 2 + 1, none⟩ = some (.int .i64 (yp : Int)) := Kept.cell hk9 (fun h => h) ay1; clear k3)))
            go_wp2
            clear gz0 gz1 gy0 gy1
            have HB9 := hidden (own_kept HBi.out hk9 (fun _ _ h => h))
            have HK9 := hidden (HK.out.trans' hk9 (fun _ _ h => h.elim))
            have ex0 : w9.cell? ⟨b, i * 2, none⟩ = some (.slice (some ⟨b1, o1, none⟩) n1 z1) := Kept.cell hk9 (fun h => h) ax0
            have ex1 : w9.cell? ⟨b, i * 2 + 1, none⟩ = some (.int .i64 (xp : Int)) := Kept.cell hk9 (fun h => h) ax1
            have ey0 : w9.cell? ⟨b, c * 2, none⟩ = some (.slice (some ⟨b2, o2, none⟩) n2 z2) := Kept.cell hk9 (fun h => h) ay0
            have ey1 : w9.cell? ⟨b, c * 2 + 1, none⟩ = some (.int .i64 (yp : Int)) := Kept.cell hk9 (fun h => h) ay1
            have ez0 : w9.cell? ⟨b, d * 2, none⟩ = some (.slice (some ⟨b3, o3, none⟩) n3 z3) := Kept.cell hk9 (fun h => h) az0
            have ez1 : w9.cell? ⟨b, d * 2 + 1, none⟩ = some (.int .i64 (zp : Int)) := Kept.cell hk9 (fun h => h) az1
            clear hk9 af ax0 ax1 ay0 ay1 az0 az1
            go_region_held3 (fun w' => w'.cell? ⟨b, c * 2, none⟩ = some (.slice (some ⟨b2, o2, none⟩) n2 z2) ∧ w'.cell? ⟨b, c * 2 + 1, none⟩ = some (.int .i64 (yp : Int)) ∧ w'.cell? ⟨b, i * 2, none⟩ = some (.slice (some ⟨b1, o1, none⟩) n1 z1) ∧ w'.cell? ⟨b, i * 2 + 1, none⟩ = some (.int .i64 (xp : Int))) (go_keep) (first
              | (go_at_call 63; go_must (refine (hle.out _ (HK9.out.drew)).mono ?_; rintro e w3 ⟨rfl, k3⟩; have k4 : Same w9 w3 := ((Kept.refl (fun _ => False) w9).drew).trans k3; have gy0 : w3.cell? ⟨b, c * 2, none⟩ = some (.slice (some ⟨b2, o2, none⟩) n2 z2) := Kept.cell k4 (fun h => h) ey0; have gy1 : w3.cell? ⟨b, c * 2 + 1, none⟩ = some (.int .i64 (yp : Int)) := Kept.cell k4 (fun h => h) ey1; have gx0 : w3.cell? ⟨b, i * 2, none⟩ = some (.slice (some ⟨b1, o1, none⟩) n1 z1) := Kept.cell k4 (fun h => h) ex0; have gx1 : w3.cell? ⟨b, i * 2 + 1, none⟩ = some (.int .i64 (xp : Int)) := Kept.cell k4 (fun h => h) ex1; have K4 := hidden k4; clear k3 k4)))
            go_wp2
            have HB3 := hidden (own_kept HB9.out K4.out (fun _ _ h => h))
            have HK3 := hidden (HK9.out.trans' K4.out (fun _ _ h => h.elim))
            have e5 : ∀ j, w3.frozen? ⟨b, j, none⟩ = false := fun j => own_free HB3.out
            clear hle ex0 ex1 ey0 ey1 ez0 ez1
            go_region
            go_wp2
            go_roundw
            case rel =>
              refine ⟨c, swp L' i c hil hcl, Or.inr (by omega), by first | rfl | go_num, by rw [swp_len]; exact HLi.out, (swp_perm _ _ _ _ _).trans HP.out, down_swap ordH HDi.out hcl (by have := HC.out; omega) (by have := HC.out; omega) (fun j hj j0 hji => by rw [HY.out]; exact HMIN.out j hj j0 hji) (by rw [HY.out, HX.out]; exact HLT.out), ?_, ?_⟩
              · have z := hown_set (i := c) (hown_set (i := i) (own_kept HB3.out ((Kept.refl (fun _ => False) w3).drew) (fun _ _ h => h)) ⟨.slice (some ⟨b2, o2, none⟩) n2 z2, yk, yp⟩) ⟨.slice (some ⟨b1, o1, none⟩) n1 z1, xk, xp⟩
                have e : swp L' i c hil hcl = (L'.set i ⟨.slice (some ⟨b2, o2, none⟩) n2 z2, yk, yp⟩).set c ⟨.slice (some ⟨b1, o1, none⟩) n1 z1, xk, xp⟩ := by rw [swp, HX.out, HY.out]
                rw [e]
                exact z
              · exact ((((HK3.out.drew).setCell (p := ⟨b, i * 2, none⟩) rfl _).setCell (p := ⟨b, i * 2 + 1, none⟩) rfl _).setCell (p := ⟨b, c * 2, none⟩) rfl _).setCell (p := ⟨b, c * 2 + 1, none⟩) rfl _
            case measure => simp [intOf]; have := HC.out; omega
        · have HMIN : Hid (∀ j (hj : j < L'.length), 0 < j → (j - 1) / 2 = i → ltH L'[j] ⟨.slice (some ⟨b3, o3, none⟩) n3 z3, zk, zp⟩ = false) := fun j hj j0 hji => by
            have := HC.out
            have := HDD.out
            have h5 : j = c ∨ j = d := by omega
            rcases h5 with rfl | rfl
            · rw [HY.out]; exact ordH.as _ _ HZY.out
            · rw [HZ.out]; exact ordH.rf _
          have hle := hidden (HBE.out _ HZM.out _ HXM.out)
          dsimp only [kH] at hle
          generalize hlt : ltH ⟨.slice (some ⟨b3, o3, none⟩) n3 z3, zk, zp⟩ ⟨.slice (some ⟨b1, o1, none⟩) n1 z1, xk, xp⟩ = bp at hle
          have HLT := hidden hlt
          clear hlt
          cases bp
          · go_wp2
            go_region_held3 (fun w' => w'.cell? ⟨b, d * 2, none⟩ = some (.slice (some ⟨b3, o3, none⟩) n3 z3) ∧ w'.cell? ⟨b, d * 2 + 1, none⟩ = some (.int .i64 (zp : Int)) ∧ w'.cell? ⟨b, c * 2, none⟩ = some (.slice (some ⟨b2, o2, none⟩) n2 z2) ∧ w'.cell? ⟨b, c * 2 + 1, none⟩ = some (.int .i64 (yp : Int))) (go_keep) (first
              | (go_at_call 63; go_must (refine (hl2.out _ (HK.out.drew)).mono ?_; rintro e w9 ⟨rfl, k3⟩; have hk9 : Same wr w9 := ((Kept.refl (fun _ => False) wr).drew).trans k3; have gz0 : w9.cell? ⟨b, d * 2, none⟩ = some (.slice (some ⟨b3, o3, none⟩) n3 z3) := Kept.cell hk9 (fun h => h) az0; have gz1 : w9.cell? ⟨b, d * 2 + 1, none⟩ = some (.int .i64 (zp : Int)) := Kept.cell hk9 (fun h => h) az1; have gy0 : w9.cell? ⟨b, c * 2, none⟩ = some (.slice (some ⟨b2, o2, none⟩) n2 z2) := Kept.cell hk9 (fun h => h) ay0; have gy1 : w9.cell? ⟨b, c * 2 + 1, none⟩ = some (.int .i64 (yp : Int)) := Kept.cell hk9 (fun h => h) ay1; clear k3)))
            go_wp2
            clear gz0 gz1 gy0 gy1
            have HB9 := hidden (own_kept HBi.out hk9 (fun _ _ h => h))
            have HK9 := hidden (HK.out.trans' hk9 (fun _ _ h => h.elim))
            have ex0 : w9.cell? ⟨b, i * 2, none⟩ = some (.slice (some ⟨b1, o1, none⟩) n1 z1) := Kept.cell hk9 (fun h => h) ax0
            have ex1 : w9.cell? ⟨b, i * 2 + 1, none⟩ = some (.int .i64 (xp : Int)) := Kept.cell hk9 (fun h => h) ax1
            have ey0 : w9.cell? ⟨b, c * 2, none⟩ = some (.slice (some ⟨b2, o2, none⟩) n2 z2) := Kept.cell hk9 (fun h => h) ay0
            have ey1 : w9.cell? ⟨b, c * 2 + 1, none⟩ = some (.int .i64 (yp : Int)) := Kept.cell hk9 (fun h => h) ay1
            have ez0 : w9.cell? ⟨b, d * 2, none⟩ = some (.slice (some ⟨b3, o3, none⟩) n3 z3) := Kept.cell hk9 (fun h => h) az0
            have ez1 : w9.cell? ⟨b, d * 2 + 1, none⟩ = some (.int .i64 (zp : Int)) := Kept.cell hk9 (fun h => h) az1
            clear hk9 af ax0 ax1 ay0 ay1 az0 az1
            go_region_held3 (fun w' => w'.cell? ⟨b, d * 2, none⟩ = some (.slice (some ⟨b3, o3, none⟩) n3 z3) ∧ w'.cell? ⟨b, d * 2 + 1, none⟩ = some (.int .i64 (zp : Int)) ∧ w'.cell? ⟨b, i * 2, none⟩ = some (.slice (some ⟨b1, o1, none⟩) n1 z1) ∧ w'.cell? ⟨b, i * 2 + 1, none⟩ = some (.int .i64 (xp : Int))) (go_keep) (first
              | (go_at_call 63; go_must (refine (hle.out _ (HK9.out.drew)).mono ?_; rintro e w3 ⟨rfl, k3⟩; have k4 : Same w9 w3 := ((Kept.refl (fun _ => False) w9).drew).trans k3; have gz0 : w3.cell? ⟨b, d * 2, none⟩ = some (.slice (some ⟨b3, o3, none⟩) n3 z3) := Kept.cell k4 (fun h => h) ez0; have gz1 : w3.cell? ⟨b, d * 2 + 1, none⟩ = some (.int .i64 (zp : Int)) := Kept.cell k4 (fun h => h) ez1; have gx0 : w3.cell? ⟨b, i * 2, none⟩ = some (.slice (some ⟨b1, o1, none⟩) n1 z1) := Kept.cell k4 (fun h => h) ex0; have gx1 : w3.cell? ⟨b, i * 2 + 1, none⟩ = some (.int .i64 (xp : Int)) := Kept.cell k4 (fun h => h) ex1; have K4 := hidden k4; clear k3 k4)))
            go_wp2
            go_returns
            refine ⟨rfl, L', HP.out, down_done HDi.out (fun j hj j0 hji => ?_), own_kept HB9.out K4.out (fun _ _ h => h), HK9.out.trans' K4.out (fun _ _ h => h.elim)⟩
            rw [HX.out]
            exact ordH.tr _ _ _ HLT.out (HMIN.out j hj j0 hji)
          · go_wp2
            go_region_held3 (fun w' => w'.cell? ⟨b, d * 2, none⟩ = some (.slice (some ⟨b3, o3, none⟩) n3 z3) ∧ w'.cell? ⟨b, d * 2 + 1, none⟩ = some (.int .i64 (zp : Int)) ∧ w'.cell? ⟨b, c * 2, none⟩ = some (.slice (some ⟨b2, o2, none⟩) n2 z2) ∧ w'.cell? ⟨b, c * 2 + 1, none⟩ = some (.int .i64 (yp : Int))) (go_keep) (first
              | (go_at_call 63; go_must (refine (hl2.out _ (HK.out.drew)).mono ?_; rintro e w9 ⟨rfl, k3⟩; have hk9 : Same wr w9 := ((Kept.refl (fun _ => False) wr).drew).trans k3; have gz0 : w9.cell? ⟨b, d * 2, none⟩ = some (.slice (some ⟨b3, o3, none⟩) n3 z3) := Kept.cell hk9 (fun h => h) az0; have gz1 : w9.cell? ⟨b, d * 2 + 1, none⟩ = some (.int .i64 (zp : Int)) := Kept.cell hk9 (fun h => h) az1; have gy0 : w9.cell? ⟨b, c * 2, none⟩ = some (.slice (some ⟨b2, o2, none⟩) n2 z2) := Kept.cell hk9 (fun h => h) ay0; have gy1 : w9.cell? ⟨b, c * 2 + 1, none⟩ = some (.int .i64 (yp : Int)) := Kept.cell hk9 (fun h => h) ay1; clear k3)))
            go_wp2
            clear gz0 gz1 gy0 gy1
            have HB9 := hidden (own_kept HBi.out hk9 (fun _ _ h => h))
            have HK9 := hidden (HK.out.trans' hk9 (fun _ _ h => h.elim))
            have ex0 : w9.cell? ⟨b, i * 2, none⟩ = some (.slice (some ⟨b1, o1, none⟩) n1 z1) := Kept.cell hk9 (fun h => h) ax0
            have ex1 : w9.cell? ⟨b, i * 2 + 1, none⟩ = some (.int .i64 (xp : Int)) := Kept.cell hk9 (fun h => h) ax1
            have ey0 : w9.cell? ⟨b, c * 2, none⟩ = some (.slice (some ⟨b2, o2, none⟩) n2 z2) := Kept.cell hk9 (fun h => h) ay0
            have ey1 : w9.cell? ⟨b, c * 2 + 1, none⟩ = some (.int .i64 (yp : Int)) := Kept.cell hk9 (fun h => h) ay1
            have ez0 : w9.cell? ⟨b, d * 2, none⟩ = some (.slice (some ⟨b3, o3, none⟩) n3 z3) := Kept.cell hk9 (fun h => h) az0
            have ez1 : w9.cell? ⟨b, d * 2 + 1, none⟩ = some (.int .i64 (zp : Int)) := Kept.cell hk9 (fun h => h) az1
            clear hk9 af ax0 ax1 ay0 ay1 az0 az1
            go_region_held3 (fun w' => w'.cell? ⟨b, d * 2, none⟩ = some (.slice (some ⟨b3, o3, none⟩) n3 z3) ∧ w'.cell? ⟨b, d * 2 + 1, none⟩ = some (.int .i64 (zp : Int)) ∧ w'.cell? ⟨b, i * 2, none⟩ = some (.slice (some ⟨b1, o1, none⟩) n1 z1) ∧ w'.cell? ⟨b, i * 2 + 1, none⟩ = some (.int .i64 (xp : Int))) (go_keep) (first
              | (go_at_call 63; go_must (refine (hle.out _ (HK9.out.drew)).mono ?_; rintro e w3 ⟨rfl, k3⟩; have k4 : Same w9 w3 := ((Kept.refl (fun _ => False) w9).drew).trans k3; have gz0 : w3.cell? ⟨b, d * 2, none⟩ = some (.slice (some ⟨b3, o3, none⟩) n3 z3) := Kept.cell k4 (fun h => h) ez0; have gz1 : w3.cell? ⟨b, d * 2 + 1, none⟩ = some (.int .i64 (zp : Int)) := Kept.cell k4 (fun h => h) ez1; have gx0 : w3.cell? ⟨b, i * 2, none⟩ = some (.slice (some ⟨b1, o1, none⟩) n1 z1) := Kept.cell k4 (fun h => h) ex0; have gx1 : w3.cell? ⟨b, i * 2 + 1, none⟩ = some (.int .i64 (xp : Int)) := Kept.cell k4 (fun h => h) ex1; have K4 := hidden k4; clear k3 k4)))
            go_wp2
            have HB3 := hidden (own_kept HB9.out K4.out (fun _ _ h => h))
            have HK3 := hidden (HK9.out.trans' K4.out (fun _ _ h => h.elim))
            have e5 : ∀ j, w3.frozen? ⟨b, j, none⟩ = false := fun j => own_free HB3.out
            clear hle ex0 ex1 ey0 ey1 ez0 ez1
            go_region
            go_wp2
            go_roundw
            case rel =>
              refine ⟨d, swp L' i d hil hdl, Or.inr (by omega), by first | rfl | go_num, by rw [swp_len]; exact HLi.out, (swp_perm _ _ _ _ _).trans HP.out, down_swap ordH HDi.out hdl (by have := HC.out; have := HDD.out; omega) (by have := HC.out; have := HDD.out; omega) (fun j hj j0 hji => by rw [HZ.out]; exact HMIN.out j hj j0 hji) (by rw [HZ.out, HX.out]; exact HLT.out), ?_, ?_⟩
              · have z := hown_set (i := d) (hown_set (i := i) (own_kept HB3.out ((Kept.refl (fun _ => False) w3).drew) (fun _ _ h => h)) ⟨.slice (some ⟨b3, o3, none⟩) n3 z3, zk, zp⟩) ⟨.slice (some ⟨b1, o1, none⟩) n1 z1, xk, xp⟩
                have e : swp L' i d hil hdl = (L'.set i ⟨.slice (some ⟨b3, o3, none⟩) n3 z3, zk, zp⟩).set d ⟨.slice (some ⟨b1, o1, none⟩) n1 z1, xk, xp⟩ := by rw [swp, HX.out, HZ.out]
                rw [e]
                exact z
              · exact ((((HK3.out.drew).setCell (p := ⟨b, i * 2, none⟩) rfl _).setCell (p := ⟨b, i * 2 + 1, none⟩) rfl _).setCell (p := ⟨b, d * 2, none⟩) rfl _).setCell (p := ⟨b, d * 2 + 1, none⟩) rfl _
            case measure => simp [intOf]; have := HC.out; have := HDD.out; omega
      · have q5 : ¬ ((c : Int) + 1 < (n : Int)) := by omega
        have q6 : decide ((c : Int) + 1 < (n : Int)) = false := by simpa using q5
        clear hb hP
        have HMIN : Hid (∀ j (hj : j < L'.length), 0 < j → (j - 1) / 2 = i → ltH L'[j] ⟨.slice (some ⟨b2, o2, none⟩) n2 z2, yk, yp⟩ = false) := fun j hj j0 hji => by
          have := HC.out
          have := HLi.out
          obtain rfl : j = c := by omega
          rw [HY.out]; exact ordH.rf _
        have hle := hidden (HBE.out _ HYM.out _ HXM.out)
        dsimp only [kH] at hle
        generalize hlt : ltH ⟨.slice (some ⟨b2, o2, none⟩) n2 z2, yk, yp⟩ ⟨.slice (some ⟨b1, o1, none⟩) n1 z1, xk, xp⟩ = bp at hle
        have HLT := hidden hlt
        clear hlt
        cases bp
        · go_wp2
          go_quiet (fail)
          go_wp2
          obtain ⟨w9, hw9, hk9⟩ : ∃ W, W = wr.drewN nq ∧ Same wr W := ⟨_, rfl, (Kept.refl _ wr).drewN nq⟩
          rw [← hw9]
          clear hw9
          have HB9 := hidden (own_kept HBi.out hk9 (fun _ _ h => h))
          have HK9 := hidden (HK.out.trans' hk9 (fun _ _ h => h.elim))
          have ex0 : w9.cell? ⟨b, i * 2, none⟩ = some (.slice (some ⟨b1, o1, none⟩) n1 z1) := Kept.cell hk9 (fun h => h) ax0
          have ex1 : w9.cell? ⟨b, i * 2 + 1, none⟩ = some (.int .i64 (xp : Int)) := Kept.cell hk9 (fun h => h) ax1
          have ey0 : w9.cell? ⟨b, c * 2, none⟩ = some (.slice (some ⟨b2, o2, none⟩) n2 z2) := Kept.cell hk9 (fun h => h) ay0
          have ey1 : w9.cell? ⟨b, c * 2 + 1, none⟩ = some (.int .i64 (yp : Int)) := Kept.cell hk9 (fun h => h) ay1
          clear hk9 af ax0 ax1 ay0 ay1
          go_region_held3 (fun w' => w'.cell? ⟨b, c * 2, none⟩ = some (.slice (some ⟨b2, o2, none⟩) n2 z2) ∧ w'.cell? ⟨b, c * 2 + 1, none⟩ = some (.int .i64 (yp : Int)) ∧ w'.cell? ⟨b, i * 2, none⟩ = some (.slice (some ⟨b1, o1, none⟩) n1 z1) ∧ w'.cell? ⟨b, i * 2 + 1, none⟩ = some (.int .i64 (xp : Int))) (go_keep) (first
            | (go_at_call 63; go_must (refine (hle.out _ (HK9.out.drew)).mono ?_; rintro e w3 ⟨rfl, k3⟩; have k4 : Same w9 w3 := ((Kept.refl (fun _ => False) w9).drew).trans k3; have gy0 : w3.cell? ⟨b, c * 2, none⟩ = some (.slice (some ⟨b2, o2, none⟩) n2 z2) := Kept.cell k4 (fun h => h) ey0; have gy1 : w3.cell? ⟨b, c * 2 + 1, none⟩ = some (.int .i64 (yp : Int)) := Kept.cell k4 (fun h => h) ey1; have gx0 : w3.cell? ⟨b, i * 2, none⟩ = some (.slice (some ⟨b1, o1, none⟩) n1 z1) := Kept.cell k4 (fun h => h) ex0; have gx1 : w3.cell? ⟨b, i * 2 + 1, none⟩ = some (.int .i64 (xp : Int)) := Kept.cell k4 (fun h => h) ex1; have K4 := hidden k4; clear k3 k4)))
          go_wp2
          go_returns
          refine ⟨rfl, L', HP.out, down_done HDi.out (fun j hj j0 hji => ?_), own_kept HB9.out K4.out (fun _ _ h => h), HK9.out.trans' K4.out (fun _ _ h => h.elim)⟩
          rw [HX.out]
          exact ordH.tr _ _ _ HLT.out (HMIN.out j hj j0 hji)
        · go_wp2
          go_quiet (fail)
          go_wp2
          obtain ⟨w9, hw9, hk9⟩ : ∃ W, W = wr.drewN nq ∧ Same wr W := ⟨_, rfl, (Kept.refl _ wr).drewN nq⟩
          rw [← hw9]
          clear hw9
          have HB9 := hidden (own_kept HBi.out hk9 (fun _ _ h => h))
          have HK9 := hidden (HK.out.trans' hk9 (fun _ _ h => h.elim))
          have ex0 : w9.cell? ⟨b, i * 2, none⟩ = some (.slice (some ⟨b1, o1, none⟩) n1 z1) := Kept.cell hk9 (fun h => h) ax0
          have ex1 : w9.cell? ⟨b, i * 2 + 1, none⟩ = some (.int .i64 (xp : Int)) := Kept.cell hk9 (fun h => h) ax1
          have ey0 : w9.cell? ⟨b, c * 2, none⟩ = some (.slice (some ⟨b2, o2, none⟩) n2 z2) := Kept.cell hk9 (fun h => h) ay0
          have ey1 : w9.cell? ⟨b, c * 2 + 1, none⟩ = some (.int .i64 (yp : Int)) := Kept.cell hk9 (fun h => h) ay1
          clear hk9 af ax0 ax1 ay0 ay1
          go_region_held3 (fun w' => w'.cell? ⟨b, c * 2, none⟩ = some (.slice (some ⟨b2, o2, none⟩) n2 z2) ∧ w'.cell? ⟨b, c * 2 + 1, none⟩ = some (.int .i64 (yp : Int)) ∧ w'.cell? ⟨b, i * 2, none⟩ = some (.slice (some ⟨b1, o1, none⟩) n1 z1) ∧ w'.cell? ⟨b, i * 2 + 1, none⟩ = some (.int .i64 (xp : Int))) (go_keep) (first
            | (go_at_call 63; go_must (refine (hle.out _ (HK9.out.drew)).mono ?_; rintro e w3 ⟨rfl, k3⟩; have k4 : Same w9 w3 := ((Kept.refl (fun _ => False) w9).drew).trans k3; have gy0 : w3.cell? ⟨b, c * 2, none⟩ = some (.slice (some ⟨b2, o2, none⟩) n2 z2) := Kept.cell k4 (fun h => h) ey0; have gy1 : w3.cell? ⟨b, c * 2 + 1, none⟩ = some (.int .i64 (yp : Int)) := Kept.cell k4 (fun h => h) ey1; have gx0 : w3.cell? ⟨b, i * 2, none⟩ = some (.slice (some ⟨b1, o1, none⟩) n1 z1) := Kept.cell k4 (fun h => h) ex0; have gx1 : w3.cell? ⟨b, i * 2 + 1, none⟩ = some (.int .i64 (xp : Int)) := Kept.cell k4 (fun h => h) ex1; have K4 := hidden k4; clear k3 k4)))
          go_wp2
          have HB3 := hidden (own_kept HB9.out K4.out (fun _ _ h => h))
          have HK3 := hidden (HK9.out.trans' K4.out (fun _ _ h => h.elim))
          have e5 : ∀ j, w3.frozen? ⟨b, j, none⟩ = false := fun j => own_free HB3.out
          clear hle ex0 ex1 ey0 ey1
          go_region
          go_wp2
          go_roundw
          case rel =>
            refine ⟨c, swp L' i c hil hcl, Or.inr (by omega), by first | rfl | go_num, by rw [swp_len]; exact HLi.out, (swp_perm _ _ _ _ _).trans HP.out, down_swap ordH HDi.out hcl (by have := HC.out; omega) (by have := HC.out; omega) (fun j hj j0 hji => by rw [HY.out]; exact HMIN.out j hj j0 hji) (by rw [HY.out, HX.out]; exact HLT.out), ?_, ?_⟩
            · have z := hown_set (i := c) (hown_set (i := i) (own_kept HB3.out ((Kept.refl (fun _ => False) w3).drew) (fun _ _ h => h)) ⟨.slice (some ⟨b2, o2, none⟩) n2 z2, yk, yp⟩) ⟨.slice (some ⟨b1, o1, none⟩) n1 z1, xk, xp⟩
              have e : swp L' i c hil hcl = (L'.set i ⟨.slice (some ⟨b2, o2, none⟩) n2 z2, yk, yp⟩).set c ⟨.slice (some ⟨b1, o1, none⟩) n1 z1, xk, xp⟩ := by rw [swp, HX.out, HY.out]
              rw [e]
              exact z
            · exact ((((HK3.out.drew).setCell (p := ⟨b, i * 2, none⟩) rfl _).setCell (p := ⟨b, i * 2 + 1, none⟩) rfl _).setCell (p := ⟨b, c * 2, none⟩) rfl _).setCell (p := ⟨b, c * 2 + 1, none⟩) rfl _
          case measure => simp [intOf]; have := HC.out; omega
    · have q0 : ¬ (c : Int) < (n : Int) := by omega
      clear hP hD hK hl hc hb
      go_wp2
      go_returns
      exact ⟨rfl, L', HP.out, down_done HDi.out (fun j hj j0 hji => by have := HC.out; have := HLi.out; omega), HBi.out, HK.out⟩
end Go.Proofs.Ytelngbkbdihdnaa
