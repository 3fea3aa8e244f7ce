/- script: the document's PrintOp, walked. (Made by mksc17.py.) -/
import Derived.Test.YtndfgpelioipcaaDoorSc16
import Derived.Test.YtndfgpelioipcaaDoorSc13
namespace Go.Proofs.YtndfgpelioipcaaDoor
open Go.RowKit
set_option linter.unusedVariables false
set_option linter.unusedSimpArgs false
/-- What is left by the document's count. -/
def OpR.bare (o : OpR) : OpR := { o with kd := 0 }
/-- The letters that are left are told of the operation as it was. -/
structure DI (o : OpR) (L : List UInt8) (k : Nat) (ok : OpR) : Prop where
  rest : ∀ c ∈ L.drop k, ok.wd c = o.wd c ∧ ok.may c = o.may c
theorem DI.zero (o : OpR) (L : List UInt8) : DI o L 0 o := ⟨fun _ _ => ⟨rfl, rfl⟩⟩
theorem DI.step {o ok : OpR} {L : List UInt8} {k : Nat} {b : UInt8} (h : DI o L k ok) (hb : L[k]? = some b) (hL : ∀ c ∈ L, isL c = true) (hn : L.Nodup) : DI o L (k + 1) (ok.clr b) := by
  have hk := (List.getElem?_eq_some_iff.1 hb).1
  have e : L.drop k = b :: L.drop (k + 1) := by rw [List.drop_eq_getElem_cons hk, (List.getElem?_eq_some_iff.1 hb).2]
  have hnd : (b :: L.drop (k + 1)).Nodup := by rw [← e]; exact hn.sublist (List.drop_sublist _ _)
  refine ⟨fun c hc => ?_⟩
  have hne : b ≠ c := fun q => (List.nodup_cons.1 hnd).1 (q ▸ hc)
  obtain ⟨h1, h2⟩ := clr_other (o := ok) (hL b (List.mem_of_getElem? hb)) (hL c (List.mem_of_mem_drop hc)) hne
  have h3 := h.rest c (by rw [e]; simp [hc])
  exact ⟨h1.trans h3.1, h2.trans h3.2⟩
theorem DI.at {o ok : OpR} {L : List UInt8} {k : Nat} {b : UInt8} (h : DI o L k ok) (hb : L[k]? = some b) : ok.wd b = o.wd b ∧ ok.may b = o.may b := by
  have hk := (List.getElem?_eq_some_iff.1 hb).1
  exact h.rest b (by rw [List.drop_eq_getElem_cons hk, (List.getElem?_eq_some_iff.1 hb).2]; simp)
theorem may_no {n : Int} (h : mayN n = false) : n < -999999999999999999 ∨ ¬ n < -999999999999999999 ∧ 999999999999999999 < n := by
  by_cases h1 : n < -999999999999999999
  · exact .inl h1
  · refine .inr ⟨h1, ?_⟩
    unfold mayN at h
    by_cases h2 : 999999999999999999 < n
    · exact h2
    · rw [decide_eq_true (by omega), decide_eq_true (by omega)] at h
      cases h
theorem may_yes {n : Int} (h : mayN n = true) : ¬ n < -999999999999999999 ∧ ¬ 999999999999999999 < n := by
  unfold mayN at h
  simp at h
  omega
theorem bare_set {ok : OpR} {w : World} {g : Nat} (h : OpB w g ok.bare) (b : UInt8) (j : Nat) (v : Value) (he : ok.bare.cs.setIfInBounds j v = (ok.clr b).bare.cs) : OpB (w.setCell ⟨g, j, none⟩ v) g (ok.clr b).bare := opb_set h j v _ he
set_option maxHeartbeats 4000000 in
set_option maxRecDepth 100000 in
theorem printOpD_any (o : OpR) (ho : o.Ok 1099511627776) (w : World) : Calls Tryd.prog 15 #[.agg o.cs] w fun e w' => e = .returned (poV (prt o)) ∧ Same w w' := by
  have hcs : o.cs = #[.int .i64 o.kd, .string (BA o.pa), .string (BA o.ot), .int .i64 o.ha, .int .i64 o.of, .int .i64 o.nn, .int .i64 o.fl, .string (BA o.da)] := rfl
  have HN := hidden (nameD_any o.kd)
  have hB0 : OpB (w.alloc (.cells o.cs 28)) w.heap.size o := blk_new w _
  have HB0 := hidden hB0
  have k0 : ∀ W, OpB W w.heap.size o → W.cell? ⟨w.heap.size, 0, none⟩ = some (.int .i64 o.kd) := fun W h => blk_cell h
  by_cases hk : 1 ≤ o.kd ∧ o.kd ≤ 19
  · rw [if_pos hk] at HN
    have HW := hidden (wordsD_any o.kd hk.1 hk.2)
    have hk19 : o.kd.toNat ≤ 19 := by omega
    obtain ⟨fL3, fLl⟩ := fl_isL o.kd.toNat hk19
    have hnd := fl_nodup o.kd.toNat hk19
    have HPt := hidden (show prt o = match pr o (flL o.kd.toNat) with | none => none | some p => if p.1 = OpR.only o.kd then some (jn (nmL o.kd.toNat :: p.2)) else none by unfold prt; rw [if_pos hk]; rfl)
    have hnm := nm_size o.kd.toNat (by omega) hk19
    have hne : nmL o.kd.toNat ≠ [] := by
      have : ∀ i : Fin 20, 1 ≤ i.val → nmL i.val ≠ [] := by decide +kernel
      exact this ⟨o.kd.toNat, by omega⟩ (show 1 ≤ o.kd.toNat by omega)
    have HPI := hidden (PI.zero o (flL o.kd.toNat) ho)
    have HDI := hidden (DI.zero o (flL o.kd.toNat))
    have hc1 := k0 _ hB0
    have hJ0 : BA (nmL o.kd.toNat) = BA (jn [nmL o.kd.toNat]) := by rw [jn_one]
    have dn : ((BA (nmL o.kd.toNat)).toList == []) = false := by rw [toList_BA]; simpa using hne
    have en : ¬ (BA (nmL o.kd.toNat)).toList = [] := by rw [toList_BA]; exact hne
    rw [hJ0] at HN dn en
    generalize nmL o.kd.toNat = NM at *
    generalize flL o.kd.toNat = L at *
    obtain ⟨m, hm⟩ : ∃ m, m = L.length := ⟨_, rfl⟩
    rw [← hm] at HW fL3
    have HM := hidden hm
    have HFl := hidden fLl
    have HNd := hidden hnd
    have HK0 := hidden k0
    have HQ := hidden quoteD_any
    have HNb := hidden number_any
    have HAdd := hidden str_add
    have HOk := hidden ho
    clear hm fLl hnd hB0 ho k0 hne hJ0 hk19
    obtain ⟨y0, hy0⟩ : ∃ y0, y0 = BA (jn [NM]) := ⟨_, rfl⟩
    rw [← hy0] at HN dn en
    have HY0 := hidden hy0
    clear hy0
    go_enter Tryd.func15, Tryd.ntmps15
    go_wp2_with (first
      | (go_at_call 26; refine (HW.out _).mono ?_; rintro e w3 ⟨⟨va, vc, rfl, r3⟩, k3⟩; have R3 := hidden r3; have KK := hidden k3; clear r3 k3)
      | (go_at_call 25; refine (HN.out _).mono ?_; rintro e w2 ⟨rfl, k2⟩; have aK := K1; clear aK; have K2 := hidden (K1.out.trans k2); have B2 := hidden (opb_kept B1.out k2 (fun h => h)); have c2 := HK0.out w2 B2.out; have c3 : ∀ q, (w2.alloc q).cell? ⟨w.heap.size, 0, none⟩ = some (.int .i64 o.kd) := (fun q => HK0.out _ (blk_alloc B2.out q)); clear k2 K1 B1)
      | (go_at_call 25; refine (HN.out _).mono ?_; rintro e w1 ⟨rfl, k1⟩; have K1 := hidden ((same_alloc w (.cells o.cs 28)).trans k1); have B1 := hidden (opb_kept HB0.out k1 (fun h => h)); have c1 := HK0.out w1 B1.out; clear k1)
      | (refine wl_load 28 _ rfl rfl w.heap.size rfl o.cs (ld_op B2.out) ?_)
      | (refine wl_store 28 _ _ rfl rfl rfl w2.heap.size rfl o.cs rfl (st_new w2 o) ?_))
    have hLB := blk_kept KK.out (fun h => h) (blk_new w2 (.cells o.bare.cs 28))
    have hOB := opb_kept (blk_alloc B2.out (.cells o.bare.cs 28)) KK.out (fun h => h)
    have hS3 := (K2.out.alloc (.cells o.bare.cs 28)).trans KK.out
    have hgl : w.heap.size < w2.heap.size := blk_lt B2.out
    have HLB := hidden hLB
    have HOB := hidden hOB
    have HS3 := hidden hS3
    clear hLB hOB hS3 KK K2 B2 c1 c2 c3 hc1
    obtain ⟨gl, hgle⟩ : ∃ gl, gl = w2.heap.size := ⟨_, rfl⟩
    rw [← hgle] at HLB hgl ⊢
    clear hgle
    go_loopw [4, 23] (fun u v wr => ∃ (k : Nat) (ok : OpR) (ws : List (List UInt8)), u = .string (BA (jn (NM :: ws))) ∧ v = .int .i64 k ∧ k ≤ m ∧ PI o L k ok ws ∧ DI o L k ok ∧ OpB wr gl ok.bare ∧ OpB wr w.heap.size o ∧ wr.ownsRow 0 3 1 (.slice va m vc) m (IS (L.map cd)) ∧ Same w wr) (fun _ v _ => m - (intOf v).toNat)
    case atStart => exact ⟨0, o, [], by rw [HY0.out], rfl, Nat.zero_le _, HPI.out, HDI.out, HLB.out, HOB.out, R3.out, HS3.out⟩
    case round =>
      obtain ⟨k, ok, ws, rfl, rfl, hkm, hP, hD, hLB, hOB, hR, hS⟩ := hrel
      have HP := hidden hP
      have HD := hidden hD
      have HL := hidden hLB
      have HO := hidden hOB
      have HR := hidden hR
      have HS := hidden hS
      have hsum := hP.sum
      have hjl : (jn (NM :: ws)).length ≤ 4398046511204 * 3 + 11 := by
        have h1 := jn_len (NM :: ws)
        have h2 : k * 4398046511204 ≤ 3 * 4398046511204 := Nat.mul_le_mul_right _ (by omega)
        have h3 : wsum (NM :: ws) = NM.length + 1 + wsum ws := by simp [wsum]
        omega
      have HE := hidden (fun x => jn_snoc (NM :: ws) x (by simp))
      have hok := hP.ok
      clear hP hD hLB hOB hR hS hsum
      by_cases h1 : k < m
      · obtain ⟨b, hb⟩ : ∃ b, L[k]? = some b := ⟨_, List.getElem?_eq_getElem (by rw [← HM.out]; exact h1)⟩
        have hbL := HFl.out b (List.mem_of_getElem? hb)
        have hDb := HD.out.at hb
        have HD2 := hidden (HD.out.step hb HFl.out HNd.out)
        have HPn := hidden (fun h => HP.out.no hb h)
        have HPy := hidden (fun h => HP.out.step hb hbL h)
        have hwl := wd_len HOk.out hbL
        have hcode : (L.map cd)[k]? = some (cd b) := by rw [List.getElem?_map, hb]; rfl
        obtain ⟨b2, o2, rfl, hcells⟩ := (Row.own HR.out).at (by rw [IS_len, List.length_map, ← HM.out]; omega)
        have hcC := hcells k (.int .i64 (cd b)) (by unfold IS; rw [List.getElem?_map, hcode]; rfl)
        have q1 : (k : Int) < (m : Int) := by omega
        have q2 : (0 : Int) ≤ (k : Int) := Int.natCast_nonneg _
        obtain ⟨J, hJ⟩ : ∃ J, J = jn (NM :: ws) := ⟨_, rfl⟩
        rw [← hJ] at hjl HE ⊢
        clear hJ
        have hglw : ¬ w.heap.size = gl := by omega
        clear hb hcode hcells
        rcases isL_cases hbL with rfl | rfl | rfl | rfl | rfl | rfl | rfl
        · have hcd : cd 80 = 5 := rfl
          rw [hcd] at hcC
          have e1 : o.wd 80 = quoteL o.pa := rfl
          rw [e1] at hDb hwl
          have hy := HPy.out (by rw [hDb.2]; rfl)
          rw [hDb.1] at hy
          have HP2 := hidden hy
          have c1 : wr.cell? ⟨w.heap.size, 1, none⟩ = some (.string (BA o.pa)) := blk_cell HO.out
          have HQ1 := hidden (HQ.out (BA o.pa) (by rw [BA_size]; have := HOk.out.len; omega))
          rw [BA_data] at HQ1
          have s1 : ∀ W : World, (Op.stringOp .add (BA J) ⟨#[32]⟩).run Tryd.prog W = .ok (.string (BA (J ++ [32]))) W := fun W => HAdd.out J [32] W (by simp; omega)
          have s2 : ∀ W : World, (Op.stringOp .add (BA (J ++ [32])) (BA (quoteL o.pa))).run Tryd.prog W = .ok (.string (BA (J ++ 32 :: quoteL o.pa))) W := fun W => by have := HAdd.out (J ++ [32]) (quoteL o.pa) W (by simp; omega); rwa [List.append_assoc, List.singleton_append] at this
          have HJ2 := hidden (HE.out (quoteL o.pa))
          obtain ⟨y3, hy3⟩ : ∃ y3, y3 = BA (J ++ 32 :: quoteL o.pa) := ⟨_, rfl⟩
          rw [← hy3] at s2
          have HY3 := hidden hy3
          clear hy3 hy hDb hwl e1 hcd HPn HPy
          generalize BA (J ++ [32]) = y2 at *
          generalize BA (quoteL o.pa) = yq at *
          generalize BA o.pa = yf at *
          go_wp2_with (go_at_call 12; refine (HQ1.out _).mono ?_; rintro e w4 ⟨rfl, k4⟩; have S4 := hidden (HS.out.trans k4); have L4 := hidden (opb_kept HL.out k4 (fun h => h)); have O4 := hidden (opb_kept HO.out k4 (fun h => h)); have R4 := hidden (own_kept HR.out k4 (fun _ _ h => h)); clear k4; have c4 : w4.cell? ⟨gl, 1, none⟩ = some (.string (BA ok.pa)) := (blk_cell L4.out); have f4 : w4.frozen? ⟨gl, 1, none⟩ = false := blk_free L4.out)
          go_roundw
          case rel => exact ⟨k + 1, ok.clr 80, ws ++ [quoteL o.pa], by rw [HY3.out, ← HJ2.out]; rfl, by go_num, by omega, HP2.out, HD2.out, bare_set L4.out 80 1 _ rfl, opb_kept O4.out ((Kept.refl (fun q => q = gl) w4).setCell (p := ⟨gl, 1, none⟩) rfl _) hglw, own_kept R4.out ((Kept.refl (fun q => q = gl) w4).setCell (p := ⟨gl, 1, none⟩) rfl _) (fun q hq e => own_apart R4.out L4.out (by decide) (by have e' : q = gl := e; rw [hq, e'])), S4.out.setNew (p := ⟨gl, 1, none⟩) (by simp; omega) _⟩
          case measure => simp [intOf]; omega
        · have hcd : cd 81 = 6 := rfl
          rw [hcd] at hcC
          have e1 : o.wd 81 = quoteL o.ot := rfl
          rw [e1] at hDb hwl
          have hy := HPy.out (by rw [hDb.2]; rfl)
          rw [hDb.1] at hy
          have HP2 := hidden hy
          have c1 : wr.cell? ⟨w.heap.size, 2, none⟩ = some (.string (BA o.ot)) := blk_cell HO.out
          have HQ1 := hidden (HQ.out (BA o.ot) (by rw [BA_size]; have := HOk.out.len; omega))
          rw [BA_data] at HQ1
          have s1 : ∀ W : World, (Op.stringOp .add (BA J) ⟨#[32]⟩).run Tryd.prog W = .ok (.string (BA (J ++ [32]))) W := fun W => HAdd.out J [32] W (by simp; omega)
          have s2 : ∀ W : World, (Op.stringOp .add (BA (J ++ [32])) (BA (quoteL o.ot))).run Tryd.prog W = .ok (.string (BA (J ++ 32 :: quoteL o.ot))) W := fun W => by have := HAdd.out (J ++ [32]) (quoteL o.ot) W (by simp; omega); rwa [List.append_assoc, List.singleton_append] at this
          have HJ2 := hidden (HE.out (quoteL o.ot))
          obtain ⟨y3, hy3⟩ : ∃ y3, y3 = BA (J ++ 32 :: quoteL o.ot) := ⟨_, rfl⟩
          rw [← hy3] at s2
          have HY3 := hidden hy3
          clear hy3 hy hDb hwl e1 hcd HPn HPy
          generalize BA (J ++ [32]) = y2 at *
          generalize BA (quoteL o.ot) = yq at *
          generalize BA o.ot = yf at *
          go_wp2_with (go_at_call 12; refine (HQ1.out _).mono ?_; rintro e w4 ⟨rfl, k4⟩; have S4 := hidden (HS.out.trans k4); have L4 := hidden (opb_kept HL.out k4 (fun h => h)); have O4 := hidden (opb_kept HO.out k4 (fun h => h)); have R4 := hidden (own_kept HR.out k4 (fun _ _ h => h)); clear k4; have c4 : w4.cell? ⟨gl, 2, none⟩ = some (.string (BA ok.ot)) := (blk_cell L4.out); have f4 : w4.frozen? ⟨gl, 2, none⟩ = false := blk_free L4.out)
          go_roundw
          case rel => exact ⟨k + 1, ok.clr 81, ws ++ [quoteL o.ot], by rw [HY3.out, ← HJ2.out]; rfl, by go_num, by omega, HP2.out, HD2.out, bare_set L4.out 81 2 _ rfl, opb_kept O4.out ((Kept.refl (fun q => q = gl) w4).setCell (p := ⟨gl, 2, none⟩) rfl _) hglw, own_kept R4.out ((Kept.refl (fun q => q = gl) w4).setCell (p := ⟨gl, 2, none⟩) rfl _) (fun q hq e => own_apart R4.out L4.out (by decide) (by have e' : q = gl := e; rw [hq, e'])), S4.out.setNew (p := ⟨gl, 2, none⟩) (by simp; omega) _⟩
          case measure => simp [intOf]; omega
        · have hcd : cd 68 = 7 := rfl
          rw [hcd] at hcC
          have e1 : o.wd 68 = quoteL o.da := rfl
          rw [e1] at hDb hwl
          have hy := HPy.out (by rw [hDb.2]; rfl)
          rw [hDb.1] at hy
          have HP2 := hidden hy
          have c1 : wr.cell? ⟨w.heap.size, 7, none⟩ = some (.string (BA o.da)) := blk_cell HO.out
          have HQ1 := hidden (HQ.out (BA o.da) (by rw [BA_size]; have := HOk.out.len; omega))
          rw [BA_data] at HQ1
          have s1 : ∀ W : World, (Op.stringOp .add (BA J) ⟨#[32]⟩).run Tryd.prog W = .ok (.string (BA (J ++ [32]))) W := fun W => HAdd.out J [32] W (by simp; omega)
          have s2 : ∀ W : World, (Op.stringOp .add (BA (J ++ [32])) (BA (quoteL o.da))).run Tryd.prog W = .ok (.string (BA (J ++ 32 :: quoteL o.da))) W := fun W => by have := HAdd.out (J ++ [32]) (quoteL o.da) W (by simp; omega); rwa [List.append_assoc, List.singleton_append] at this
          have HJ2 := hidden (HE.out (quoteL o.da))
          obtain ⟨y3, hy3⟩ : ∃ y3, y3 = BA (J ++ 32 :: quoteL o.da) := ⟨_, rfl⟩
          rw [← hy3] at s2
          have HY3 := hidden hy3
          clear hy3 hy hDb hwl e1 hcd HPn HPy
          generalize BA (J ++ [32]) = y2 at *
          generalize BA (quoteL o.da) = yq at *
          generalize BA o.da = yf at *
          go_wp2_with (go_at_call 12; refine (HQ1.out _).mono ?_; rintro e w4 ⟨rfl, k4⟩; have S4 := hidden (HS.out.trans k4); have L4 := hidden (opb_kept HL.out k4 (fun h => h)); have O4 := hidden (opb_kept HO.out k4 (fun h => h)); have R4 := hidden (own_kept HR.out k4 (fun _ _ h => h)); clear k4; have c4 : w4.cell? ⟨gl, 7, none⟩ = some (.string (BA ok.da)) := (blk_cell L4.out); have f4 : w4.frozen? ⟨gl, 7, none⟩ = false := blk_free L4.out)
          go_roundw
          case rel => exact ⟨k + 1, ok.clr 68, ws ++ [quoteL o.da], by rw [HY3.out, ← HJ2.out]; rfl, by go_num, by omega, HP2.out, HD2.out, bare_set L4.out 68 7 _ rfl, opb_kept O4.out ((Kept.refl (fun q => q = gl) w4).setCell (p := ⟨gl, 7, none⟩) rfl _) hglw, own_kept R4.out ((Kept.refl (fun q => q = gl) w4).setCell (p := ⟨gl, 7, none⟩) rfl _) (fun q hq e => own_apart R4.out L4.out (by decide) (by have e' : q = gl := e; rw [hq, e'])), S4.out.setNew (p := ⟨gl, 7, none⟩) (by simp; omega) _⟩
          case measure => simp [intOf]; omega
        · have hcd : cd 72 = 1 := rfl
          rw [hcd] at hcC
          have e1 : o.wd 72 = Lib.itoa o.ha := rfl
          have e2 : o.may 72 = mayN o.ha := rfl
          rw [e1, e2] at hDb
          rw [e1] at hwl
          have c1 : wr.cell? ⟨w.heap.size, 3, none⟩ = some (.int .i64 o.ha) := blk_cell HO.out
          have c4 : wr.cell? ⟨gl, 3, none⟩ = some (.int .i64 ok.ha) := blk_cell HL.out
          have f4 : wr.frozen? ⟨gl, 3, none⟩ = false := blk_free HL.out
          have S4 := hidden (HS.out.setNew (p := ⟨gl, 3, none⟩) (by simp; omega) (.int .i64 0))
          cases hm : mayN o.ha
          · have HNo := hidden (show prt o = none by rw [HPt.out, HPn.out (by rw [hDb.2]; exact hm)])
            rcases may_no hm with g1 | ⟨g1, g2⟩
            · have d1 : decide (o.ha < -999999999999999999) = true := decide_eq_true g1
              clear HPy HPn hDb hwl hm g1
              go_wp2
              go_returns
              exact ⟨by rw [HNo.out]; rfl, S4.out⟩
            · have d1 : decide (o.ha < -999999999999999999) = false := decide_eq_false g1
              have d2 : decide (999999999999999999 < o.ha) = true := decide_eq_true g2
              clear HPy HPn hDb hwl hm g1 g2
              go_wp2
              go_returns
              exact ⟨by rw [HNo.out]; rfl, S4.out⟩
          · obtain ⟨g1, g2⟩ := may_yes hm
            have d1 : decide (o.ha < -999999999999999999) = false := decide_eq_false g1
            have d2 : decide (999999999999999999 < o.ha) = false := decide_eq_false g2
            have hy := HPy.out (by rw [hDb.2]; exact hm)
            rw [hDb.1] at hy
            have HP2 := hidden hy
            have HN1 := hidden (HNb.out o.ha HOk.out.ha.1 HOk.out.ha.2)
            have s1 : ∀ W : World, (Op.stringOp .add ⟨#[32]⟩ (BA (Lib.itoa o.ha))).run Tryd.prog W = .ok (.string (BA (32 :: Lib.itoa o.ha))) W := fun W => HAdd.out [32] (Lib.itoa o.ha) W (by simp; omega)
            have s2 : ∀ W : World, (Op.stringOp .add (BA J) (BA (32 :: Lib.itoa o.ha))).run Tryd.prog W = .ok (.string (BA (J ++ 32 :: Lib.itoa o.ha))) W := fun W => HAdd.out J (32 :: Lib.itoa o.ha) W (by simp; omega)
            have HJ2 := hidden (HE.out (Lib.itoa o.ha))
            obtain ⟨y3, hy3⟩ : ∃ y3, y3 = BA (J ++ 32 :: Lib.itoa o.ha) := ⟨_, rfl⟩
            rw [← hy3] at s2
            have HY3 := hidden hy3
            have L5 := hidden (bare_set HL.out 72 3 (.int .i64 0) rfl)
            have O5 := hidden (opb_kept HO.out ((Kept.refl (fun q => q = gl) wr).setCell (p := ⟨gl, 3, none⟩) rfl (.int .i64 0)) hglw)
            have R5 := hidden (own_kept HR.out ((Kept.refl (fun q => q = gl) wr).setCell (p := ⟨gl, 3, none⟩) rfl (.int .i64 0)) (fun q hq e => own_apart HR.out HL.out (by decide) (by have e' : q = gl := e; rw [hq, e'])))
            clear hy3 hy hDb hwl e1 e2 hcd HPn HPy hm g1 g2
            generalize BA (32 :: Lib.itoa o.ha) = y2 at *
            generalize BA (Lib.itoa o.ha) = yn at *
            go_wp2_with (go_at_call 27; refine (HN1.out _).mono ?_; rintro e w6 ⟨rfl, k6⟩; have K6 := hidden k6; clear k6)
            go_roundw
            case rel => exact ⟨k + 1, ok.clr 72, ws ++ [Lib.itoa o.ha], by rw [HY3.out, ← HJ2.out]; rfl, by go_num, by omega, HP2.out, HD2.out, opb_kept L5.out K6.out (fun h => h), opb_kept O5.out K6.out (fun h => h), own_kept R5.out K6.out (fun _ _ h => h), S4.out.trans K6.out⟩
            case measure => simp [intOf]; omega
        · have hcd : cd 79 = 2 := rfl
          rw [hcd] at hcC
          have e1 : o.wd 79 = Lib.itoa o.of := rfl
          have e2 : o.may 79 = mayN o.of := rfl
          rw [e1, e2] at hDb
          rw [e1] at hwl
          have c1 : wr.cell? ⟨w.heap.size, 4, none⟩ = some (.int .i64 o.of) := blk_cell HO.out
          have c4 : wr.cell? ⟨gl, 4, none⟩ = some (.int .i64 ok.of) := blk_cell HL.out
          have f4 : wr.frozen? ⟨gl, 4, none⟩ = false := blk_free HL.out
          have S4 := hidden (HS.out.setNew (p := ⟨gl, 4, none⟩) (by simp; omega) (.int .i64 0))
          cases hm : mayN o.of
          · have HNo := hidden (show prt o = none by rw [HPt.out, HPn.out (by rw [hDb.2]; exact hm)])
            rcases may_no hm with g1 | ⟨g1, g2⟩
            · have d1 : decide (o.of < -999999999999999999) = true := decide_eq_true g1
              clear HPy HPn hDb hwl hm g1
              go_wp2
              go_returns
              exact ⟨by rw [HNo.out]; rfl, S4.out⟩
            · have d1 : decide (o.of < -999999999999999999) = false := decide_eq_false g1
              have d2 : decide (999999999999999999 < o.of) = true := decide_eq_true g2
              clear HPy HPn hDb hwl hm g1 g2
              go_wp2
              go_returns
              exact ⟨by rw [HNo.out]; rfl, S4.out⟩
          · obtain ⟨g1, g2⟩ := may_yes hm
            have d1 : decide (o.of < -999999999999999999) = false := decide_eq_false g1
            have d2 : decide (999999999999999999 < o.of) = false := decide_eq_false g2
            have hy := HPy.out (by rw [hDb.2]; exact hm)
            rw [hDb.1] at hy
            have HP2 := hidden hy
            have HN1 := hidden (HNb.out o.of HOk.out.of.1 HOk.out.of.2)
            have s1 : ∀ W : World, (Op.stringOp .add ⟨#[32]⟩ (BA (Lib.itoa o.of))).run Tryd.prog W = .ok (.string (BA (32 :: Lib.itoa o.of))) W := fun W => HAdd.out [32] (Lib.itoa o.of) W (by simp; omega)
            have s2 : ∀ W : World, (Op.stringOp .add (BA J) (BA (32 :: Lib.itoa o.of))).run Tryd.prog W = .ok (.string (BA (J ++ 32 :: Lib.itoa o.of))) W := fun W => HAdd.out J (32 :: Lib.itoa o.of) W (by simp; omega)
            have HJ2 := hidden (HE.out (Lib.itoa o.of))
            obtain ⟨y3, hy3⟩ : ∃ y3, y3 = BA (J ++ 32 :: Lib.itoa o.of) := ⟨_, rfl⟩
            rw [← hy3] at s2
            have HY3 := hidden hy3
            have L5 := hidden (bare_set HL.out 79 4 (.int .i64 0) rfl)
            have O5 := hidden (opb_kept HO.out ((Kept.refl (fun q => q = gl) wr).setCell (p := ⟨gl, 4, none⟩) rfl (.int .i64 0)) hglw)
            have R5 := hidden (own_kept HR.out ((Kept.refl (fun q => q = gl) wr).setCell (p := ⟨gl, 4, none⟩) rfl (.int .i64 0)) (fun q hq e => own_apart HR.out HL.out (by decide) (by have e' : q = gl := e; rw [hq, e'])))
            clear hy3 hy hDb hwl e1 e2 hcd HPn HPy hm g1 g2
            generalize BA (32 :: Lib.itoa o.of) = y2 at *
            generalize BA (Lib.itoa o.of) = yn at *
            go_wp2_with (go_at_call 27; refine (HN1.out _).mono ?_; rintro e w6 ⟨rfl, k6⟩; have K6 := hidden k6; clear k6)
            go_roundw
            case rel => exact ⟨k + 1, ok.clr 79, ws ++ [Lib.itoa o.of], by rw [HY3.out, ← HJ2.out]; rfl, by go_num, by omega, HP2.out, HD2.out, opb_kept L5.out K6.out (fun h => h), opb_kept O5.out K6.out (fun h => h), own_kept R5.out K6.out (fun _ _ h => h), S4.out.trans K6.out⟩
            case measure => simp [intOf]; omega
        · have hcd : cd 78 = 3 := rfl
          rw [hcd] at hcC
          have e1 : o.wd 78 = Lib.itoa o.nn := rfl
          have e2 : o.may 78 = mayN o.nn := rfl
          rw [e1, e2] at hDb
          rw [e1] at hwl
          have c1 : wr.cell? ⟨w.heap.size, 5, none⟩ = some (.int .i64 o.nn) := blk_cell HO.out
          have c4 : wr.cell? ⟨gl, 5, none⟩ = some (.int .i64 ok.nn) := blk_cell HL.out
          have f4 : wr.frozen? ⟨gl, 5, none⟩ = false := blk_free HL.out
          have S4 := hidden (HS.out.setNew (p := ⟨gl, 5, none⟩) (by simp; omega) (.int .i64 0))
          cases hm : mayN o.nn
          · have HNo := hidden (show prt o = none by rw [HPt.out, HPn.out (by rw [hDb.2]; exact hm)])
            rcases may_no hm with g1 | ⟨g1, g2⟩
            · have d1 : decide (o.nn < -999999999999999999) = true := decide_eq_true g1
              clear HPy HPn hDb hwl hm g1
              go_wp2
              go_returns
              exact ⟨by rw [HNo.out]; rfl, S4.out⟩
            · have d1 : decide (o.nn < -999999999999999999) = false := decide_eq_false g1
              have d2 : decide (999999999999999999 < o.nn) = true := decide_eq_true g2
              clear HPy HPn hDb hwl hm g1 g2
              go_wp2
              go_returns
              exact ⟨by rw [HNo.out]; rfl, S4.out⟩
          · obtain ⟨g1, g2⟩ := may_yes hm
            have d1 : decide (o.nn < -999999999999999999) = false := decide_eq_false g1
            have d2 : decide (999999999999999999 < o.nn) = false := decide_eq_false g2
            have hy := HPy.out (by rw [hDb.2]; exact hm)
            rw [hDb.1] at hy
            have HP2 := hidden hy
            have HN1 := hidden (HNb.out o.nn HOk.out.nn.1 HOk.out.nn.2)
            have s1 : ∀ W : World, (Op.stringOp .add ⟨#[32]⟩ (BA (Lib.itoa o.nn))).run Tryd.prog W = .ok (.string (BA (32 :: Lib.itoa o.nn))) W := fun W => HAdd.out [32] (Lib.itoa o.nn) W (by simp; omega)
            have s2 : ∀ W : World, (Op.stringOp .add (BA J) (BA (32 :: Lib.itoa o.nn))).run Tryd.prog W = .ok (.string (BA (J ++ 32 :: Lib.itoa o.nn))) W := fun W => HAdd.out J (32 :: Lib.itoa o.nn) W (by simp; omega)
            have HJ2 := hidden (HE.out (Lib.itoa o.nn))
            obtain ⟨y3, hy3⟩ : ∃ y3, y3 = BA (J ++ 32 :: Lib.itoa o.nn) := ⟨_, rfl⟩
            rw [← hy3] at s2
            have HY3 := hidden hy3
            have L5 := hidden (bare_set HL.out 78 5 (.int .i64 0) rfl)
            have O5 := hidden (opb_kept HO.out ((Kept.refl (fun q => q = gl) wr).setCell (p := ⟨gl, 5, none⟩) rfl (.int .i64 0)) hglw)
            have R5 := hidden (own_kept HR.out ((Kept.refl (fun q => q = gl) wr).setCell (p := ⟨gl, 5, none⟩) rfl (.int .i64 0)) (fun q hq e => own_apart HR.out HL.out (by decide) (by have e' : q = gl := e; rw [hq, e'])))
            clear hy3 hy hDb hwl e1 e2 hcd HPn HPy hm g1 g2
            generalize BA (32 :: Lib.itoa o.nn) = y2 at *
            generalize BA (Lib.itoa o.nn) = yn at *
            go_wp2_with (go_at_call 27; refine (HN1.out _).mono ?_; rintro e w6 ⟨rfl, k6⟩; have K6 := hidden k6; clear k6)
            go_roundw
            case rel => exact ⟨k + 1, ok.clr 78, ws ++ [Lib.itoa o.nn], by rw [HY3.out, ← HJ2.out]; rfl, by go_num, by omega, HP2.out, HD2.out, opb_kept L5.out K6.out (fun h => h), opb_kept O5.out K6.out (fun h => h), own_kept R5.out K6.out (fun _ _ h => h), S4.out.trans K6.out⟩
            case measure => simp [intOf]; omega
        · have hcd : cd 70 = 4 := rfl
          rw [hcd] at hcC
          have e1 : o.wd 70 = Lib.itoa o.fl := rfl
          have e2 : o.may 70 = mayN o.fl := rfl
          rw [e1, e2] at hDb
          rw [e1] at hwl
          have c1 : wr.cell? ⟨w.heap.size, 6, none⟩ = some (.int .i64 o.fl) := blk_cell HO.out
          have c4 : wr.cell? ⟨gl, 6, none⟩ = some (.int .i64 ok.fl) := blk_cell HL.out
          have f4 : wr.frozen? ⟨gl, 6, none⟩ = false := blk_free HL.out
          have S4 := hidden (HS.out.setNew (p := ⟨gl, 6, none⟩) (by simp; omega) (.int .i64 0))
          cases hm : mayN o.fl
          · have HNo := hidden (show prt o = none by rw [HPt.out, HPn.out (by rw [hDb.2]; exact hm)])
            rcases may_no hm with g1 | ⟨g1, g2⟩
            · have d1 : decide (o.fl < -999999999999999999) = true := decide_eq_true g1
              clear HPy HPn hDb hwl hm g1
              go_wp2
              go_returns
              exact ⟨by rw [HNo.out]; rfl, S4.out⟩
            · have d1 : decide (o.fl < -999999999999999999) = false := decide_eq_false g1
              have d2 : decide (999999999999999999 < o.fl) = true := decide_eq_true g2
              clear HPy HPn hDb hwl hm g1 g2
              go_wp2
              go_returns
              exact ⟨by rw [HNo.out]; rfl, S4.out⟩
          · obtain ⟨g1, g2⟩ := may_yes hm
            have d1 : decide (o.fl < -999999999999999999) = false := decide_eq_false g1
            have d2 : decide (999999999999999999 < o.fl) = false := decide_eq_false g2
            have hy := HPy.out (by rw [hDb.2]; exact hm)
            rw [hDb.1] at hy
            have HP2 := hidden hy
            have HN1 := hidden (HNb.out o.fl HOk.out.fl.1 HOk.out.fl.2)
            have s1 : ∀ W : World, (Op.stringOp .add ⟨#[32]⟩ (BA (Lib.itoa o.fl))).run Tryd.prog W = .ok (.string (BA (32 :: Lib.itoa o.fl))) W := fun W => HAdd.out [32] (Lib.itoa o.fl) W (by simp; omega)
            have s2 : ∀ W : World, (Op.stringOp .add (BA J) (BA (32 :: Lib.itoa o.fl))).run Tryd.prog W = .ok (.string (BA (J ++ 32 :: Lib.itoa o.fl))) W := fun W => HAdd.out J (32 :: Lib.itoa o.fl) W (by simp; omega)
            have HJ2 := hidden (HE.out (Lib.itoa o.fl))
            obtain ⟨y3, hy3⟩ : ∃ y3, y3 = BA (J ++ 32 :: Lib.itoa o.fl) := ⟨_, rfl⟩
            rw [← hy3] at s2
            have HY3 := hidden hy3
            have L5 := hidden (bare_set HL.out 70 6 (.int .i64 0) rfl)
            have O5 := hidden (opb_kept HO.out ((Kept.refl (fun q => q = gl) wr).setCell (p := ⟨gl, 6, none⟩) rfl (.int .i64 0)) hglw)
            have R5 := hidden (own_kept HR.out ((Kept.refl (fun q => q = gl) wr).setCell (p := ⟨gl, 6, none⟩) rfl (.int .i64 0)) (fun q hq e => own_apart HR.out HL.out (by decide) (by have e' : q = gl := e; rw [hq, e'])))
            clear hy3 hy hDb hwl e1 e2 hcd HPn HPy hm g1 g2
            generalize BA (32 :: Lib.itoa o.fl) = y2 at *
            generalize BA (Lib.itoa o.fl) = yn at *
            go_wp2_with (go_at_call 27; refine (HN1.out _).mono ?_; rintro e w6 ⟨rfl, k6⟩; have K6 := hidden k6; clear k6)
            go_roundw
            case rel => exact ⟨k + 1, ok.clr 70, ws ++ [Lib.itoa o.fl], by rw [HY3.out, ← HJ2.out]; rfl, by go_num, by omega, HP2.out, HD2.out, opb_kept L5.out K6.out (fun h => h), opb_kept O5.out K6.out (fun h => h), own_kept R5.out K6.out (fun _ _ h => h), S4.out.trans K6.out⟩
            case measure => simp [intOf]; omega
      · have q1 : ¬ (k : Int) < (m : Int) := by omega
        have HDn := hidden (HP.out.done (by rw [← HM.out]; omega))
        have HP1 := hidden (show prt o = if ok = OpR.only o.kd then some (jn (NM :: ws)) else none by rw [HPt.out, HDn.out])
        have HKd := hidden HP.out.kd
        have o0 : wr.cell? ⟨gl, 0, none⟩ = some (.int .i64 0) := blk_cell HL.out
        have o1 : wr.cell? ⟨gl, 1, none⟩ = some (.string (BA ok.pa)) := blk_cell HL.out
        have o2 : wr.cell? ⟨gl, 2, none⟩ = some (.string (BA ok.ot)) := blk_cell HL.out
        have o3 : wr.cell? ⟨gl, 3, none⟩ = some (.int .i64 ok.ha) := blk_cell HL.out
        have o4 : wr.cell? ⟨gl, 4, none⟩ = some (.int .i64 ok.of) := blk_cell HL.out
        have o5 : wr.cell? ⟨gl, 5, none⟩ = some (.int .i64 ok.nn) := blk_cell HL.out
        have o6 : wr.cell? ⟨gl, 6, none⟩ = some (.int .i64 ok.fl) := blk_cell HL.out
        have o7 : wr.cell? ⟨gl, 7, none⟩ = some (.string (BA ok.da)) := blk_cell HL.out
        obtain ⟨kd, pa, ot, ha, of, nn, fl, da⟩ := ok
        simp only at o1 o2 o3 o4 o5 o6 o7 HKd
        have hBt : (BA ([] : List UInt8)).toList = [] := toList_BA _
        have hBd : ((BA ([] : List UInt8)).toList == []) = true := by rw [hBt]; rfl
        by_cases gpa : pa = []
        rotate_left
        · have HNo := hidden (show prt o = none by rw [HP1.out, if_neg (fun e => gpa (congrArg OpR.pa e))])
          have dpa : ((BA pa).toList == []) = false := by rw [toList_BA]; simpa using gpa
          have epa : ¬ (BA pa).toList = [] := by rw [toList_BA]; exact gpa
          generalize BA pa = zpa at *
          go_wp2
          go_returns
          exact ⟨by rw [HNo.out]; rfl, HS.out⟩
        subst gpa
        by_cases got : ot = []
        rotate_left
        · have HNo := hidden (show prt o = none by rw [HP1.out, if_neg (fun e => got (congrArg OpR.ot e))])
          have dot : ((BA ot).toList == []) = false := by rw [toList_BA]; simpa using got
          have eot : ¬ (BA ot).toList = [] := by rw [toList_BA]; exact got
          generalize BA ot = zot at *
          go_wp2
          go_returns
          exact ⟨by rw [HNo.out]; rfl, HS.out⟩
        subst got
        by_cases gha : ha = 0
        rotate_left
        · have HNo := hidden (show prt o = none by rw [HP1.out, if_neg (fun e => gha (congrArg OpR.ha e))])
          have dha : (ha == 0) = false := by simpa using gha
          go_wp2
          go_returns
          exact ⟨by rw [HNo.out]; rfl, HS.out⟩
        subst gha
        by_cases gof : of = 0
        rotate_left
        · have HNo := hidden (show prt o = none by rw [HP1.out, if_neg (fun e => gof (congrArg OpR.of e))])
          have dof : (of == 0) = false := by simpa using gof
          go_wp2
          go_returns
          exact ⟨by rw [HNo.out]; rfl, HS.out⟩
        subst gof
        by_cases gnn : nn = 0
        rotate_left
        · have HNo := hidden (show prt o = none by rw [HP1.out, if_neg (fun e => gnn (congrArg OpR.nn e))])
          have dnn : (nn == 0) = false := by simpa using gnn
          go_wp2
          go_returns
          exact ⟨by rw [HNo.out]; rfl, HS.out⟩
        subst gnn
        by_cases gfl : fl = 0
        rotate_left
        · have HNo := hidden (show prt o = none by rw [HP1.out, if_neg (fun e => gfl (congrArg OpR.fl e))])
          have dfl : (fl == 0) = false := by simpa using gfl
          go_wp2
          go_returns
          exact ⟨by rw [HNo.out]; rfl, HS.out⟩
        subst gfl
        by_cases gda : da = []
        rotate_left
        · have HNo := hidden (show prt o = none by rw [HP1.out, if_neg (fun e => gda (congrArg OpR.da e))])
          have dda : ((BA da).toList == []) = false := by rw [toList_BA]; simpa using gda
          have eda : ¬ (BA da).toList = [] := by rw [toList_BA]; exact gda
          generalize BA da = zda at *
          go_wp2
          go_returns
          exact ⟨by rw [HNo.out]; rfl, HS.out⟩
        subst gda
        have HYs := hidden (show prt o = some (jn (NM :: ws)) by rw [HP1.out, if_pos (by rw [← HKd.out]; rfl)])
        go_wp2
        go_returns
        exact ⟨by rw [HYs.out]; rfl, HS.out⟩
  · rw [if_neg hk] at HN
    have HNo := hidden (show prt o = none by unfold prt; rw [if_neg hk])
    have hbn : BA ([] : List UInt8) = ⟨#[]⟩ := rfl
    have hc1 := k0 _ hB0
    rw [hbn] at HN
    clear hB0 k0
    go_enter Tryd.func15, Tryd.ntmps15
    go_wp2_with (go_at_call 25; refine (HN.out _).mono ?_; rintro e w1 ⟨rfl, k1⟩; have K1 := hidden k1; clear k1)
    go_returns
    exact ⟨by rw [HNo.out]; rfl, (same_alloc _ _).trans K1.out⟩
end Go.Proofs.YtndfgpelioipcaaDoor
