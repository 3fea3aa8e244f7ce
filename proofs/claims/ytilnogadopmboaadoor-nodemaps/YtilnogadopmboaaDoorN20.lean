/- node: Remove of a key that a leaf has. (Made by mkn20.py.) -/
import Derived.Test.YtilnogadopmboaaDoorN19
namespace Go.Proofs.YtilnogadopmboaaDoor
open Go.RowKit
set_option linter.unusedVariables false
set_option linter.unusedSimpArgs false
theorem erase_step {α : Type} (l : List α) (i : Nat) {j : Nat} (hj : j < l.length) : (l.take (j + 1)).eraseIdx i = (l.take j).eraseIdx i ++ (if j = i then [] else [l[j]]) := by
  rw [List.take_add_one, List.getElem?_eq_getElem hj]
  simp only [Option.toList_some]
  have hlen : (l.take j).length = j := by rw [List.length_take]; omega
  rcases Nat.lt_trichotomy i j with h | h | h
  · rw [List.eraseIdx_append_of_lt_length (by omega), if_neg (by omega)]
  · subst h
    rw [List.eraseIdx_append_of_length_le (by omega), hlen, if_pos rfl, List.eraseIdx_of_length_le (l := l.take i) (by omega)]
    simp
  · rw [List.eraseIdx_of_length_le (by simp [hlen]; omega), List.eraseIdx_of_length_le (l := l.take j) (by omega), if_neg (by omega)]
/-- Where keys rise, a key that is there is at its place alone. -/
theorem has_at {n : Nd} {key : ByteArray} (hl : n.leaf = true) (h : n.has key = true) : ∃ hi : n.cnt key < n.keys.length, n.keys[n.cnt key] = key := by
  have hlt := Nd.has_lt h
  refine ⟨hlt, ?_⟩
  unfold Nd.has at h
  rw [hl, List.getElem?_eq_getElem hlt] at h
  exact bytes_ext (by simpa using h)
theorem only_at {n : Nd} {key : ByteArray} (hr : rises n.keys = true) (hl : n.leaf = true) (h : n.has key = true) {j : Nat} (hj : j < n.keys.length) (hne : j ≠ n.cnt key) : (n.keys[j].toList == key.toList) = false := by
  obtain ⟨hi, he⟩ := has_at hl h
  rcases Nat.lt_or_ge j (n.cnt key) with h1 | h1
  · obtain ⟨k, hk⟩ : ∃ k, n.cnt key = j + (k + 1) := ⟨n.cnt key - j - 1, by omega⟩
    have := rises_lt hr k j (by omega)
    simp only [← hk, he] at this
    exact (lt_yes this).2.2.2
  · obtain ⟨k, hk⟩ : ∃ k, j = n.cnt key + (k + 1) := ⟨j - n.cnt key - 1, by omega⟩
    subst hk
    have := rises_lt hr k (n.cnt key) hj
    rw [he] at this
    exact (lt_yes this).2.2.1
theorem lies_one (W : World) (t : TypeId) (v : Value) : Lies (W.alloc (.cells #[v] t)) (some ⟨W.heap.size, 0, none⟩) 1 [v] := fun _ => ⟨_, rfl, fun j u hj => by
  rw [add_none, Nat.zero_add, cell_of_row _ _ _ _ _ _ (heap_alloc_new W _)]
  simpa using hj⟩
structure RmP (w : World) (n : Nd) (t : Bool) (u : Value) (W : World) : Prop where
  out : ∃ v, u = .tuple #[v, .bool t] ∧ NF w.heap.size W v n ∧ Same w W
set_option maxHeartbeats 4000000 in
set_option maxRecDepth 100000 in
theorem remove_yes (n : Nd) (a1 a2 a3 : Option Addr) (k1 c1 k2 c2 k3 c3 : Nat) (key : ByteArray) (w : World) (r1 : Row w (.slice a1 k1 c1) (TS n.keys)) (r2 : Row w (.slice a2 k2 c2) (TS n.vals)) (r3 : Row w (.slice a3 k3 c3) (IS n.kids)) (hb : n.Bd) (hbig : n.keys.length ≤ 8796093022206) (hl : n.leaf = true) (hls : n.lists = true) (hr : rises n.keys = true) (hh : n.has key = true) :
    Calls Tryd.prog 25 #[.agg #[.bool n.leaf, .slice a1 k1 c1, .slice a2 k2 c2, .slice a3 k3 c3], .string key] w fun e w' => ∃ u, e = .returned u ∧ RmP w ⟨true, n.keys.eraseIdx (n.cnt key), n.vals.eraseIdx (n.cnt key), []⟩ true u w' := by
  obtain ⟨i0, hi, hz0, hz1, hz2⟩ := info_parts infoS
  have hkv : n.vals.length = n.keys.length := by
    unfold Nd.lists at hls
    rw [hl] at hls
    simp at hls
    exact hls.1
  have HLs := hidden (fun W (k : Same w W) => mayLists_any n a1 a2 a3 k1 c1 k2 c2 k3 c3 W (r1.same k) (r2.same k) (r3.same k) hb)
  have HCo := hidden (fun W (k : Same w W) => contains_any key n.keys a1 k1 c1 W (r1.same k) hb.k)
  have hany : n.keys.any (fun x => x.toList == key.toList) = true := by
    obtain ⟨hi, he⟩ := has_at hl hh
    exact List.any_eq_true.2 ⟨n.keys[n.cnt key], List.getElem_mem _, by rw [he]; simp⟩
  have HON := hidden (fun j (hj : j < n.keys.length) (hne : j ≠ n.cnt key) => only_at hr hl hh hj hne)
  have HAT := hidden (has_at hl hh)
  rw [hls] at HLs
  rw [hany] at HCo
  rw [hl] at HLs ⊢
  have E1 := hidden r1.tl
  have E2 := hidden r2.tl
  have R1 := hidden r1
  have R2 := hidden r2
  have HKV := hidden hkv
  have hk12 : k2 = k1 := by rw [← E1.out, ← E2.out]; exact hkv
  have HK12 := hidden hk12
  have hb1 : k1 ≤ 8796093022206 := by rw [← E1.out]; exact hbig
  have K0 : Hid (Same w ((w.alloc (.cells #[.bool true, .slice a1 k1 c1, .slice a2 k2 c2, .slice a3 k3 c3] 25)).alloc (.cells #[.bool false, .slice none 0 0, .slice none 0 0, .slice none 0 0] 25))) := hidden (((Kept.refl _ w).alloc _).alloc _)
  clear r1 r2 r3 hb hbig hls hr hl hany hkv hk12 hh
  generalize n.cnt key = ci at *
  go_enter Tryd.func25, Tryd.ntmps25
  go_wp2_with (first
    | (go_at_call 51; refine (HLs.out _ K0.out).mono ?_; rintro e w1 ⟨rfl, q1⟩; have g0 : w1.heap[w.heap.size]? = some (.cells #[.bool true, .slice a1 k1 c1, .slice a2 k2 c2, .slice a3 k3 c3] 25 (0, 0)) := blk_kept q1 (fun h => h) (box_blk _ _ _); have g1 : w1.heap[w.heap.size + 1]? = some (.cells #[.bool false, .slice none 0 0, .slice none 0 0, .slice none 0 0] 25 (0, 0)) := blk_kept q1 (fun h => h) (zero_blk _ _); have xc0 : w1.cell? ⟨w.heap.size, 0, none⟩ = some (.bool true) := blk_cell g0; have xc1 : w1.cell? ⟨w.heap.size, 1, none⟩ = some (.slice a1 k1 c1) := blk_cell g0; have xc2 : w1.cell? ⟨w.heap.size, 2, none⟩ = some (.slice a2 k2 c2) := blk_cell g0; have xc3 : w1.cell? ⟨w.heap.size, 3, none⟩ = some (.slice a3 k3 c3) := blk_cell g0; have G0 := hidden g0; have G1 := hidden g1; have K1 := hidden (K0.out.trans q1); clear q1 g0 g1)
    | (go_at_call 52; refine (HCo.out _ K1.out).mono ?_; rintro e w2 ⟨rfl, q2⟩; have g0 := blk_kept q2 (fun h => h) G0.out; have g1 := blk_kept q2 (fun h => h) G1.out; have H0 := hidden g0; have H1 := hidden g1; have K2 := hidden (K1.out.trans q2); have yc0 : w2.cell? ⟨w.heap.size, 0, none⟩ = some (.bool true) := blk_cell g0; have yc1 : w2.cell? ⟨w.heap.size, 1, none⟩ = some (.slice a1 k1 c1) := blk_cell g0; have yc2 : w2.cell? ⟨w.heap.size, 2, none⟩ = some (.slice a2 k2 c2) := blk_cell g0; have yc3 : w2.cell? ⟨w.heap.size, 3, none⟩ = some (.slice a3 k3 c3) := blk_cell g0; have y9 : (w2.alloc (.cells #[.bool true, .slice none 0 0, .slice none 0 0, .slice none 0 0] 25)).cell? ⟨w.heap.size, 1, none⟩ = some (.slice a1 k1 c1) := blk_cell (blk_alloc g0 _); clear q2 g0 g1))

  obtain ⟨W3, hW3⟩ : ∃ W3, W3 = w2.alloc (.cells #[.bool true, .slice none 0 0, .slice none 0 0, .slice none 0 0] 25) := ⟨_, rfl⟩
  have j0 := blk_alloc H0.out (.cells #[.bool true, .slice none 0 0, .slice none 0 0, .slice none 0 0] 25)
  have j1 := blk_alloc H1.out (.cells #[.bool true, .slice none 0 0, .slice none 0 0, .slice none 0 0] 25)
  have j2 := blk_new w2 (.cells #[.bool true, .slice none 0 0, .slice none 0 0, .slice none 0 0] 25)
  have jk := K2.out.alloc (.cells #[.bool true, .slice none 0 0, .slice none 0 0, .slice none 0 0] 25)
  rw [← hW3] at j0 j1 j2 jk ⊢
  have hB2 : w.heap.size + 1 < w2.heap.size := blk_lt H1.out
  have hB3 : W3.heap.size = w2.heap.size + 1 := by rw [hW3]; simp
  have J0 := hidden j0
  have J1 := hidden j1
  have J2 := hidden j2
  have JK := hidden jk
  clear hW3 j0 j1 j2 jk y9
  generalize w2.heap.size = B2 at *
  go_loopw [30] (fun iv wr => ∃ (j m : Nat) (ka va : Option Addr) (kc vc : Nat), iv = .int .i64 j ∧ j ≤ k1 ∧ m ≤ j ∧ m = ((n.keys.take j).eraseIdx ci).length ∧ m = ((n.vals.take j).eraseIdx ci).length ∧ wr.ownsRow (B2 + 1) 9 1 (.slice ka m kc) m (TS ((n.keys.take j).eraseIdx ci)) ∧ wr.ownsRow (B2 + 1) 9 1 (.slice va m vc) m (TS ((n.vals.take j).eraseIdx ci)) ∧ (∀ k, (Value.slice ka m kc).ownBlock = some k → (Value.slice va m vc).ownBlock ≠ some k) ∧ wr.heap[B2]? = some (.cells #[.bool true, .slice ka m kc, .slice va m vc, .slice none 0 0] 25 (0, 0)) ∧ wr.heap[w.heap.size]? = some (.cells #[.bool true, .slice a1 k1 c1, .slice a2 k2 c2, .slice a3 k3 c3] 25 (0, 0)) ∧ wr.heap[w.heap.size + 1]? = some (.cells #[.bool false, .slice none 0 0, .slice none 0 0, .slice none 0 0] 25 (0, 0)) ∧ Same w wr ∧ B2 + 1 ≤ wr.heap.size) (fun i _ => k1 - (intOf i).toNat)
  case atStart => exact ⟨0, 0, none, none, 0, 0, rfl, Nat.zero_le _, Nat.le_refl _, rfl, rfl, World.ownsRow_nil _ _ _ _, World.ownsRow_nil _ _ _ _, (fun k h => by cases h), J2.out, J0.out, J1.out, JK.out, by omega⟩
  case round =>
    obtain ⟨j, m, ka, va, kc, vc, rfl, hj, hmj, hm1, hm2, ho1, ho2, hap, hbl, hb0', hb1', hsm, hsz⟩ := hrel
    have HM1 := hidden hm1
    have HM2 := hidden hm2
    have HO1 := hidden ho1
    have HO2 := hidden ho2
    have HAP := hidden hap
    have HBL := hidden hbl
    have HB0 := hidden hb0'
    have HB1 := hidden hb1'
    have HSM := hidden hsm
    clear hm1 hm2 ho1 ho2 hap hbl hb0' hb1' hsm
    by_cases hlt : j < k1
    · have hil : j < n.keys.length := by rw [E1.out]; exact hlt
      have hiv : j < n.vals.length := by rw [HKV.out]; exact hil
      obtain ⟨b, off, hab, hc⟩ := (R1.out.same HSM.out).text hil
      subst hab
      have es1 := erase_step n.keys ci hil
      have es2 := erase_step n.vals ci hiv
      obtain ⟨x, hx⟩ : ∃ x, n.keys[j] = x := ⟨_, rfl⟩
      obtain ⟨y, hy⟩ : ∃ y, n.vals[j] = y := ⟨_, rfl⟩
      have q0 : (0 : Int) ≤ (j : Int) := Int.natCast_nonneg _
      have q1 : (j : Int) < (k1 : Int) := by omega
      by_cases hjc : j = ci
      · rw [if_pos hjc, List.append_nil] at es1 es2
        have hxk : (x.toList == key.toList) = true := by
          obtain ⟨hci, he⟩ := HAT.out
          subst hjc
          rw [← hx, he]
          simp
        have hxk2 : (x.toList != key.toList) = false := by simp [bne, hxk]
        have ES1 := hidden es1
        have ES2 := hidden es2
        rw [hx] at hc
        clear es1 es2 hx hy hjc
        go_wp2
        go_roundw
        case rel => exact ⟨j + 1, m, ka, va, kc, vc, by go_num, by omega, by omega, by rw [ES1.out]; exact HM1.out, by rw [ES2.out]; exact HM2.out, by rw [ES1.out]; exact HO1.out, by rw [ES2.out]; exact HO2.out, HAP.out, HBL.out, HB0.out, HB1.out, HSM.out, hsz⟩
        case measure => simp [intOf]; omega
      · rw [if_neg hjc] at es1 es2
        have hxk : (x.toList == key.toList) = false := by rw [← hx]; exact HON.out j hil hjc
        have hxk2 : (x.toList != key.toList) = true := by simp [bne, hxk]
        rw [hx] at hc es1
        rw [hy] at es2
        have ES1 := hidden es1
        have ES2 := hidden es2
        have HY := hidden hy
        clear es1 es2 hx hjc
        have z1 : wr.cell? ⟨B2, 1, none⟩ = some (.slice ka m kc) := blk_cell HBL.out
        have t1 : True := trivial
        go_wp2_with (have _t := t1; refine wpList_append_where rfl _ _ 22 rfl (B2 + 1) 9 i0 (.string ⟨#[]⟩) 1 16 Tryd.underlying22 hi hz0 hz1 hz2 rfl (by decide) ka m kc _ rfl (HO1.out.alloc _) (some ⟨wr.heap.size, 0, none⟩) 1 1 [.string x] rfl rfl (lies_one _ _ _) (by simp [Value.oneCell']) (by unfold maxLen; omega) (by omega) (by simp; omega) ?_; intro ka' kc' w4 ho hg hw; clear t1; have kg : Kept (fun k => (Value.slice ka m kc).ownBlock = some k) wr w4 := ((Kept.refl _ wr).alloc _).grown hg (fun k e _ => e); have b2 := blk_kept kg (fun e => by have := own_geN HO1.out _ e; omega) HBL.out; have b0' := blk_kept kg (fun e => by have := own_geN HO1.out _ e; omega) HB0.out; have b1' := blk_kept kg (fun e => by have := own_geN HO1.out _ e; omega) HB1.out; have p2 := own_kept HO2.out kg (fun k hk hs => HAP.out k hs hk); have iap : ∀ k, (Value.slice ka' (m + 1) kc').ownBlock = some k → (Value.slice va m vc).ownBlock ≠ some k := (fun k hk h2 => by rcases hw k hk with h3 | h3; (exact HAP.out k h3 h2); (have h4 := own_ltN HO2.out k h2; simp at h3; omega)); have sm := HSM.out.trans' kg (fun i hi hs => by have := own_geN HO1.out _ hs; have := JK.out.size; omega); have wc1 : w4.cell? ⟨B2, 1, none⟩ = some (.slice ka m kc) := blk_cell b2; have wf1 : w4.frozen? ⟨B2, 1, none⟩ = false := blk_free b2; have ks : Kept (only B2) w4 (w4.setCell ⟨B2, 1, none⟩ (.slice ka' (m + 1) kc')) := (Kept.refl (only B2) w4).setCell (p := ⟨B2, 1, none⟩) rfl _; have g2 : (w4.setCell ⟨B2, 1, none⟩ (.slice ka' (m + 1) kc')).heap[B2]? = some (.cells #[.bool true, .slice ka' (m + 1) kc', .slice va m vc, .slice none 0 0] 25 (0, 0)) := blk_set b2 _; have g0 := blk_kept ks (by show ¬ w.heap.size = B2; omega) b0'; have g1 := blk_kept ks (by show ¬ w.heap.size + 1 = B2; omega) b1'; have u1 := own_kept ho ks (fun k hk hs => by have h1 := own_geN ho k hk; have h2 : k = B2 := hs; omega); have u2 := own_kept p2 ks (fun k hk hs => by have h1 := own_geN p2 k hk; have h2 : k = B2 := hs; omega); have sm2 := sm.setNew (p := ⟨B2, 1, none⟩) (by show w.heap.size ≤ B2; omega) (.slice ka' (m + 1) kc'); have hv9 := (R2.out.same sm2).text hiv; have d2 : (w4.setCell ⟨B2, 1, none⟩ (.slice ka' (m + 1) kc')).cell? ⟨B2, 2, none⟩ = some (.slice va m vc) := blk_cell g2; have d3 : (w4.setCell ⟨B2, 1, none⟩ (.slice ka' (m + 1) kc')).cell? ⟨w.heap.size, 2, none⟩ = some (.slice a2 k2 c2) := blk_cell g0; have G2 := hidden g2; have G0' := hidden g0; have G1' := hidden g1; have U1 := hidden u1; have U2 := hidden u2; have SM2 := hidden sm2; have IAP := hidden iap; have hz4 : wr.heap.size ≤ w4.heap.size := kg.size; have HV9 := hidden hv9; clear ho hg hw kg b2 b0' b1' p2 iap sm ks g2 g0 g1 u1 u2 sm2 hv9)
        obtain ⟨bv, offv, hav, hcv⟩ := HV9.out
        subst hav
        rw [HY.out] at hcv
        have hjk2 : (j : Int) < (k2 : Int) := by have := HK12.out; omega
        have U2d := hidden (U2.out.drew)
        obtain ⟨S1, hS1⟩ : ∃ S1, S1 = (w4.setCell ⟨B2, 1, none⟩ (.slice ka' (m + 1) kc')) := ⟨_, rfl⟩
        rw [← hS1] at d2 d3 hcv ⊢
        have G2s := G2.out
        have G0s := G0'.out
        have G1s := G1'.out
        have U1s := U1.out
        have U2s := U2.out
        have SMs := SM2.out
        have hzs : S1.heap.size = w4.heap.size := by rw [hS1]; simp [World.setCell]
        rw [← hS1] at G2s G0s G1s U1s U2s SMs
        have X2 := hidden G2s
        have X0 := hidden G0s
        have X1 := hidden G1s
        have V1 := hidden U1s
        have V2 := hidden U2s
        have VS := hidden SMs
        clear hS1 G2 G0' G1' U1 U2 SM2 G2s G0s G1s U1s U2s SMs U2d HV9
        have d2a : (S1.alloc (.cells #[.string y] 9)).cell? ⟨B2, 2, none⟩ = some (.slice va m vc) := blk_cell (blk_alloc X2.out _)
        go_region_law (refine step_append_where rfl _ _ 22 rfl (B2 + 1) 9 i0 (.string ⟨#[]⟩) 1 16 Tryd.underlying22 hi hz0 hz1 hz2 rfl (by decide) va m vc _ (by simp [Act.eval, Act.put]) ((V2.out.alloc _).drew) (some ⟨S1.heap.size, 0, none⟩) 1 1 [.string y] (by simp [Act.eval, Act.put]) rfl (fun h => lies_one S1 _ _ h) (by simp [Value.oneCell']) (by unfold maxLen; omega) (by omega) (by simp; omega) ?_; intro va' vc' w5 ho hg hw; have kg : Kept (fun k => (Value.slice va m vc).ownBlock = some k) S1 w5 := (((Kept.refl _ S1).alloc _).drew).grown hg (fun k e _ => e); have b2 := blk_kept kg (fun e => by have := own_geN V2.out _ e; omega) X2.out; have e2 : w5.cell? ⟨B2, 2, none⟩ = some (.slice va m vc) := blk_cell b2; have e2f : w5.frozen? ⟨B2, 2, none⟩ = false := blk_free b2; have Y2 := hidden b2; have KG := hidden kg; have HO5 := hidden ho; have HW5 := hidden hw; clear ho hg hw kg b2)
        all_goals
          have kg := KG.out
          have b0' := blk_kept kg (fun e => by have := own_geN V2.out _ e; omega) X0.out
          have b1' := blk_kept kg (fun e => by have := own_geN V2.out _ e; omega) X1.out
          have p1 := own_kept V1.out kg (fun k hk hs => IAP.out k hk hs)
          have jap : ∀ k, (Value.slice ka' (m + 1) kc').ownBlock = some k → (Value.slice va' (m + 1) vc').ownBlock ≠ some k := (fun k hk h2 => by
            rcases HW5.out k h2 with h3 | h3
            · exact IAP.out k hk h3
            · have h4 := own_ltN V1.out k hk
              simp at h3
              omega)
          have sm := VS.out.trans' kg (fun i hi hs => by have := own_geN V2.out _ hs; omega)
          have ks : Kept (only B2) w5 (w5.setCell ⟨B2, 2, none⟩ (.slice va' (m + 1) vc')) := (Kept.refl (only B2) w5).setCell (p := ⟨B2, 2, none⟩) rfl _
          have g2 : (w5.setCell ⟨B2, 2, none⟩ (.slice va' (m + 1) vc')).heap[B2]? = some (.cells #[.bool true, .slice ka' (m + 1) kc', .slice va' (m + 1) vc', .slice none 0 0] 25 (0, 0)) := blk_set Y2.out _
          have g0 := hidden (blk_kept ks (by show ¬ w.heap.size = B2; omega) b0')
          have g1 := hidden (blk_kept ks (by show ¬ w.heap.size + 1 = B2; omega) b1')
          have u1 := hidden (own_kept p1 ks (fun k hk hs => by have h1 := own_geN p1 k hk; have h2 : k = B2 := hs; omega))
          have u2 := hidden (own_kept HO5.out ks (fun k hk hs => by have h1 := own_geN HO5.out k hk; have h2 : k = B2 := hs; omega))
          have sm2 := hidden (sm.setNew (p := ⟨B2, 2, none⟩) (by show w.heap.size ≤ B2; omega) (.slice va' (m + 1) vc'))
          have JAP := hidden jap
          have G2 := hidden g2
          have hz5 : S1.heap.size ≤ w5.heap.size := kg.size
          have hz6 := ks.size
          clear kg b0' b1' p1 jap sm ks g2
          go_wp2
          go_roundw
          case rel =>
            refine ⟨j + 1, m + 1, ka', va', kc', vc', by go_num, by omega, by omega, ?_, ?_, ?_, ?_, JAP.out, G2.out, g0.out, g1.out, sm2.out, by omega⟩
            · rw [ES1.out, List.length_append, ← HM1.out]; rfl
            · rw [ES2.out, List.length_append, ← HM2.out]; rfl
            · have h9 := u1.out
              rw [ES1.out]
              simpa [TS] using h9
            · have h9 := u2.out
              rw [ES2.out]
              simpa [TS] using h9
          case measure => simp [intOf]; omega
    · obtain rfl : j = k1 := by omega
      have q1 : ¬ (j : Int) < (j : Int) := by omega
      have f1 : n.keys.take j = n.keys := by rw [← E1.out, List.take_length]
      have f2 : n.vals.take j = n.vals := by rw [← E1.out, ← HKV.out, List.take_length]
      rw [f1] at HM1 HO1
      rw [f2] at HM2 HO2
      have l0 := HBL.out
      have lc0 : wr.cell? ⟨B2, 0, none⟩ = some (.bool true) := blk_cell l0
      have lc1 : wr.cell? ⟨B2, 1, none⟩ = some (.slice ka m kc) := blk_cell l0
      have lc2 : wr.cell? ⟨B2, 2, none⟩ = some (.slice va m vc) := blk_cell l0
      have lc3 : wr.cell? ⟨B2, 3, none⟩ = some (.slice none 0 0) := blk_cell l0
      have l1 := HB1.out
      have sc0 : wr.cell? ⟨w.heap.size + 1, 0, none⟩ = some (.bool false) := blk_cell l1
      have sf0 : wr.frozen? ⟨w.heap.size + 1, 0, none⟩ = false := blk_free l1
      have sc1 : wr.cell? ⟨w.heap.size + 1, 1, none⟩ = some (.slice none 0 0) := blk_cell l1
      have sf1 : wr.frozen? ⟨w.heap.size + 1, 1, none⟩ = false := blk_free l1
      have sc2 : wr.cell? ⟨w.heap.size + 1, 2, none⟩ = some (.slice none 0 0) := blk_cell l1
      have sf2 : wr.frozen? ⟨w.heap.size + 1, 2, none⟩ = false := blk_free l1
      have sc3 : wr.cell? ⟨w.heap.size + 1, 3, none⟩ = some (.slice none 0 0) := blk_cell l1
      have sf3 : wr.frozen? ⟨w.heap.size + 1, 3, none⟩ = false := blk_free l1
      clear l0 l1 f1 f2
      go_wp2
      have gf := fill4 HB1.out (.bool true) (.slice ka m kc) (.slice va m vc) (.slice none 0 0)
      have kf := kept_fill4 (W := wr) (g := w.heap.size + 1) (.bool true) (.slice ka m kc) (.slice va m vc) (.slice none 0 0)
      have sf := same_fill4 HSM.out (g := w.heap.size + 1) (by omega) (.bool true) (.slice ka m kc) (.slice va m vc) (.slice none 0 0)
      generalize ((((wr.setCell ⟨w.heap.size + 1, 0, none⟩ (.bool true)).setCell ⟨w.heap.size + 1, 1, none⟩ (.slice ka m kc)).setCell ⟨w.heap.size + 1, 2, none⟩ (.slice va m vc)).setCell ⟨w.heap.size + 1, 3, none⟩ (.slice none 0 0)) = WF at gf kf sf ⊢
      have pc0 : WF.cell? ⟨w.heap.size + 1, 0, none⟩ = some (.bool true) := blk_cell gf
      have pc1 : WF.cell? ⟨w.heap.size + 1, 1, none⟩ = some (.slice ka m kc) := blk_cell gf
      have pc2 : WF.cell? ⟨w.heap.size + 1, 2, none⟩ = some (.slice va m vc) := blk_cell gf
      have pc3 : WF.cell? ⟨w.heap.size + 1, 3, none⟩ = some (.slice none 0 0) := blk_cell gf
      refine bodyPost_ret (v := .tuple #[.agg #[.bool true, .slice ka m kc, .slice va m vc, .slice none 0 0], .bool true]) (by simp [results, Tryd.results25, go_sem, pc0, pc1, pc2, pc3]) rfl ⟨_, rfl, ⟨⟨.agg #[.bool true, .slice ka m kc, .slice va m vc, .slice none 0 0], rfl, ⟨ka, va, none, kc, vc, 0, ?_, ?_, ?_, World.ownsRow_nil _ _ _ _, ?_⟩, sf⟩⟩⟩
      · rw [← HM1.out, ← HM2.out]; rfl
      · rw [← HM1.out]; exact own_mono (own_kept HO1.out kf (fun k hk hs => by have h1 := own_geN HO1.out k hk; have h2 : k = w.heap.size + 1 := hs; omega)) (by omega)
      · rw [← HM2.out]; exact own_mono (own_kept HO2.out kf (fun k hk hs => by have h1 := own_geN HO2.out k hk; have h2 : k = w.heap.size + 1 := hs; omega)) (by omega)
      · rw [← HM1.out, ← HM2.out]; exact HAP.out
end Go.Proofs.YtilnogadopmboaaDoor
