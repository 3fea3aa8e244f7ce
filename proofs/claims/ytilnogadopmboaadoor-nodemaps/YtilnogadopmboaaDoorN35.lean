/- node: NodeMaps walked. -/
import Derived.Test.YtilnogadopmboaaDoorN34
namespace Go.Proofs.YtilnogadopmboaaDoor
open Go.RowKit
set_option linter.unusedVariables false
set_option linter.unusedSimpArgs false
theorem fill_own {W : World} {B g n : Nat} {e : TypeId} {v : Value} {xs : List Value} {z0 z1 z2 z3 : Value} (h : W.ownsRow B e 1 v n xs) (hb : W.heap[g]? = some (.cells #[z0, z1, z2, z3] 25 (0, 0))) (he : e ≠ 25) (y0 y1 y2 y3 : Value) : ((((W.setCell ⟨g, 0, none⟩ y0).setCell ⟨g, 1, none⟩ y1).setCell ⟨g, 2, none⟩ y2).setCell ⟨g, 3, none⟩ y3).ownsRow B e 1 v n xs :=
  own_kept h (kept_fill4 y0 y1 y2 y3) (fun k hk hs => own_apart h hb he (by have e' : k = g := hs; rw [← e']; exact hk))
set_option maxHeartbeats 8000000 in
set_option maxRecDepth 100000 in
theorem maps_walk (oa : Option Addr) (N oc : Nat) (f : Nat → Op9) (w : World) (hv : MOps w (.slice oa N oc) N f) (hn : N * 40 ≤ 140737488351232) (hT : Tab w) :
    Calls Tryd.prog 7 #[.slice oa N oc] w fun e w' => e = .returned (.bool true) ∧ Same w w' := by
  have HT := hidden hT
  have HV := hidden hv
  clear hT hv
  go_enter Tryd.func7, Tryd.ntmps7
  go_wp2_with (go_at_call 11; refine (lives_any _ HT.out).mono ?_; rintro e w1 ⟨rfl, q⟩; have K1 := hidden q; clear q)
  go_loopw [4, 5, 6] (fun ks vs i wr => ∃ (i' : Nat) (m : Nd) (a1 a2 a3 ka va : Option Addr) (k c1 c2 c3 kc vc : Nat), i = .int .i64 i' ∧ ks = .slice ka k kc ∧ vs = .slice va k vc ∧ i' ≤ N ∧ k ≤ i' ∧ MI w w1.heap.size m m.keys m.vals a1 a2 a3 ka va k c1 c2 c3 kc vc wr) (fun _ _ i _ => N - (intOf i).toNat)
  case atStart => exact ⟨0, ⟨true, [], [], []⟩, none, none, none, none, none, 0, 0, 0, 0, 0, 0, rfl, rfl, rfl, Nat.zero_le _, Nat.le_refl _, ⟨good_none, rfl, blk_new _ _, Row.nil _, Row.nil _, Row.nil _, World.ownsRow_nil _ _ _ _, World.ownsRow_nil _ _ _ _, (fun g h => by cases h), K1.out.alloc _, K1.out.size⟩⟩
  case round =>
    obtain ⟨i, m, a1, a2, a3, ka, va, k, c1, c2, c3, kc, vc, rfl, rfl, rfl, hi, hk, hM⟩ := hrel
    obtain ⟨wo, hwo⟩ : ∃ wo, wo = wr := ⟨_, rfl⟩
    subst hwo
    have HM := hidden hM
    clear hM
    by_cases h1 : i < N
    · obtain ⟨oa', oc', hoe, hops⟩ := HV.out
      simp only [Value.slice.injEq] at hoe
      obtain ⟨rfl, -, rfl⟩ := hoe
      obtain ⟨ob, oo, rfl, hcs⟩ := hops (by omega)
      have HCS := hidden hcs
      clear hops hcs
      obtain ⟨o, ho⟩ : ∃ o, f i = o := ⟨_, rfl⟩
      obtain ⟨key, value, gone⟩ := o
      have z := HCS.out i h1
      rw [ho] at z
      have HO := hidden ho
      have HZ := hidden z
      clear ho z
      have q1 : (i : Int) < (N : Int) := by omega
      have hkN : k < 4398046511104 := by omega
      go_wp2
      rename_i K KQ
      have REST : ∀ (j : Nat → Value) (p : Nat) (W : World), p ≤ k → (∀ t (h : t < m.keys.length), t < p → ltS m.keys[t] key = true) → (∀ (h : p < m.keys.length), ltS m.keys[p] key = false) → Same wo W → K (mpS (.slice (some ⟨ob, oo, none⟩) N oc) undef u2 (.pointer (some ⟨w1.heap.size, 0, none⟩)) (.slice ka k kc) (.slice va k vc) (.int .i64 (i : Int)) (.int .i64 (p : Int)) u8 u9 u10 u11 u12 (.bool true) (.bool false) (.agg #[.bool true, .slice none 0 0, .slice none 0 0, .slice none 0 0]) j) W := by
        intro j p W hp hlow hup hs
        refine KQ _ _ ?_
        clear KQ
        have hcnt : m.cnt key = p := Nd.cnt_is HM.out.good.leaf HM.out.good.up key (by rw [HM.out.len]; exact hp) (fun t h => hlow t (by rw [HM.out.len]; omega) h) hup
        have hh1 : ∀ (h : p < m.keys.length), m.has key = (m.keys[p].toList == key.toList) := by
          subst hcnt
          exact fun h => Nd.has_at HM.out.good.leaf key h
        have hh2 : p = k → m.has key = false := fun e => Nd.has_end key (by rw [hcnt, HM.out.len]; omega)
        have HMW := hidden (HM.out.keep hs)
        have zkW := cell_same HMW.out.same HZ.out.1
        refine wp_seq ?_
        refine rg11 (hs := m.has key) rfl (Row.own HMW.out.ks) HM.out.len hp h1 zkW hh1 hh2 ?_
        intro j2 W2 hs2
        show Code.wp _ _ _ _ _
        have HM2 := hidden (HMW.out.keep hs2)
        have zk := cell_same HM2.out.same HZ.out.1
        have zv := cell_same HM2.out.same HZ.out.2.1
        have zg := cell_same HM2.out.same HZ.out.2.2
        have u0 : (0 : Int) ≤ (i : Int) := Int.natCast_nonneg _
        try dsimp only at zk zv zg
        clear hh1 hh2 hs hs2 zkW hlow hup
        cases gone with
        | true =>
          cases hh : m.has key with
          | true =>
            have hpl : p < k := by rw [← hcnt, ← HM.out.len]; exact Nd.has_lt hh
            have hrm : m.rmv key = (⟨true, m.keys.eraseIdx p, m.vals.eraseIdx p, []⟩, true) := by unfold Nd.rmv; rw [hh, hcnt]; rfl
            have hg' : Nd.Good ⟨true, m.keys.eraseIdx p, m.vals.eraseIdx p, []⟩ := by have := (HM.out.good.rmv key).1; rw [hrm] at this; exact this
            have hl' : (m.keys.eraseIdx p).length = k - 1 := by rw [List.length_eraseIdx_of_lt (by rw [HM.out.len]; exact hpl), HM.out.len]
            have HCr : Hid (∀ W', Same W2 W' → Calls Tryd.prog 25 #[.agg #[.bool true, .slice a1 k c1, .slice a2 k c2, .slice a3 0 c3], .string key] W' fun e w' => ∃ u, e = .returned u ∧ RmP W' ⟨true, m.keys.eraseIdx p, m.vals.eraseIdx p, []⟩ true u w') := fun W' s' => by
              have z := remove_any m a1 a2 a3 k c1 k c2 0 c3 key W' (HM2.out.r1.same s') (HM2.out.r2.same s') (HM2.out.r3.same s') ⟨by rw [HM.out.len]; omega, by rw [HM.out.good.len, HM.out.len]; omega, by rw [HM.out.good.kids]; simp⟩ (by rw [HM.out.len]; omega) (by rw [HM.out.good.len, HM.out.len]; omega) (by rw [HM.out.good.kids]; simp) HM.out.good.chk
              rw [HM.out.good.leaf, hrm] at z
              exact z
            unfold mpS
            dsimp only
            go_wp2
            rename_i K3 KQ3
            refine to_mp _ _ _ _ _ _ _ _ _ _ _ _ _ _ _ _ rfl ?_
            intro j3
            refine rg13 rfl h1 zk HM2.out.box HCr.out ?_
            intro j4 b v W4 hb4 hbl hn4 hs4
            refine KQ3 _ _ ?_
            clear KQ3
            obtain ⟨b1, b2, b3, d1, d2, d3, rfl, o1, o2, o3⟩ := nf_open hn4 hg' hl'
            have HM4 := hidden (HM2.out.keep hs4)
            have HB4 := hidden hb4
            have O4 := hidden (And.intro o1 (And.intro o2 o3))
            have hBN := blk_lt HM2.out.box
            clear hn4 hb4 o1 o2 o3 HCr
            unfold mpS
            dsimp only
            go_wp2
            rename_i K5 KQ5
            refine to_mp _ _ _ _ _ _ _ _ _ _ _ _ _ _ _ _ rfl ?_
            intro j5
            refine rg17 rfl (Row.own HM4.out.ks) hpl (by omega) ?_
            intro j6 ka2 kc2 W6 ho6 hs6
            refine KQ5 _ _ ?_
            clear KQ5
            have HO6 := hidden ho6
            have HM6 := hidden (HM4.out.keep hs6)
            clear ho6
            unfold mpS
            dsimp only
            go_wp2
            rename_i K7 KQ7
            refine to_mp _ _ _ _ _ _ _ _ _ _ _ _ _ _ _ _ rfl ?_
            intro j7
            refine rg18 rfl (Row.own HM6.out.vs) hpl (by omega) ?_
            intro j8 va2 vc2 W8 ho8 hs8
            refine KQ7 _ _ ?_
            clear KQ7
            have hs48 := hs6.trans hs8
            have z4 := hs4.size
            have z6 := hs6.size
            have gB := blk_kept hs48 (fun h => h) HB4.out
            have gN := blk_kept hs8 (fun h => h) HM6.out.box
            have mi := mi_fill (w := w) (kl := m.keys.eraseIdx p) (vl := m.vals.eraseIdx p) (m := ⟨true, m.keys.eraseIdx p, m.vals.eraseIdx p, []⟩) hg' hl' gN (own_kept O4.out.1 hs48 (fun _ _ h => h)) (own_kept O4.out.2.1 hs48 (fun _ _ h => h)) (own_kept O4.out.2.2 hs48 (fun _ _ h => h)) (own_kept HO6.out hs8 (fun _ _ h => h)) (by omega) ho8 (by omega) (fun g e1 e2 => by have h3 := own_ltN HO6.out g e1; have h4 := own_geN ho8 g e2; omega) (HM6.out.same.trans hs8) HM.out.bn
            have p0 : W8.cell? ⟨b, 0, none⟩ = some (.bool true) := blk_cell gB
            have p1 : W8.cell? ⟨b, 1, none⟩ = some (.slice b1 (k - 1) d1) := blk_cell gB
            have p2 : W8.cell? ⟨b, 2, none⟩ = some (.slice b2 (k - 1) d2) := blk_cell gB
            have p3 : W8.cell? ⟨b, 3, none⟩ = some (.slice b3 0 d3) := blk_cell gB
            have n0 : W8.cell? ⟨w1.heap.size, 0, none⟩ = some (.bool true) := blk_cell gN
            have nf0 : W8.frozen? ⟨w1.heap.size, 0, none⟩ = false := blk_free gN
            have n1 : W8.cell? ⟨w1.heap.size, 1, none⟩ = some (.slice a1 k c1) := blk_cell gN
            have nf1 : W8.frozen? ⟨w1.heap.size, 1, none⟩ = false := blk_free gN
            have n2 : W8.cell? ⟨w1.heap.size, 2, none⟩ = some (.slice a2 k c2) := blk_cell gN
            have nf2 : W8.frozen? ⟨w1.heap.size, 2, none⟩ = false := blk_free gN
            have n3 : W8.cell? ⟨w1.heap.size, 3, none⟩ = some (.slice a3 0 c3) := blk_cell gN
            have nf3 : W8.frozen? ⟨w1.heap.size, 3, none⟩ = false := blk_free gN
            clear gB gN ho8 O4 HB4
            unfold mpS
            dsimp only
            have HM5 := hidden mi
            have y0 := blk_cell (j := 0) HM5.out.box
            have y1 := blk_cell (j := 1) HM5.out.box
            have y2 := blk_cell (j := 2) HM5.out.box
            have tok := hidden True.intro
            have hl5 : (⟨true, m.keys.eraseIdx p, m.vals.eraseIdx p, []⟩ : Nd).keys.length ≤ 17592186044416 := by have := HM5.out.len; omega
            have hl6 : (⟨true, m.keys.eraseIdx p, m.vals.eraseIdx p, []⟩ : Nd).vals.length ≤ 17592186044416 := by have := HM5.out.good.len; omega
            go_wp2_with (first
              | (go_at_call 30; have _t := tok; refine (sameTexts_eq (⟨true, m.keys.eraseIdx p, m.vals.eraseIdx p, []⟩ : Nd).keys b1 ka2 (k - 1) (k - 1) d1 kc2 _ HM5.out.r1 (Row.own HM5.out.ks) hl5).mono ?_; rintro e w8 ⟨rfl, k8⟩; have HM8 := hidden (HM5.out.keep k8); have x2 := blk_cell (j := 2) HM8.out.box; clear tok _t k8 HM5 y0 y1 y2)
              | (go_at_call 30; refine (sameTexts_eq (⟨true, m.keys.eraseIdx p, m.vals.eraseIdx p, []⟩ : Nd).vals b2 va2 (k - 1) (k - 1) d2 vc2 _ HM8.out.r2 (Row.own HM8.out.vs) hl6).mono ?_; rintro e w9 ⟨rfl, k9⟩; have HM9 := hidden (HM8.out.keep k9); clear k9))
            go_roundw
            case rel => exact ⟨i + 1, (⟨true, m.keys.eraseIdx p, m.vals.eraseIdx p, []⟩ : Nd), b1, b2, b3, ka2, va2, (k - 1), d1, d2, d3, kc2, vc2, by go_num, rfl, rfl, by omega, by omega, HM9.out⟩
            case measure => simp [intOf]; omega
          | false =>
            have hrm : m.rmv key = (m, false) := by unfold Nd.rmv; rw [hh]; rfl
            have HCr : Hid (∀ W', Same W2 W' → Calls Tryd.prog 25 #[.agg #[.bool true, .slice a1 k c1, .slice a2 k c2, .slice a3 0 c3], .string key] W' fun e w' => ∃ u, e = .returned u ∧ RmP W' m false u w') := fun W' s' => by
              have z := remove_any m a1 a2 a3 k c1 k c2 0 c3 key W' (HM2.out.r1.same s') (HM2.out.r2.same s') (HM2.out.r3.same s') ⟨by rw [HM.out.len]; omega, by rw [HM.out.good.len, HM.out.len]; omega, by rw [HM.out.good.kids]; simp⟩ (by rw [HM.out.len]; omega) (by rw [HM.out.good.len, HM.out.len]; omega) (by rw [HM.out.good.kids]; simp) HM.out.good.chk
              rw [HM.out.good.leaf, hrm] at z
              exact z
            unfold mpS
            dsimp only
            go_wp2
            rename_i K3 KQ3
            refine to_mp _ _ _ _ _ _ _ _ _ _ _ _ _ _ _ _ rfl ?_
            intro j3
            refine rg13 rfl h1 zk HM2.out.box HCr.out ?_
            intro j4 b v W4 hb4 hbl hn4 hs4
            refine KQ3 _ _ ?_
            clear KQ3
            obtain ⟨b1, b2, b3, d1, d2, d3, rfl, o1, o2, o3⟩ := nf_open hn4 HM.out.good HM.out.len
            have HM4 := hidden (HM2.out.keep hs4)
            have mi := mi_fill (w := w) HM.out.good HM.out.len HM4.out.box o1 o2 o3 HM4.out.ks (Nat.le_refl _) HM4.out.vs (Nat.le_refl _) HM.out.ap HM4.out.same HM.out.bn
            have p0 : W4.cell? ⟨b, 0, none⟩ = some (.bool true) := blk_cell hb4
            have p1 : W4.cell? ⟨b, 1, none⟩ = some (.slice b1 k d1) := blk_cell hb4
            have p2 : W4.cell? ⟨b, 2, none⟩ = some (.slice b2 k d2) := blk_cell hb4
            have p3 : W4.cell? ⟨b, 3, none⟩ = some (.slice b3 0 d3) := blk_cell hb4
            have n0 : W4.cell? ⟨w1.heap.size, 0, none⟩ = some (.bool true) := blk_cell HM4.out.box
            have nf0 : W4.frozen? ⟨w1.heap.size, 0, none⟩ = false := blk_free HM4.out.box
            have n1 : W4.cell? ⟨w1.heap.size, 1, none⟩ = some (.slice a1 k c1) := blk_cell HM4.out.box
            have nf1 : W4.frozen? ⟨w1.heap.size, 1, none⟩ = false := blk_free HM4.out.box
            have n2 : W4.cell? ⟨w1.heap.size, 2, none⟩ = some (.slice a2 k c2) := blk_cell HM4.out.box
            have nf2 : W4.frozen? ⟨w1.heap.size, 2, none⟩ = false := blk_free HM4.out.box
            have n3 : W4.cell? ⟨w1.heap.size, 3, none⟩ = some (.slice a3 0 c3) := blk_cell HM4.out.box
            have nf3 : W4.frozen? ⟨w1.heap.size, 3, none⟩ = false := blk_free HM4.out.box
            clear hn4 hb4 o1 o2 o3 HCr
            unfold mpS
            dsimp only
            have HM5 := hidden mi
            have y0 := blk_cell (j := 0) HM5.out.box
            have y1 := blk_cell (j := 1) HM5.out.box
            have y2 := blk_cell (j := 2) HM5.out.box
            have tok := hidden True.intro
            have hl5 : m.keys.length ≤ 17592186044416 := by have := HM5.out.len; omega
            have hl6 : m.vals.length ≤ 17592186044416 := by have := HM5.out.good.len; omega
            go_wp2_with (first
              | (go_at_call 30; have _t := tok; refine (sameTexts_eq m.keys b1 ka k k d1 kc _ HM5.out.r1 (Row.own HM5.out.ks) hl5).mono ?_; rintro e w8 ⟨rfl, k8⟩; have HM8 := hidden (HM5.out.keep k8); have x2 := blk_cell (j := 2) HM8.out.box; clear tok _t k8 HM5 y0 y1 y2)
              | (go_at_call 30; refine (sameTexts_eq m.vals b2 va k k d2 vc _ HM8.out.r2 (Row.own HM8.out.vs) hl6).mono ?_; rintro e w9 ⟨rfl, k9⟩; have HM9 := hidden (HM8.out.keep k9); clear k9))
            go_roundw
            case rel => exact ⟨i + 1, m, b1, b2, b3, ka, va, k, d1, d2, d3, kc, vc, by go_num, rfl, rfl, by omega, by omega, HM9.out⟩
            case measure => simp [intOf]; omega
        | false =>
          by_cases hmk : mayK key = true ∧ mayV value = true
          · have hpt := HM.out.good.put hmk.1 hmk.2
            have l1 : ¬ (key.size : Int) < 1 := by have := hmk.1; simp [mayK] at this; omega
            have l2 : ¬ (64 : Int) < (key.size : Int) := by have := hmk.1; simp [mayK] at this; omega
            have l3 : ¬ (64 : Int) < (value.size : Int) := by have := hmk.2; simp [mayV] at this; omega
            have l1n : ¬ key.size < 1 := by omega
            have l2n : ¬ 64 < key.size := by omega
            have l3n : ¬ 64 < value.size := by omega
            cases hh : m.has key with
            | true =>
              have hpl : p < k := by rw [← hcnt, ← HM.out.len]; exact Nd.has_lt hh
              have hpt1 : (m.put key value).1 = ⟨true, m.keys, m.vals.set p value, m.kids⟩ := by rw [hpt.2.2, if_pos hh, hcnt]
              have hpt2 := hpt.1
              have hg' : Nd.Good ⟨true, m.keys, m.vals.set p value, m.kids⟩ := by have := hpt.2.1; rw [hpt1] at this; exact this
              have HCp : Hid (∀ W', Same W2 W' → Calls Tryd.prog 22 #[.agg #[.bool true, .slice a1 k c1, .slice a2 k c2, .slice a3 0 c3], .string key, .string value] W' fun e w' => ∃ u, e = .returned u ∧ PuP W' ⟨true, m.keys, m.vals.set p value, m.kids⟩ 0 u w') := fun W' s' => by
                have z := put_any m a1 a2 a3 k c1 k c2 0 c3 key value W' (HM2.out.r1.same s') (HM2.out.r2.same s') (HM2.out.r3.same s') ⟨by rw [HM.out.len]; omega, by rw [HM.out.good.len, HM.out.len]; omega, by rw [HM.out.good.kids]; simp⟩ (by rw [HM.out.len]; omega)
                rw [HM.out.good.leaf] at z
                have e1 := hpt1
                have e2 := hpt2
                rw [e2] at z
                rw [e1] at z
                exact z
              unfold mpS
              dsimp only
              go_wp2
              rename_i K3 KQ3
              refine to_mp _ _ _ _ _ _ _ _ _ _ _ _ _ _ _ _ rfl ?_
              intro j3
              refine rg20 rfl h1 zk zv HM2.out.box HCp.out ?_
              intro j4 b v W4 hb4 hbl hn4 hs4
              refine KQ3 _ _ ?_
              clear KQ3
              obtain ⟨b1, b2, b3, d1, d2, d3, rfl, o1, o2, o3⟩ := nf_open (k := k) hn4 hg' HM.out.len
              have HM4 := hidden (HM2.out.keep hs4)
              have zk4 := hs4.cell (fun h => h) zk
              have zv4 := hs4.cell (fun h => h) zv
              obtain ⟨gv, hva, hgv⟩ : ∃ gv, va = some ⟨gv, 0, none⟩ ∧ gv < W2.heap.size := by
                rcases HM2.out.vs.2 with ⟨e1, e2⟩ | ⟨gv, cap, cur, e1, _, e3, _⟩
                · omega
                · simp only [Value.slice.injEq] at e1
                  exact ⟨gv, e1.1, blk_lt e3⟩
              have mi := mi_fill (w := w) (m := ⟨true, m.keys, m.vals.set p value, m.kids⟩) (kl := m.keys) (vl := m.vals) hg' HM.out.len HM4.out.box o1 o2 o3 HM4.out.ks (Nat.le_refl _) HM4.out.vs (Nat.le_refl _) HM.out.ap HM4.out.same HM.out.bn
              have q1' := fill_own o1 HM4.out.box (by decide) (.bool true) (.slice b1 k d1) (.slice b2 k d2) (.slice b3 0 d3)
              have q2' := fill_own o2 HM4.out.box (by decide) (.bool true) (.slice b1 k d1) (.slice b2 k d2) (.slice b3 0 d3)
              have q3' := fill_own o3 HM4.out.box (by decide) (.bool true) (.slice b1 k d1) (.slice b2 k d2) (.slice b3 0 d3)
              have mi2 := mi_set (p := p) (x := value) mi hva hgv q1' q2' q3'
              subst hva
              have hcv := own_cellN (i := p) mi.vs _ (TS_at m.vals (by rw [HM.out.good.len, HM.out.len]; exact hpl))
              have hcv1 := hcv.1
              have hcv2 := hcv.2
              have zv5 := cell_same (same_fill4 HM4.out.same HM.out.bn (.bool true) (.slice b1 k d1) (.slice b2 k d2) (.slice b3 0 d3)) HZ.out.2.1
              have t0p : (0 : Int) ≤ (p : Int) := Int.natCast_nonneg _
              have t1p : (p : Int) < (k : Int) := by omega
              have p0 : W4.cell? ⟨b, 0, none⟩ = some (.bool true) := blk_cell hb4
              have p1 : W4.cell? ⟨b, 1, none⟩ = some (.slice b1 k d1) := blk_cell hb4
              have p2 : W4.cell? ⟨b, 2, none⟩ = some (.slice b2 k d2) := blk_cell hb4
              have p3 : W4.cell? ⟨b, 3, none⟩ = some (.slice b3 0 d3) := blk_cell hb4
              have n0 : W4.cell? ⟨w1.heap.size, 0, none⟩ = some (.bool true) := blk_cell HM4.out.box
              have nf0 : W4.frozen? ⟨w1.heap.size, 0, none⟩ = false := blk_free HM4.out.box
              have n1 : W4.cell? ⟨w1.heap.size, 1, none⟩ = some (.slice a1 k c1) := blk_cell HM4.out.box
              have nf1 : W4.frozen? ⟨w1.heap.size, 1, none⟩ = false := blk_free HM4.out.box
              have n2 : W4.cell? ⟨w1.heap.size, 2, none⟩ = some (.slice a2 k c2) := blk_cell HM4.out.box
              have nf2 : W4.frozen? ⟨w1.heap.size, 2, none⟩ = false := blk_free HM4.out.box
              have n3 : W4.cell? ⟨w1.heap.size, 3, none⟩ = some (.slice a3 0 c3) := blk_cell HM4.out.box
              have nf3 : W4.frozen? ⟨w1.heap.size, 3, none⟩ = false := blk_free HM4.out.box
              have HMI2 := hidden mi2
              clear hn4 hb4 o1 o2 o3 HCp q1' q2' q3' mi2 mi hcv
              unfold mpS
              dsimp only
              have HM5 := hidden HMI2.out
              have y0 := blk_cell (j := 0) HM5.out.box
              have y1 := blk_cell (j := 1) HM5.out.box
              have y2 := blk_cell (j := 2) HM5.out.box
              have tok := hidden True.intro
              have hl5 : (⟨true, m.keys, m.vals.set p value, m.kids⟩ : Nd).keys.length ≤ 17592186044416 := by have := HM5.out.len; omega
              have hl6 : (⟨true, m.keys, m.vals.set p value, m.kids⟩ : Nd).vals.length ≤ 17592186044416 := by have := HM5.out.good.len; omega
              go_wp2_with (first
                | (go_at_call 30; have _t := tok; refine (sameTexts_eq (⟨true, m.keys, m.vals.set p value, m.kids⟩ : Nd).keys b1 ka k k d1 kc _ HM5.out.r1 (Row.own HM5.out.ks) hl5).mono ?_; rintro e w8 ⟨rfl, k8⟩; have HM8 := hidden (HM5.out.keep k8); have x2 := blk_cell (j := 2) HM8.out.box; clear tok _t k8 HM5 y0 y1 y2)
                | (go_at_call 30; refine (sameTexts_eq (⟨true, m.keys, m.vals.set p value, m.kids⟩ : Nd).vals b2 (some ⟨gv, 0, none⟩) k k d2 vc _ HM8.out.r2 (Row.own HM8.out.vs) hl6).mono ?_; rintro e w9 ⟨rfl, k9⟩; have HM9 := hidden (HM8.out.keep k9); clear k9))
              go_roundw
              case rel => exact ⟨i + 1, (⟨true, m.keys, m.vals.set p value, m.kids⟩ : Nd), b1, b2, b3, ka, (some ⟨gv, 0, none⟩), k, d1, d2, d3, kc, vc, by go_num, rfl, rfl, by omega, by omega, HM9.out⟩
              case measure => simp [intOf]; omega
            | false =>
              have hpt1 : (m.put key value).1 = ⟨true, insL m.keys p key, insL m.vals p value, m.kids⟩ := by rw [hpt.2.2, if_neg (by rw [hh]; simp), hcnt]
              have hpt2 := hpt.1
              have hg' : Nd.Good ⟨true, insL m.keys p key, insL m.vals p value, m.kids⟩ := by have := hpt.2.1; rw [hpt1] at this; exact this
              have hl' : (insL m.keys p key).length = k + 1 := by unfold insL; exact ins_len m.keys key HM.out.len hp
              have HCp : Hid (∀ W', Same W2 W' → Calls Tryd.prog 22 #[.agg #[.bool true, .slice a1 k c1, .slice a2 k c2, .slice a3 0 c3], .string key, .string value] W' fun e w' => ∃ u, e = .returned u ∧ PuP W' ⟨true, insL m.keys p key, insL m.vals p value, m.kids⟩ 0 u w') := fun W' s' => by
                have z := put_any m a1 a2 a3 k c1 k c2 0 c3 key value W' (HM2.out.r1.same s') (HM2.out.r2.same s') (HM2.out.r3.same s') ⟨by rw [HM.out.len]; omega, by rw [HM.out.good.len, HM.out.len]; omega, by rw [HM.out.good.kids]; simp⟩ (by rw [HM.out.len]; omega)
                rw [HM.out.good.leaf] at z
                have e1 := hpt1
                have e2 := hpt2
                rw [e2] at z
                rw [e1] at z
                exact z
              unfold mpS
              dsimp only
              go_wp2
              rename_i K3 KQ3
              refine to_mp _ _ _ _ _ _ _ _ _ _ _ _ _ _ _ _ rfl ?_
              intro j3
              refine rg20 rfl h1 zk zv HM2.out.box HCp.out ?_
              intro j4 b v W4 hb4 hbl hn4 hs4
              refine KQ3 _ _ ?_
              clear KQ3
              obtain ⟨b1, b2, b3, d1, d2, d3, rfl, o1, o2, o3⟩ := nf_open hn4 hg' hl'
              have HM4 := hidden (HM2.out.keep hs4)
              have zk4 := hs4.cell (fun h => h) zk
              have zv4 := hs4.cell (fun h => h) zv
              have p0 : W4.cell? ⟨b, 0, none⟩ = some (.bool true) := blk_cell hb4
              have p1 : W4.cell? ⟨b, 1, none⟩ = some (.slice b1 (k + 1) d1) := blk_cell hb4
              have p2 : W4.cell? ⟨b, 2, none⟩ = some (.slice b2 (k + 1) d2) := blk_cell hb4
              have p3 : W4.cell? ⟨b, 3, none⟩ = some (.slice b3 0 d3) := blk_cell hb4
              have n0 : W4.cell? ⟨w1.heap.size, 0, none⟩ = some (.bool true) := blk_cell HM4.out.box
              have nf0 : W4.frozen? ⟨w1.heap.size, 0, none⟩ = false := blk_free HM4.out.box
              have n1 : W4.cell? ⟨w1.heap.size, 1, none⟩ = some (.slice a1 k c1) := blk_cell HM4.out.box
              have nf1 : W4.frozen? ⟨w1.heap.size, 1, none⟩ = false := blk_free HM4.out.box
              have n2 : W4.cell? ⟨w1.heap.size, 2, none⟩ = some (.slice a2 k c2) := blk_cell HM4.out.box
              have nf2 : W4.frozen? ⟨w1.heap.size, 2, none⟩ = false := blk_free HM4.out.box
              have n3 : W4.cell? ⟨w1.heap.size, 3, none⟩ = some (.slice a3 0 c3) := blk_cell HM4.out.box
              have nf3 : W4.frozen? ⟨w1.heap.size, 3, none⟩ = false := blk_free HM4.out.box
              have HB4 := hidden hb4
              have O4 := hidden (And.intro o1 (And.intro o2 o3))
              clear hn4 hb4 o1 o2 o3 HCp
              unfold mpS
              dsimp only
              go_wp2
              have gF := fill4 HM4.out.box (.bool true) (.slice b1 (k + 1) d1) (.slice b2 (k + 1) d2) (.slice b3 0 d3)
              have kF := kept_fill4 (W := W4) (g := w1.heap.size) (.bool true) (.slice b1 (k + 1) d1) (.slice b2 (k + 1) d2) (.slice b3 0 d3)
              have sF := same_fill4 HM4.out.same HM.out.bn (.bool true) (.slice b1 (k + 1) d1) (.slice b2 (k + 1) d2) (.slice b3 0 d3)
              have f1 := fill_own O4.out.1 HM4.out.box (by decide) (.bool true) (.slice b1 (k + 1) d1) (.slice b2 (k + 1) d2) (.slice b3 0 d3)
              have f2 := fill_own O4.out.2.1 HM4.out.box (by decide) (.bool true) (.slice b1 (k + 1) d1) (.slice b2 (k + 1) d2) (.slice b3 0 d3)
              have f3 := fill_own O4.out.2.2 HM4.out.box (by decide) (.bool true) (.slice b1 (k + 1) d1) (.slice b2 (k + 1) d2) (.slice b3 0 d3)
              have f4 := fill_own HM4.out.ks HM4.out.box (by decide) (.bool true) (.slice b1 (k + 1) d1) (.slice b2 (k + 1) d2) (.slice b3 0 d3)
              have f5 := fill_own HM4.out.vs HM4.out.box (by decide) (.bool true) (.slice b1 (k + 1) d1) (.slice b2 (k + 1) d2) (.slice b3 0 d3)
              have zk5 := cell_same sF HZ.out.1
              have zv5 := cell_same sF HZ.out.2.1
              have hBN4 := blk_lt gF
              generalize (((W4.setCell ⟨w1.heap.size, 0, none⟩ (.bool true)).setCell ⟨w1.heap.size, 1, none⟩ (.slice b1 (k + 1) d1)).setCell ⟨w1.heap.size, 2, none⟩ (.slice b2 (k + 1) d2)).setCell ⟨w1.heap.size, 3, none⟩ (.slice b3 0 d3) = W5 at gF kF sF f1 f2 f3 f4 f5 zk5 zv5 hBN4 ⊢
              have FF := hidden (And.intro f1 (And.intro f2 f3))
              have F5 := hidden f5
              have GF := hidden gF
              have SF := hidden sF
              clear f1 f2 f3 f5 gF sF kF O4 HB4 p0 p1 p2 p3 n0 n1 n2 n3 nf0 nf1 nf2 nf3
              rename_i K5 KQ5
              refine to_mp _ _ _ _ _ _ _ _ _ _ _ _ _ _ _ _ rfl ?_
              intro j5
              refine rg29 (xx := key) rfl (Row.own f4) hp (by omega) h1 zk5 ?_
              intro j6 ka2 kc2 W6 ho6 hs6
              refine KQ5 _ _ ?_
              clear KQ5
              have HO6 := hidden ho6
              have zv6 := hs6.cell (fun h => h) zv5
              have f6 := own_kept F5.out hs6 (fun _ _ h => h)
              clear ho6
              unfold mpS
              dsimp only
              go_wp2
              rename_i K7 KQ7 hq7
              refine to_mp _ _ _ _ _ _ _ _ _ _ _ _ _ _ _ _ rfl ?_
              intro j7
              refine rg30 (xx := value) rfl (Row.own f6) hp (by omega) h1 zv6 ?_
              intro j8 va2 vc2 W8 ho8 hs8
              refine KQ7 _ _ ?_
              clear KQ7
              have hs58 := hs6.trans hs8
              have z6 := hs6.size
              have mi : MI w w1.heap.size ⟨true, insL m.keys p key, insL m.vals p value, m.kids⟩ (insL m.keys p key) (insL m.vals p value) b1 b2 b3 ka2 va2 (k + 1) d1 d2 d3 kc2 vc2 W8 := ⟨hg', hl', blk_kept hs58 (fun h => h) GF.out, Row.own (own_kept FF.out.1 hs58 (fun _ _ h => h)), Row.own (own_kept FF.out.2.1 hs58 (fun _ _ h => h)), Row.own (own_kept FF.out.2.2 hs58 (fun _ _ h => h)), own_mono (own_kept HO6.out hs8 (fun _ _ h => h)) (by omega), own_mono ho8 (by omega), (fun g e1 e2 => by have h3 := own_ltN HO6.out g e1; have h4 := own_geN ho8 g e2; omega), SF.out.trans hs58, HM.out.bn⟩
              clear ho8
              unfold mpS
              dsimp only
              have HM5 := hidden mi
              have y0 := blk_cell (j := 0) HM5.out.box
              have y1 := blk_cell (j := 1) HM5.out.box
              have y2 := blk_cell (j := 2) HM5.out.box
              have tok := hidden True.intro
              have hl5 : (⟨true, insL m.keys p key, insL m.vals p value, m.kids⟩ : Nd).keys.length ≤ 17592186044416 := by have := HM5.out.len; omega
              have hl6 : (⟨true, insL m.keys p key, insL m.vals p value, m.kids⟩ : Nd).vals.length ≤ 17592186044416 := by have := HM5.out.good.len; omega
              go_wp2_with (first
                | (go_at_call 30; have _t := tok; refine (sameTexts_eq (⟨true, insL m.keys p key, insL m.vals p value, m.kids⟩ : Nd).keys b1 ka2 (k + 1) (k + 1) d1 kc2 _ HM5.out.r1 (Row.own HM5.out.ks) hl5).mono ?_; rintro e w8 ⟨rfl, k8⟩; have HM8 := hidden (HM5.out.keep k8); have x2 := blk_cell (j := 2) HM8.out.box; clear tok _t k8 HM5 y0 y1 y2)
                | (go_at_call 30; refine (sameTexts_eq (⟨true, insL m.keys p key, insL m.vals p value, m.kids⟩ : Nd).vals b2 va2 (k + 1) (k + 1) d2 vc2 _ HM8.out.r2 (Row.own HM8.out.vs) hl6).mono ?_; rintro e w9 ⟨rfl, k9⟩; have HM9 := hidden (HM8.out.keep k9); clear k9))
              go_roundw
              case rel => exact ⟨i + 1, (⟨true, insL m.keys p key, insL m.vals p value, m.kids⟩ : Nd), b1, b2, b3, ka2, va2, (k + 1), d1, d2, d3, kc2, vc2, by go_num, rfl, rfl, by omega, by omega, HM9.out⟩
              case measure => simp [intOf]; omega
          · have hpt2 : (m.put key value).2 = 91 := HM.out.good.refused (by cases e1 : mayK key <;> cases e2 : mayV value <;> simp_all)
            obtain ⟨mz, hmz⟩ : ∃ mz, mz = (m.put key value).1 := ⟨_, rfl⟩
            have hpt1 : (m.put key value).1 = mz := hmz.symm
            clear hmz
            have HCp : Hid (∀ W', Same W2 W' → Calls Tryd.prog 22 #[.agg #[.bool true, .slice a1 k c1, .slice a2 k c2, .slice a3 0 c3], .string key, .string value] W' fun e w' => ∃ u, e = .returned u ∧ PuP W' mz 91 u w') := fun W' s' => by
              have z := put_any m a1 a2 a3 k c1 k c2 0 c3 key value W' (HM2.out.r1.same s') (HM2.out.r2.same s') (HM2.out.r3.same s') ⟨by rw [HM.out.len]; omega, by rw [HM.out.good.len, HM.out.len]; omega, by rw [HM.out.good.kids]; simp⟩ (by rw [HM.out.len]; omega)
              rw [HM.out.good.leaf] at z
              have e1 := hpt1
              have e2 := hpt2
              rw [e2] at z
              rw [e1] at z
              exact z
            by_cases l1 : (key.size : Int) < 1
            · have l1n : key.size < 1 := by omega
              unfold mpS
              dsimp only
              go_wp2
              rename_i K3 KQ3
              refine to_mp _ _ _ _ _ _ _ _ _ _ _ _ _ _ _ _ rfl ?_
              intro j3
              refine rg20 rfl h1 zk zv HM2.out.box HCp.out ?_
              intro j4 b v W4 hb4 hbl hn4 hs4
              refine KQ3 _ _ ?_
              clear KQ3
              have HM4 := hidden (HM2.out.keep hs4)
              have zk4 := hs4.cell (fun h => h) zk
              have zv4 := hs4.cell (fun h => h) zv
              clear hn4 hb4 HCp
              unfold mpS
              dsimp only
              go_wp2
              go_roundw
              case rel => exact ⟨i + 1, m, a1, a2, a3, ka, va, k, c1, c2, c3, kc, vc, by go_num, rfl, rfl, by omega, by omega, HM4.out⟩
              case measure => simp [intOf]; omega
            · have l1n : ¬ key.size < 1 := by omega
              by_cases l2 : (64 : Int) < (key.size : Int)
              · have l2n : 64 < key.size := by omega
                unfold mpS
                dsimp only
                go_wp2
                rename_i K3 KQ3
                refine to_mp _ _ _ _ _ _ _ _ _ _ _ _ _ _ _ _ rfl ?_
                intro j3
                refine rg20 rfl h1 zk zv HM2.out.box HCp.out ?_
                intro j4 b v W4 hb4 hbl hn4 hs4
                refine KQ3 _ _ ?_
                clear KQ3
                have HM4 := hidden (HM2.out.keep hs4)
                have zk4 := hs4.cell (fun h => h) zk
                have zv4 := hs4.cell (fun h => h) zv
                clear hn4 hb4 HCp
                unfold mpS
                dsimp only
                go_wp2
                go_roundw
                case rel => exact ⟨i + 1, m, a1, a2, a3, ka, va, k, c1, c2, c3, kc, vc, by go_num, rfl, rfl, by omega, by omega, HM4.out⟩
                case measure => simp [intOf]; omega
              · have l2n : ¬ 64 < key.size := by omega
                have l3 : (64 : Int) < (value.size : Int) := by
                  by_cases e : value.size ≤ 64
                  · exact absurd ⟨by simp [mayK]; omega, by simp [mayV]; omega⟩ hmk
                  · omega
                have l3n : 64 < value.size := by omega
                unfold mpS
                dsimp only
                go_wp2
                rename_i K3 KQ3
                refine to_mp _ _ _ _ _ _ _ _ _ _ _ _ _ _ _ _ rfl ?_
                intro j3
                refine rg20 rfl h1 zk zv HM2.out.box HCp.out ?_
                intro j4 b v W4 hb4 hbl hn4 hs4
                refine KQ3 _ _ ?_
                clear KQ3
                have HM4 := hidden (HM2.out.keep hs4)
                have zk4 := hs4.cell (fun h => h) zk
                have zv4 := hs4.cell (fun h => h) zv
                clear hn4 hb4 HCp
                unfold mpS
                dsimp only
                go_wp2
                go_roundw
                case rel => exact ⟨i + 1, m, a1, a2, a3, ka, va, k, c1, c2, c3, kc, vc, by go_num, rfl, rfl, by omega, by omega, HM4.out⟩
                case measure => simp [intOf]; omega
      have RS := hidden REST
      clear REST KQ
      go_loopw [7] (fun p wi => ∃ p' : Nat, p = .int .i64 p' ∧ p' ≤ k ∧ (∀ t (h : t < m.keys.length), t < p' → ltS m.keys[t] key = true) ∧ Same wo wi) (fun p _ => k - (intOf p).toNat)
      case atStart => exact ⟨0, rfl, Nat.zero_le _, (fun t h ht => by omega), Kept.refl _ _⟩
      case round =>
        obtain ⟨p, rfl, hp, hlow, hs⟩ := hrel
        have HS := hidden hs
        have HLO := hidden hlow
        clear hs hlow
        have kk := HM.out.same.trans HS.out
        have zk : wr.cell? ⟨ob, oo + i * 3, none⟩ = some (.string key) := cell_same kk HZ.out.1
        clear kk
        by_cases h2 : p < k
        · have hpl : p < m.keys.length := by rw [HM.out.len]; exact h2
          obtain ⟨kb, ko, hka, hc⟩ := ((Row.own HM.out.ks).same HS.out).text hpl
          subst hka
          obtain ⟨x, hx⟩ : ∃ x, m.keys[p] = x := ⟨_, rfl⟩
          rw [hx] at hc
          have HX := hidden hx
          clear hx
          have t1 : (p : Int) < (k : Int) := by omega
          have t1d : decide ((p : Int) < (k : Int)) = true := by simp; omega
          have t1e : decide (p < k) = true := by simp; omega
          have t0 : (0 : Int) ≤ (p : Int) := Int.natCast_nonneg _
          have u0 : (0 : Int) ≤ (i : Int) := Int.natCast_nonneg _
          cases hm : ltS x key
          · have f1 := less_of hm
            go_wp2
            go_quiet (fail)
            go_wp2
            refine to_mpK (K := K) rfl (fun j' => RS.out j' p _ hp HLO.out (fun h => by rw [HX.out]; exact hm) (HS.out.trans ((Kept.refl _ _).drewN _)))
          · have f1 := less_of hm
            go_wp2
            go_quiet (fail)
            go_wp2
            go_roundw
            case rel =>
              refine ⟨p + 1, by go_num, by omega, (fun t h ht => ?_), HS.out.trans ((Kept.refl _ _).drewN _)⟩
              rcases Nat.lt_or_ge t p with h3 | h3
              · exact HLO.out t h h3
              · obtain rfl : t = p := by omega
                rw [HX.out]
                exact hm
            case measure => simp [intOf]; omega
        · have hpk : p = k := by omega
          have t1 : ¬ (p : Int) < (k : Int) := by omega
          have t1d : decide ((p : Int) < (k : Int)) = false := by simp; omega
          have t1e : decide (p < k) = false := by simp; omega
          have HPK := hidden hpk
          clear hpk h2
          go_wp2
          go_quiet (fail)
          go_wp2
          refine to_mpK (K := K) rfl (fun j' => RS.out j' p _ hp HLO.out (fun h => by have := HM.out.len; have := HPK.out; omega) (HS.out.trans ((Kept.refl _ _).drewN _)))
    · obtain rfl : i = N := by omega
      have q1 : ¬ (i : Int) < (i : Int) := by omega
      go_wp2
      go_returns
      exact ⟨rfl, HM.out.same⟩
end Go.Proofs.YtilnogadopmboaaDoor
